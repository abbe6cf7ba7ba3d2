/- The fixed texts that every statement on names asks of first: one that is a name, three that are none; no conditions. -/
import Derived.Test.YtpdficlpkchdlaaNmMay
namespace Go.Proofs.Ytpdficlpkchdlaa
open Go.RowKit

theorem lit1 : mayB { data := #[97, 47, 98, 45, 99, 95, 49, 46, 111] } = true := by decide
theorem lit2 : mayB { data := #[] } = false := by decide
theorem lit3 : mayB { data := #[65] } = false := by decide
theorem lit4 : mayB { data := #[97, 98, 99, 100, 101, 102, 103, 104, 105, 106, 107, 108, 109, 110, 111, 112, 113] } = false := by decide

set_option maxHeartbeats 1000000 in
theorem awake_any (w : World) :
    Calls Try.prog 9 #[] w fun e w' => e = .returned (.bool true) ∧ Q w w' := by
  go_enter Try.func9, Try.ntmps9
  go_wp2_with fail
  refine (may_any _ _ (by unfold maxLen; decide)).mono ?_
  rintro e w1 ⟨rfl, q1⟩
  rw [lit1]
  go_wp2_with fail
  refine (may_any _ _ (by unfold maxLen; decide)).mono ?_
  rintro e w2 ⟨rfl, q2⟩
  rw [lit2]
  go_wp2_with fail
  refine (may_any _ _ (by unfold maxLen; decide)).mono ?_
  rintro e w3 ⟨rfl, q3⟩
  rw [lit3]
  go_wp2_with fail
  refine (may_any _ _ (by unfold maxLen; decide)).mono ?_
  rintro e w4 ⟨rfl, q4⟩
  rw [lit4]
  go_wp2_with fail
  go_ret
  exact ⟨rfl, q1.trans (q2.trans (q3.trans q4))⟩

end Go.Proofs.Ytpdficlpkchdlaa
