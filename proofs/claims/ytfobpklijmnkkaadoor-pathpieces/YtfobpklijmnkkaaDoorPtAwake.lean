/- The fixed texts that every statement on paths asks of first: one that is a path, three that are none; no conditions. -/
import Derived.Test.YtfobpklijmnkkaaDoorPtClean
namespace Go.Proofs.YtfobpklijmnkkaaDoor
open Go.RowKit

theorem plit1 : cstr (bl { data := #[97, 47, 46, 47, 98, 47, 47, 46, 46, 47, 99, 46, 111] }) = [97, 47, 99, 46, 111] ∧ cerr (bl { data := #[97, 47, 46, 47, 98, 47, 47, 46, 46, 47, 99, 46, 111] }) = 0 := by decide +kernel
theorem plit2 : cstr (bl { data := #[46, 46, 47, 97] }) = [] ∧ cerr (bl { data := #[46, 46, 47, 97] }) = 200 := by decide +kernel
theorem plit3 : cstr (bl { data := #[47, 97] }) = [] ∧ cerr (bl { data := #[47, 97] }) = 200 := by decide +kernel
theorem plit4 : cstr (bl { data := #[97, 47, 46, 46] }) = [] ∧ cerr (bl { data := #[97, 47, 46, 46] }) = 200 := by decide +kernel

set_option maxHeartbeats 1000000 in
theorem pawake_any (w : World) :
    Calls Tryd.prog 10 #[] w fun e w' => e = .returned (.bool true) ∧ Q w w' := by
  go_enter Tryd.func10, Tryd.ntmps10
  go_wp2_with fail
  refine (clean_any _ _ (by unfold maxLen; decide)).mono ?_
  rintro e w1 ⟨rfl, q1⟩
  rw [plit1.1, plit1.2]
  go_wp2_with fail
  refine (clean_any _ _ (by unfold maxLen; decide)).mono ?_
  rintro e w2 ⟨rfl, q2⟩
  rw [plit2.1, plit2.2]
  go_wp2_with fail
  refine (clean_any _ _ (by unfold maxLen; decide)).mono ?_
  rintro e w3 ⟨rfl, q3⟩
  rw [plit3.1, plit3.2]
  go_wp2_with fail
  refine (clean_any _ _ (by unfold maxLen; decide)).mono ?_
  rintro e w4 ⟨rfl, q4⟩
  rw [plit4.1, plit4.2]
  have q := q1.trans (q2.trans (q3.trans q4))
  clear q1 q2 q3 q4
  go_wp2_with (go_at_call 9; refine (num_any _ _).mono ?_; rintro e w' ⟨rfl, rfl⟩)
  go_ret
  exact ⟨rfl, q⟩

end Go.Proofs.YtfobpklijmnkkaaDoor
