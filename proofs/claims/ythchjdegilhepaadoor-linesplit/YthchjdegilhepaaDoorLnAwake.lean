/- The fixed texts that every statement on lines asks of first: one that is cut, two that are refused, the empty one; no conditions. -/
import Derived.Test.YthchjdegilhepaaDoorLnDo
import Derived.Test.YthchjdegilhepaaDoorLnSame
namespace Go.Proofs.YthchjdegilhepaaDoor
open Go.RowKit

theorem cutl_at {ps : List Ln} {n : Int} (s : ByteArray) (w : World) (hs : s.size ≤ maxLen) (h : lnS (bl s) = ps ∧ lnE (bl s) = n) :
    Calls Tryd.prog 8 #[.string s] w fun e w' => ∃ ao cap, e = .returned (.tuple #[.slice ao ps.length cap, .int .i64 n]) ∧ OwnL w' w.heap.size ao cap ps ∧ Q w w' := by
  have := cutl_any s w hs
  unfold CutSays at this
  rw [h.1, h.2] at this
  exact this

def awL : List Ln := [(false, [97, 32, 61, 32, 98]), (true, [99, 32, 36, 36])]
theorem lnlit1 : lnS (bl { data := #[97, 32, 61, 32, 36, 10, 32, 32, 32, 98, 10, 32, 35, 32, 110, 111, 10, 10, 32, 32, 99, 32, 36, 36, 10] }) = awL ∧ lnE (bl { data := #[97, 32, 61, 32, 36, 10, 32, 32, 32, 98, 10, 32, 35, 32, 110, 111, 10, 10, 32, 32, 99, 32, 36, 36, 10] }) = 0 := by decide +kernel
theorem lnlit2 : lnS (bl { data := #[97] }) = [] ∧ lnE (bl { data := #[97] }) = 600 := by decide +kernel
theorem lnlit3 : lnS (bl { data := #[97, 36, 10] }) = [] ∧ lnE (bl { data := #[97, 36, 10] }) = 600 := by decide +kernel
theorem lnlit4 : lnS (bl { data := #[] }) = [] ∧ lnE (bl { data := #[] }) = 0 := by decide +kernel

set_option maxHeartbeats 2000000 in
theorem lnawake_any (w : World) :
    Calls Tryd.prog 13 #[] w fun e w' => e = .returned (.bool true) ∧ Q w w' := by
  go_enter Tryd.func13, Tryd.ntmps13
  go_wp2_with fail
  refine (cutl_at _ _ (by unfold maxLen; decide) lnlit1).mono ?_
  rintro e w1 ⟨ao, cap, rfl, hown, q1⟩
  go_wp2_with fail
  refine (cutl_at _ _ (by unfold maxLen; decide) lnlit2).mono ?_
  rintro e w2 ⟨ao2, cap2, rfl, _, q2⟩
  go_wp2_with fail
  refine (cutl_at _ _ (by unfold maxLen; decide) lnlit3).mono ?_
  rintro e w3 ⟨ao3, cap3, rfl, _, q3⟩
  go_wp2_with fail
  refine (cutl_at _ _ (by unfold maxLen; decide) lnlit4).mono ?_
  rintro e w4 ⟨ao4, cap4, rfl, _, q4⟩
  have q := q1.trans (q2.trans (q3.trans q4))
  have HR := hide (hown.row.q (q2.trans (q3.trans q4)))
  clear hown q1 q2 q3 q4
  go_wp2_with fail
  refine (sameL_any ao _ cap 2 awL awL _ ((unhide HR).q ((Q.refl _).alloc _)) (rowG_block lv_len _ _ _ awL rfl) (by decide)).mono ?_
  rintro e w5 ⟨rfl, q5⟩
  rw [decide_eq_true (rfl : awL = awL)]
  have qq := q.trans (((Q.refl _).alloc _).trans q5)
  clear q q5
  go_wp2_with (go_at_call 11; refine (num_any _ _).mono ?_; rintro e w' ⟨rfl, rfl⟩)
  go_ret
  exact ⟨rfl, qq⟩

end Go.Proofs.YthchjdegilhepaaDoor
