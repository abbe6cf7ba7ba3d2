/- The fixed texts that every statement on pieces asks of first: one that is cut, three that are refused; no conditions. -/
import Derived.Test.YteoldaibnndnfaaPcSame
namespace Go.Proofs.Yteoldaibnndnfaa
open Go.RowKit

theorem cut_at {ps : List Pc} {n : Int} (s : ByteArray) (w : World) (hs : s.size ≤ maxLen) (h : cutP (bl s) = ps ∧ cutE (bl s) = n) :
    Calls Try.prog 7 #[.string s] w fun e w' => ∃ ao cap, e = .returned (.tuple #[.slice ao ps.length cap, .int .i64 n]) ∧ OwnP w' w.heap.size ao cap ps ∧ Q w w' := by
  have := cut_any s w hs
  rw [h.1, h.2] at this
  exact this

def awP : List Pc := [(false, [99, 99, 32]), (true, [105, 110]), (false, [32, 45, 111, 32]), (true, [111, 117, 116]), (false, [120, 32, 36, 32, 58])]
theorem pclit1 : cutP (bl { data := #[99, 99, 32, 36, 105, 110, 32, 45, 111, 32, 36, 123, 111, 117, 116, 125, 120, 32, 36, 36, 36, 32, 36, 58] }) = awP ∧ cutE (bl { data := #[99, 99, 32, 36, 105, 110, 32, 45, 111, 32, 36, 123, 111, 117, 116, 125, 120, 32, 36, 36, 36, 32, 36, 58] }) = 0 := by decide +kernel
theorem pclit2 : cutP (bl { data := #[97, 36] }) = [] ∧ cutE (bl { data := #[97, 36] }) = 300 := by decide +kernel
theorem pclit3 : cutP (bl { data := #[36, 123, 97] }) = [] ∧ cutE (bl { data := #[36, 123, 97] }) = 300 := by decide +kernel
theorem pclit4 : cutP (bl { data := #[36, 45] }) = [] ∧ cutE (bl { data := #[36, 45] }) = 300 := by decide +kernel

set_option maxHeartbeats 2000000 in
theorem pcawake_any (w : World) :
    Calls Try.prog 12 #[] w fun e w' => e = .returned (.bool true) ∧ Q w w' := by
  go_enter Try.func12, Try.ntmps12
  go_wp2_with fail
  refine (cut_at _ _ (by unfold maxLen; decide) pclit1).mono ?_
  rintro e w1 ⟨ao, cap, rfl, hown, q1⟩
  go_wp2_with fail
  refine (cut_at _ _ (by unfold maxLen; decide) pclit2).mono ?_
  rintro e w2 ⟨ao2, cap2, rfl, _, q2⟩
  go_wp2_with fail
  refine (cut_at _ _ (by unfold maxLen; decide) pclit3).mono ?_
  rintro e w3 ⟨ao3, cap3, rfl, _, q3⟩
  go_wp2_with fail
  refine (cut_at _ _ (by unfold maxLen; decide) pclit4).mono ?_
  rintro e w4 ⟨ao4, cap4, rfl, _, q4⟩
  have q := q1.trans (q2.trans (q3.trans q4))
  have HR := hide (hown.row.q (q2.trans (q3.trans q4)))
  clear hown q1 q2 q3 q4
  go_wp2_with fail
  refine (same_any ao _ cap 5 awP awP _ ((unhide HR).q ((Q.refl _).alloc _)) (rowG_block pv_len _ _ _ awP rfl) (by decide)).mono ?_
  rintro e w5 ⟨rfl, q5⟩
  rw [decide_eq_true (rfl : awP = awP)]
  have qq := q.trans (((Q.refl _).alloc _).trans q5)
  clear q q5
  go_wp2_with (go_at_call 10; refine (num_any _ _).mono ?_; rintro e w' ⟨rfl, rfl⟩)
  go_ret
  exact ⟨rfl, qq⟩

end Go.Proofs.Yteoldaibnndnfaa
