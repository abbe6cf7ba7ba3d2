/- The fixed manifests that every statement on manifests asks of first; the conditions: the table of blanks lies in memory. -/
import Derived.Test.YtpddckgkaopnlaaGreatDoorBnMfMayWalk
import Derived.Test.YtpddckgkaopnlaaGreatDoorPk1
namespace Go.Proofs.YtpddckgkaopnlaaGreatDoor
open Go.RowKit

/-- Blocks, one behind the other. -/
def edX1 (n : Nat) : EdA := (edA1, (some ⟨n + 1, 0, none⟩, 1), (some ⟨n + 1 + 1, 0, none⟩, 1), (some ⟨n + 1 + 1 + 1, 0, none⟩, 1), (none, 0))
def edX2 (n : Nat) : EdA := (edA2, (some ⟨n + 1 + 1 + 1 + 1, 0, none⟩, 1), (some ⟨n + 1 + 1 + 1 + 1 + 1, 0, none⟩, 1), (none, 0), (some ⟨n + 1 + 1 + 1 + 1 + 1 + 1, 0, none⟩, 1))
def awL (n : Nat) (v : Array Value) : List (Array Value × TypeId) := [(v, 26),
  (#[.string { data := #[97, 46, 111] }], 9), (#[.string { data := #[97, 46, 99] }], 9), (#[.string { data := #[97, 46, 104] }], 9),
  (#[.string { data := #[98, 46, 111] }], 9), (#[.string { data := #[98, 46, 99] }], 9), (#[.string { data := #[97, 46, 111] }], 9),
  ((ev (edX1 n) ++ ev (edX2 n)).toArray, 65), (#[.string { data := #[116, 119, 111] }, .int .i64 2], 73), (#[.string { data := #[98, 46, 111] }], 9),
  (#[.slice (some ⟨n + 1 + 1 + 1 + 1 + 1 + 1 + 1, 0, none⟩) 2 2, .slice (some ⟨n + 1 + 1 + 1 + 1 + 1 + 1 + 1 + 1, 0, none⟩) 1 1, .slice (some ⟨n + 1 + 1 + 1 + 1 + 1 + 1 + 1 + 1 + 1, 0, none⟩) 1 1], 26)]
theorem awL_row (w : World) (v : Array Value) (n : Nat) (hn : w.heap.size = n) : GrR (al w (awL n v)) grA [edX1 n, edX2 n] (some ⟨n + 1 + 1 + 1 + 1 + 1 + 1 + 1, 0, none⟩) (some ⟨n + 1 + 1 + 1 + 1 + 1 + 1 + 1 + 1, 0, none⟩) (some ⟨n + 1 + 1 + 1 + 1 + 1 + 1 + 1 + 1 + 1, 0, none⟩) := by
  subst hn
  have b1 := al_blk (awL w.heap.size v) w 1 _ rfl
  have b2 := al_blk (awL w.heap.size v) w 2 _ rfl
  have b3 := al_blk (awL w.heap.size v) w 3 _ rfl
  have b4 := al_blk (awL w.heap.size v) w 4 _ rfl
  have b5 := al_blk (awL w.heap.size v) w 5 _ rfl
  have b6 := al_blk (awL w.heap.size v) w 6 _ rfl
  have b7 := al_blk (awL w.heap.size v) w 7 _ rfl
  have b8 := al_blk (awL w.heap.size v) w 8 _ rfl
  have b9 := al_blk (awL w.heap.size v) w 9 _ rfl
  refine ⟨rowB ev_len b7 [edX1 w.heap.size, edX2 w.heap.size] rfl, rfl, rowB plv_len b8 [([116, 119, 111], 2)] rfl, rowB tv_len b9 [[98, 46, 111]] rfl, ?_, ?_, (by show (2 : Nat) ≤ 4096; decide), by decide, by decide⟩
  · intro x hx
    simp only [List.mem_cons, List.not_mem_nil, or_false] at hx
    rcases hx with rfl | rfl
    · exact ⟨rowB tv_len b1 [[97, 46, 111]] rfl, rowB tv_len b2 [[97, 46, 99]] rfl, rowB tv_len b3 [[97, 46, 104]] rfl, Or.inl rfl⟩
    · exact ⟨rowB tv_len b4 [[98, 46, 111]] rfl, rowB tv_len b5 [[98, 46, 99]] rfl, Or.inl rfl, rowB tv_len b6 [[97, 46, 111]] rfl⟩
  · intro x hx
    simp only [List.mem_cons, List.not_mem_nil, or_false] at hx
    rcases hx with rfl | rfl
    · exact ⟨(by show (1 : Nat) ≤ 4096; decide), (by show (1 : Nat) ≤ 4096; decide), (by show (1 : Nat) ≤ 4096; decide), (by show (0 : Nat) ≤ 4096; decide)⟩
    · exact ⟨(by show (1 : Nat) ≤ 4096; decide), (by show (1 : Nat) ≤ 4096; decide), (by show (0 : Nat) ≤ 4096; decide), (by show (1 : Nat) ≤ 4096; decide)⟩

theorem text_any (w : World) : Calls Tryz.prog 23 #[] w fun e w' => e = .returned (.string ⟨txA.toArray⟩) ∧ w' = w := by
  go_enter Tryz.func23, Tryz.ntmps23
  go_wp2_with fail
  go_ret
  exact ⟨rfl, rfl⟩

theorem mfA' : mfG (bl ⟨txA.toArray⟩) = grA ∧ mfE (bl ⟨txA.toArray⟩) = 0 := mf_of mfA
theorem mfB' : mfL (bl { data := #[114, 117, 108, 101, 32, 99, 99, 10] }) = .error 800 := mfB
theorem mfC' : mfL (bl { data := #[98, 117, 105, 108, 100, 32, 97, 32, 58, 32, 99, 99, 32, 98, 10] }) = .error 800 := mfC

set_option maxRecDepth 20000 in
set_option maxHeartbeats 8000000 in
theorem mfawake_any (w : World) (htab : TabB w.heap.size w) :
    Calls Tryz.prog 9 #[] w fun e w' => e = .returned (.bool true) ∧ Q w w' := by
  have HT := hide htab
  clear htab
  go_enter Tryz.func9, Tryz.ntmps9
  go_wp2_with fail
  refine (text_any w).mono ?_
  rintro e w0 ⟨rfl, rfl⟩
  generalize hA : (⟨txA.toArray⟩ : ByteArray) = bA
  have HA := hide hA
  clear hA
  go_wp2_with fail
  refine (parse_gr (g := grA) (n := 0) bA _ (unhide HT) (by rw [← unhide HA]; decide +kernel) (by rw [← unhide HA]; exact mfA')).mono ?_
  rintro e w1 ⟨es, eo, po, dd, ec, pc, dc, rfl, hr1, q1⟩
  have HR := hide hr1
  clear hr1
  go_wp2_with fail
  refine (parse_bad (n := 800) _ _ ((unhide HT).q (q1.trans ((Q.refl _).alloc _))) (by decide +kernel) mfB').mono ?_
  rintro e w2 ⟨e2, p2, d2, i1, i2, i3, rfl, q2⟩
  have b1 := (Blk.new w1 #[.slice eo es.length ec, .slice po grA.2.1.length pc, .slice dd grA.2.2.length dc] 26).q q2
  have q12 := ((Q.refl w1).alloc (.cells #[.slice eo es.length ec, .slice po grA.2.1.length pc, .slice dd grA.2.2.length dc] 26)).trans q2
  have HR2 := hide ((unhide HR).q' q12)
  have qq := q1.trans q12
  have HB1 := hide b1
  clear b1 q2 HR q12 q1
  generalize w1.heap.size = G1 at *
  go_wp2_with fail
  refine (parse_bad (n := 800) _ _ ((unhide HT).q (qq.trans ((Q.refl _).alloc _))) (by decide +kernel) mfC').mono ?_
  rintro e w3 ⟨e3, p3, d3, j1, j2, j3, rfl, q3⟩
  have q23 := ((Q.refl w2).alloc (.cells #[.slice e2 0 i1, .slice p2 0 i2, .slice d2 0 i3] 26)).trans q3
  have HR3 := hide ((unhide HR2).q' q23)
  have HB3 := hide ((unhide HB1).q q23)
  have qq3 := qq.trans q23
  clear q23 HR2 HB1 qq q3
  go_upto_region 5 with fail
  change Code.wp _ _ _ _ (al w3 (awL w3.heap.size #[.slice e3 0 j1, .slice p3 0 j2, .slice d3 0 j3]))
  have qw := al_q (awL w3.heap.size #[.slice e3 0 j1, .slice p3 0 j2, .slice d3 0 j3]) w3
  have HW := hide (awL_row w3 #[.slice e3 0 j1, .slice p3 0 j2, .slice d3 0 j3] _ rfl)
  have HR4 := hide ((unhide HR3).q' qw)
  have b4 := (unhide HB3).q qw
  have b10 := al_blk (awL w3.heap.size #[.slice e3 0 j1, .slice p3 0 j2, .slice d3 0 j3]) w3 10 _ rfl
  have q4 := qq3.trans qw
  clear qw HR3 HB3 qq3
  generalize al w3 (awL w3.heap.size #[.slice e3 0 j1, .slice p3 0 j2, .slice d3 0 j3]) = w4 at *
  generalize w3.heap.size = n3 at *
  have k0 : w4.cell? ⟨G1, 0, none⟩ = some (.slice eo es.length ec) := b4.cell 0 rfl
  have k1 : w4.cell? ⟨G1, 1, none⟩ = some (.slice po grA.2.1.length pc) := b4.cell 1 rfl
  have k2 : w4.cell? ⟨G1, 2, none⟩ = some (.slice dd grA.2.2.length dc) := b4.cell 2 rfl
  have l0 : w4.cell? ⟨n3 + 1 + 1 + 1 + 1 + 1 + 1 + 1 + 1 + 1 + 1, 0, none⟩ = some (.slice (some ⟨n3 + 1 + 1 + 1 + 1 + 1 + 1 + 1, 0, none⟩) 2 2) := b10.cell 0 rfl
  have l1 : w4.cell? ⟨n3 + 1 + 1 + 1 + 1 + 1 + 1 + 1 + 1 + 1 + 1, 1, none⟩ = some (.slice (some ⟨n3 + 1 + 1 + 1 + 1 + 1 + 1 + 1 + 1, 0, none⟩) 1 1) := b10.cell 1 rfl
  have l2 : w4.cell? ⟨n3 + 1 + 1 + 1 + 1 + 1 + 1 + 1 + 1 + 1 + 1, 2, none⟩ = some (.slice (some ⟨n3 + 1 + 1 + 1 + 1 + 1 + 1 + 1 + 1 + 1, 0, none⟩) 1 1) := b10.cell 2 rfl
  clear b4 b10
  go_wp2_with fail
  refine (sameG_any grA grA es [edX1 n3, edX2 n3] eo po dd _ _ _ ec pc dc 2 1 1 w4 (unhide HR4) (unhide HW)).mono ?_
  rintro e w5 ⟨rfl, q5⟩
  rw [(eqGr_iff grA grA).2 rfl]
  go_wp2_with (go_at_call 7; refine (num_any _ _).mono ?_; rintro e w' ⟨rfl, rfl⟩)
  go_ret
  exact ⟨rfl, q4.trans q5⟩

end Go.Proofs.YtpddckgkaopnlaaGreatDoor
