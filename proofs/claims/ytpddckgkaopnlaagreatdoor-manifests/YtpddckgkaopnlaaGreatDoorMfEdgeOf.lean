/- What package manifest's edgeOf answers; the conditions: the rules lie in memory. -/
import Derived.Test.YtpddckgkaopnlaaGreatDoorBnMfEdge
namespace Go.Proofs.YtpddckgkaopnlaaGreatDoor
open Go.RowKit

/-- The two results of edgeOf, as they lie while it runs: both zero. -/
structure Rz (w : World) (E : Nat) : Prop where
  e : Blk w E #[.slice none 0 0, .slice none 0 0, .slice none 0 0, .slice none 0 0, .string ⟨#[]⟩, .bool false, .string ⟨#[]⟩] 65
  r : Blk w (E + 1) #[.string ⟨#[]⟩, .string ⟨#[]⟩, .bool false, .string ⟨#[]⟩] 109
theorem Rz.q {w w' : World} {E : Nat} (h : Rz w E) (hq : Q w w') : Rz w' E := ⟨h.e.q hq, h.r.q hq⟩

structure Rz.Cells (w : World) (E : Nat) : Prop where
  e0 : w.cell? ⟨E, 0, none⟩ = some (.slice none 0 0)
  e1 : w.cell? ⟨E, 1, none⟩ = some (.slice none 0 0)
  e2 : w.cell? ⟨E, 2, none⟩ = some (.slice none 0 0)
  e3 : w.cell? ⟨E, 3, none⟩ = some (.slice none 0 0)
  e4 : w.cell? ⟨E, 4, none⟩ = some (.string ⟨#[]⟩)
  e5 : w.cell? ⟨E, 5, none⟩ = some (.bool false)
  e6 : w.cell? ⟨E, 6, none⟩ = some (.string ⟨#[]⟩)
  r0 : w.cell? ⟨E + 1, 0, none⟩ = some (.string ⟨#[]⟩)
  r1 : w.cell? ⟨E + 1, 1, none⟩ = some (.string ⟨#[]⟩)
  r2 : w.cell? ⟨E + 1, 2, none⟩ = some (.bool false)
  r3 : w.cell? ⟨E + 1, 3, none⟩ = some (.string ⟨#[]⟩)
  fe : ∀ i, w.frozen? ⟨E, i, none⟩ = false
  fr : ∀ i, w.frozen? ⟨E + 1, i, none⟩ = false
theorem Rz.cells {w : World} {E : Nat} (h : Rz w E) : Rz.Cells w E :=
  ⟨h.e.cell 0 rfl, h.e.cell 1 rfl, h.e.cell 2 rfl, h.e.cell 3 rfl, h.e.cell 4 rfl, h.e.cell 5 rfl, h.e.cell 6 rfl, h.r.cell 0 rfl, h.r.cell 1 rfl, h.r.cell 2 rfl, h.r.cell 3 rfl, fun i => h.e.frz i, fun i => h.r.frz i⟩

def wZ (w : World) : World := (w.alloc (.cells #[.slice none 0 0, .slice none 0 0, .slice none 0 0, .slice none 0 0, .string ⟨#[]⟩, .bool false, .string ⟨#[]⟩] 65)).alloc (.cells #[.string ⟨#[]⟩, .string ⟨#[]⟩, .bool false, .string ⟨#[]⟩] 109)
theorem wZ_facts (w : World) : Rz (wZ w) w.heap.size ∧ Q w (wZ w) ∧ (wZ w).heap.size = w.heap.size + 2 := by
  refine ⟨⟨(Blk.new w _ _).q ((Q.refl _).alloc _), ?_⟩, ((Q.refl w).alloc _).alloc _, by unfold wZ; simp⟩
  have := Blk.new (w.alloc (.cells #[.slice none 0 0, .slice none 0 0, .slice none 0 0, .slice none 0 0, .string ⟨#[]⟩, .bool false, .string ⟨#[]⟩] 65)) #[.string ⟨#[]⟩, .string ⟨#[]⟩, .bool false, .string ⟨#[]⟩] 109
  rwa [size_alloc] at this

/-- Both results are written. -/
def wS (w : World) (E : Nat) (v0 v1 v2 v3 v4 v5 v6 u0 u1 u2 u3 : Value) : World :=
  ((((((((((w.setCell ⟨E, 0, none⟩ v0).setCell ⟨E, 1, none⟩ v1).setCell ⟨E, 2, none⟩ v2).setCell ⟨E, 3, none⟩ v3).setCell ⟨E, 4, none⟩ v4).setCell ⟨E, 5, none⟩ v5).setCell ⟨E, 6, none⟩ v6).setCell ⟨E + 1, 0, none⟩ u0).setCell ⟨E + 1, 1, none⟩ u1).setCell ⟨E + 1, 2, none⟩ u2).setCell ⟨E + 1, 3, none⟩ u3
theorem wS_facts {w : World} {E : Nat} (h : Rz w E) (v0 v1 v2 v3 v4 v5 v6 u0 u1 u2 u3 : Value) :
    Blk (wS w E v0 v1 v2 v3 v4 v5 v6 u0 u1 u2 u3) E #[v0, v1, v2, v3, v4, v5, v6] 65 ∧ Blk (wS w E v0 v1 v2 v3 v4 v5 v6 u0 u1 u2 u3) (E + 1) #[u0, u1, u2, u3] 109 ∧ Fr (fun k => k = E ∨ k = E + 1) w (wS w E v0 v1 v2 v3 v4 v5 v6 u0 u1 u2 u3) := by
  have ne : E ≠ E + 1 := by omega
  have ne' : E + 1 ≠ E := by omega
  refine ⟨?_, ?_, ?_⟩
  · exact (((((((((((h.e.set 0 v0).set 1 v1).set 2 v2).set 3 v3).set 4 v4).set 5 v5).set 6 v6).other ne 0 u0).other ne 1 u1).other ne 2 u2).other ne 3 u3)
  · exact (((((((((((h.r.other ne' 0 v0).other ne' 1 v1).other ne' 2 v2).other ne' 3 v3).other ne' 4 v4).other ne' 5 v5).other ne' 6 v6).set 0 u0).set 1 u1).set 2 u2).set 3 u3)
  · have fe : ∀ (w : World) (i : Nat) (v : Value), Fr (fun k => k = E ∨ k = E + 1) w (w.setCell ⟨E, i, none⟩ v) := fun w i v => (Fr.set w E i v).mono (fun k h => Or.inl h)
    have fr : ∀ (w : World) (i : Nat) (v : Value), Fr (fun k => k = E ∨ k = E + 1) w (w.setCell ⟨E + 1, i, none⟩ v) := fun w i v => (Fr.set w (E + 1) i v).mono (fun k h => Or.inr h)
    exact ((((((((((fe w 0 v0).trans (fe _ 1 v1)).trans (fe _ 2 v2)).trans (fe _ 3 v3)).trans (fe _ 4 v4)).trans (fe _ 5 v5)).trans (fe _ 6 v6)).trans (fr _ 0 u0)).trans (fr _ 1 u1)).trans (fr _ 2 u2)).trans (fr _ 3 u3)

/-- What is read of the results in the end. -/
structure Re.Cells (w : World) (E : Nat) (v0 v1 v2 v3 v4 v5 v6 u0 u1 u2 u3 : Value) : Prop where
  e0 : w.cell? ⟨E, 0, none⟩ = some v0
  e1 : w.cell? ⟨E, 1, none⟩ = some v1
  e2 : w.cell? ⟨E, 2, none⟩ = some v2
  e3 : w.cell? ⟨E, 3, none⟩ = some v3
  e4 : w.cell? ⟨E, 4, none⟩ = some v4
  e5 : w.cell? ⟨E, 5, none⟩ = some v5
  e6 : w.cell? ⟨E, 6, none⟩ = some v6
  r0 : w.cell? ⟨E + 1, 0, none⟩ = some u0
  r1 : w.cell? ⟨E + 1, 1, none⟩ = some u1
  r2 : w.cell? ⟨E + 1, 2, none⟩ = some u2
  r3 : w.cell? ⟨E + 1, 3, none⟩ = some u3
theorem Re.cells {w : World} {E : Nat} {v0 v1 v2 v3 v4 v5 v6 u0 u1 u2 u3 : Value} (h : Blk w E #[v0, v1, v2, v3, v4, v5, v6] 65) (k : Blk w (E + 1) #[u0, u1, u2, u3] 109) : Re.Cells w E v0 v1 v2 v3 v4 v5 v6 u0 u1 u2 u3 :=
  ⟨h.cell 0 rfl, h.cell 1 rfl, h.cell 2 rfl, h.cell 3 rfl, h.cell 4 rfl, h.cell 5 rfl, h.cell 6 rfl, k.cell 0 rfl, k.cell 1 rfl, k.cell 2 rfl, k.cell 3 rfl⟩

set_option maxHeartbeats 4000000 in
theorem edgeOf_none (R : Nat) (rs : List Rl) (ro : Option Addr) (rc : Nat) (s : ByteArray) (w : World) (hR : R < w.heap.size) (hc : w.cell? ⟨R, 3, none⟩ = some (.slice ro rs.length rc)) (hr : RowR w ro rs) (hl : rs.length ≤ 4096) (hs : s.size ≤ 4096) (hb : bdR (bl s) = none) :
    Calls Tryz.prog 79 #[.pointer (some ⟨R, 0, none⟩), .string s] w (EgSays (edL rs (bl s)) w) := by
  have HRA := hide (fun n w2 (q : Q w w2) => ruleAt_any R rs n ro rc w2 (Nat.lt_of_lt_of_le hR q.size) ((q.cell (p := ⟨R, 3, none⟩) hR).trans hc) (hr.q q) hl)
  have HX : Hid (edL rs (bl s) = none) := by show _ = _; unfold edL; rw [hb]
  have HB := hide (fun w2 => build_none s w2 (by omega) hb)
  clear hb hc hr
  go_enter Tryz.func79, Tryz.ntmps79
  go_wp2_with fail
  obtain ⟨hz, qz, sz⟩ := wZ_facts w
  change Calls _ _ _ (wZ w) _
  have HZ := hide hz
  generalize wZ w = wb at *
  generalize hE : w.heap.size = E at *
  have HE := hide hE
  clear hz hE
  refine (unhide HB _).mono ?_
  rintro e w2 ⟨ao, bo, co, eo, ac, bc, cc, ec, rfl, q2⟩
  go_wp2_with fail
  have q12 := qz.trans q2
  refine (unhide HRA ⟨#[]⟩ w2 q12).mono ?_
  rintro e w3 ⟨rfl, q3⟩
  generalize ixB (fun r : Rl => r.1 == bl ⟨#[]⟩) rs = z
  have q13 := q12.trans q3
  obtain ⟨e0, e1, e2, e3, e4, e5, e6, r0, r1, r2, r3, fe, fr⟩ := ((unhide HZ).q (q2.trans q3)).cells
  have f0 := fe 0
  have f1 := fe 1
  have f2 := fe 2
  have f3 := fe 3
  have f4 := fe 4
  have f5 := fe 5
  have f6 := fe 6
  have h0 := fr 0
  have h1 := fr 1
  have h2 := fr 2
  have h3 := fr 3
  have HZ3 := hide ((unhide HZ).q (q2.trans q3))
  clear fe fr HZ q2 q3 q12 qz
  go_wp2_with fail
  change bodyPost _ _ _ _ _ (wS w3 E (.slice none 0 0) (.slice none 0 0) (.slice none 0 0) (.slice none 0 0) (.string ⟨#[]⟩) (.bool false) (.string ⟨#[]⟩) (.string ⟨#[]⟩) (.string ⟨#[]⟩) (.bool false) (.string ⟨#[]⟩))
  obtain ⟨hf1, hf2, hf⟩ := wS_facts (unhide HZ3) (.slice none 0 0) (.slice none 0 0) (.slice none 0 0) (.slice none 0 0) (.string ⟨#[]⟩) (.bool false) (.string ⟨#[]⟩) (.string ⟨#[]⟩) (.string ⟨#[]⟩) (.bool false) (.string ⟨#[]⟩)
  have hle : E ≤ w3.heap.size := Nat.le_of_lt (unhide HZ3).e.hi
  generalize wS w3 E (.slice none 0 0) (.slice none 0 0) (.slice none 0 0) (.slice none 0 0) (.string ⟨#[]⟩) (.bool false) (.string ⟨#[]⟩) (.string ⟨#[]⟩) (.string ⟨#[]⟩) (.bool false) (.string ⟨#[]⟩) = wf at *
  clear e0 e1 e2 e3 e4 e5 e6 r0 r1 r2 r3
  obtain ⟨e0, e1, e2, e3, e4, e5, e6, r0, r1, r2, r3⟩ := Re.cells hf1 hf2
  refine bodyPost_ret (v := .tuple #[.agg #[.slice none 0 0, .slice none 0 0, .slice none 0 0, .slice none 0 0, .string ⟨#[]⟩, .bool false, .string ⟨#[]⟩], .agg #[.string ⟨#[]⟩, .string ⟨#[]⟩, .bool false, .string ⟨#[]⟩], .bool false]) (by simp [results, Tryz.results79, go_sem, e0, e1, e2, e3, e4, e5, e6, r0, r1, r2, r3]) rfl ?_
  exact ⟨Below.trans q13 (hf.below (by rw [unhide HE]; exact hle) (by rw [unhide HE]; intro k hk; omega)), by rw [HX.out]⟩

set_option maxHeartbeats 4000000 in
theorem edgeOf_norule (R : Nat) (rs : List Rl) (ro : Option Addr) (rc : Nat) (s : ByteArray) (w : World) (hR : R < w.heap.size) (hc : w.cell? ⟨R, 3, none⟩ = some (.slice ro rs.length rc)) (hr : RowR w ro rs) (hl : rs.length ≤ 4096) (hs : s.size ≤ 4096) (b : Bt) (hb : bdR (bl s) = some b) (hr0 : rlAt rs b.2.1 = none) :
    Calls Tryz.prog 79 #[.pointer (some ⟨R, 0, none⟩), .string s] w (EgSays (edL rs (bl s)) w) := by
  have HRA := hide (fun n w2 (q : Q w w2) => ruleAt_any R rs n ro rc w2 (Nat.lt_of_lt_of_le hR q.size) ((q.cell (p := ⟨R, 3, none⟩) hR).trans hc) (hr.q q) hl)
  have HX : Hid (edL rs (bl s) = none) := by show _ = _; unfold edL; rw [hb]; simp only; rw [hr0]
  have HB := hide (fun w2 => build_some (a := b.1) (r := b.2.1) (b := b.2.2.1) (c := b.2.2.2.1) (d := b.2.2.2.2) s w2 (by omega) hb)
  have HZZ : Hid (ixB (fun r : Rl => r.1 == bl ⟨b.2.1.toArray⟩) rs = -1) := rl_none hr0
  clear hb hc hr hr0
  generalize (⟨b.2.1.toArray⟩ : ByteArray) = bn at *
  go_enter Tryz.func79, Tryz.ntmps79
  go_wp2_with fail
  obtain ⟨hz, qz, sz⟩ := wZ_facts w
  change Calls _ _ _ (wZ w) _
  have HZ := hide hz
  generalize wZ w = wb at *
  generalize hE : w.heap.size = E at *
  have HE := hide hE
  clear hz hE
  refine (unhide HB _).mono ?_
  rintro e w2 ⟨ao, bo, co, eo, ac, bc, cc, ec, k1, k2, k3, rfl, _, q2⟩
  go_wp2_with fail
  have q12 := qz.trans q2
  refine (unhide HRA bn w2 q12).mono ?_
  rintro e w3 ⟨rfl, q3⟩
  rw [HZZ.out]
  have q13 := q12.trans q3
  obtain ⟨e0, e1, e2, e3, e4, e5, e6, r0, r1, r2, r3, fe, fr⟩ := ((unhide HZ).q (q2.trans q3)).cells
  have f0 := fe 0
  have f1 := fe 1
  have f2 := fe 2
  have f3 := fe 3
  have f4 := fe 4
  have f5 := fe 5
  have f6 := fe 6
  have h0 := fr 0
  have h1 := fr 1
  have h2 := fr 2
  have h3 := fr 3
  have HZ3 := hide ((unhide HZ).q (q2.trans q3))
  clear fe fr HZ q2 q3 q12 qz
  go_wp2_with fail
  change bodyPost _ _ _ _ _ (wS w3 E (.slice none 0 0) (.slice none 0 0) (.slice none 0 0) (.slice none 0 0) (.string ⟨#[]⟩) (.bool false) (.string ⟨#[]⟩) (.string ⟨#[]⟩) (.string ⟨#[]⟩) (.bool false) (.string ⟨#[]⟩))
  obtain ⟨hf1, hf2, hf⟩ := wS_facts (unhide HZ3) (.slice none 0 0) (.slice none 0 0) (.slice none 0 0) (.slice none 0 0) (.string ⟨#[]⟩) (.bool false) (.string ⟨#[]⟩) (.string ⟨#[]⟩) (.string ⟨#[]⟩) (.bool false) (.string ⟨#[]⟩)
  have hle : E ≤ w3.heap.size := Nat.le_of_lt (unhide HZ3).e.hi
  generalize wS w3 E (.slice none 0 0) (.slice none 0 0) (.slice none 0 0) (.slice none 0 0) (.string ⟨#[]⟩) (.bool false) (.string ⟨#[]⟩) (.string ⟨#[]⟩) (.string ⟨#[]⟩) (.bool false) (.string ⟨#[]⟩) = wf at *
  clear e0 e1 e2 e3 e4 e5 e6 r0 r1 r2 r3
  obtain ⟨e0, e1, e2, e3, e4, e5, e6, r0, r1, r2, r3⟩ := Re.cells hf1 hf2
  refine bodyPost_ret (v := .tuple #[.agg #[.slice none 0 0, .slice none 0 0, .slice none 0 0, .slice none 0 0, .string ⟨#[]⟩, .bool false, .string ⟨#[]⟩], .agg #[.string ⟨#[]⟩, .string ⟨#[]⟩, .bool false, .string ⟨#[]⟩], .bool false]) (by simp [results, Tryz.results79, go_sem, e0, e1, e2, e3, e4, e5, e6, r0, r1, r2, r3]) rfl ?_
  exact ⟨Below.trans q13 (hf.below (by rw [unhide HE]; exact hle) (by rw [unhide HE]; intro k hk; omega)), by rw [HX.out]⟩

end Go.Proofs.YtpddckgkaopnlaaGreatDoor
