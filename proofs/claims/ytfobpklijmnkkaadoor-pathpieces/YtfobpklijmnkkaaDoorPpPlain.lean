/- Plain facts on pieces that are kept and taken away one by one, and on the memory that holds them; no conditions. -/

import Derived.Test.YtfobpklijmnkkaaDoorPtClean
namespace Go.Proofs.YtfobpklijmnkkaaDoor
open Go.RowKit

/-- What holds of the pieces so far. -/
def Pz (ps : List (List UInt8)) : Prop := (∀ p ∈ ps, (47 : UInt8) ∉ p ∧ allOk p = true) ∧ ps.head? ≠ some []

theorem Pz.nil : Pz [] := ⟨fun _ h => by simp at h, by simp⟩
theorem Pz.snoc {ps : List (List UInt8)} {x : List UInt8} (h : Pz ps) (h47 : (47 : UInt8) ∉ x) (ho : allOk x = true) (h0 : ps ≠ [] ∨ x ≠ []) : Pz (ps ++ [x]) := by
  refine ⟨?_, ?_⟩
  · intro p hp
    rcases List.mem_append.1 hp with hp | hp
    · exact h.1 p hp
    · simp at hp; subst hp; exact ⟨h47, ho⟩
  · cases ps with
    | nil => simp; rcases h0 with h0 | h0; exact absurd rfl h0; exact h0
    | cons a b => simpa using h.2

theorem join_first (x : List UInt8) : Lib.join ([] ++ [x]) [47] = x := by rw [List.nil_append, Lib.join_one]

/-- What Clean comes to, behind the first loop. -/
theorem pieces_no1 {ps : List (List UInt8)} (h : Pz ps) (hk : kf [] ps = none) : cleanL (Lib.join ps [47]) = none := by
  cases ps with
  | nil => simp [kf] at hk
  | cons p r =>
    have hs := sp_join (p :: r) (by simp) (fun q hq => (h.1 q hq).1)
    unfold cleanL; rw [hs, hk]; simp
theorem pieces_no2 {ps : List (List UInt8)} (h : Pz ps) (hk : kf [] ps = some []) : cleanL (Lib.join ps [47]) = none := by
  cases ps with
  | nil => decide
  | cons p r =>
    have hs := sp_join (p :: r) (by simp) (fun q hq => (h.1 q hq).1)
    unfold cleanL; rw [hs, hk]; simp
theorem pieces_no3 {l : List UInt8} (h : 16 < l.length) : cleanL l = none := by
  have : mayL l = false := by unfold mayL; simp; omega
  unfold cleanL; rw [this]; simp
theorem pieces_yes {ps ks : List (List UInt8)} (h : Pz ps) (hk : kf [] ps = some ks) (hne : ks ≠ []) (hl : (Lib.join ps [47]).length ≤ 16) : cleanL (Lib.join ps [47]) = some (Lib.join ks [47]) := by
  have h0 : ps ≠ [] := by intro e; subst e; simp [kf] at hk; exact hne hk
  have := tot_join ps h0
  exact clean_of_pieces h0 h.2 (fun q hq => (h.1 q hq).1) (fun q hq => (h.1 q hq).2) (by omega) hk hne

theorem own_pop' {w : World} {B : Nat} {ao : Option Addr} {cap : Nat} {ys : List ByteArray} (hy : ys ≠ []) (h : w.ownsRow B 9 1 (.slice ao ys.length cap) ys.length (ys.map Value.string)) :
    w.ownsRow B 9 1 (.slice ao ys.dropLast.length cap) ys.dropLast.length (ys.dropLast.map Value.string) := by
  have := own_pop hy h
  rw [show ys.length - 1 = ys.dropLast.length by simp] at this
  exact this

/-- The step that a round makes: the number, the sign between, the piece. -/
structure St (w0 wr : World) (k : Nat) (ps : List (List UInt8)) (t : ByteArray) (ys : List ByteArray) (ao : Option Addr) (cap : Nat) (b : Bool) : Prop where
  pz : Pz ps
  len : ps.length = k
  txt : bl t = Lib.join ps [47]
  siz : t.size ≤ 3 * k
  ysk : ys.length ≤ k
  ysz : ∀ y ∈ ys, y.size ≤ 2
  kept : kf [] ps = if b then some (ys.map bl) else none
  own : wr.ownsRow w0.heap.size 9 1 (.slice ao ys.length cap) ys.length (ys.map Value.string)
  q : Q w0 wr

theorem St.text {w0 wr : World} {k : Nat} {ps : List (List UInt8)} {t x : ByteArray} {ys : List ByteArray} {ao : Option Addr} {cap : Nat} {b : Bool} (h : St w0 wr k ps t ys ao cap b) (hx : x.size ≤ 2) :
    (k = 0 → bl (t ++ x) = Lib.join (ps ++ [bl x]) [47] ∧ (t ++ x).size ≤ 3 * (k + 1)) ∧ (k ≠ 0 → bl (t ++ ⟨#[47]⟩ ++ x) = Lib.join (ps ++ [bl x]) [47] ∧ (t ++ ⟨#[47]⟩ ++ x).size ≤ 3 * (k + 1)) := by
  refine ⟨fun h0 => ⟨?_, ?_⟩, fun h0 => ⟨?_, ?_⟩⟩
  · have e : ps = [] := List.eq_nil_of_length_eq_zero (by rw [h.len, h0])
    rw [bl_app, h.txt, e, join_first, Lib.join_nil, List.nil_append]
  · rw [← bl_size, bl_app, List.length_append, bl_size, bl_size]; have := h.siz; omega
  · have e : ps ≠ [] := by intro e; rw [e] at h; exact h0 h.len.symm
    rw [bl_app, bl_app, h.txt, join_snoc _ _ e]
    simp [bl]
  · rw [← bl_size, bl_app, bl_app, List.length_append, List.length_append, bl_size, bl_size, bl_size]; have := h.siz; have e1 : (⟨#[47]⟩ : ByteArray).size = 1 := rfl; rw [e1]; omega

/-- Joined, for the second loop. -/
theorem joinN (ys : List ByteArray) (j : Nat) (y : ByteArray) (h : ys[j]? = some y) : Lib.join ((ys.map bl).take (j + 1)) [47] = Lib.join ((ys.map bl).take j) [47] ++ (if j = 0 then [] else [47]) ++ bl y :=
  join_next [47] (ys.map bl) j (bl y) (by rw [List.getElem?_map, h]; rfl)

theorem kf_none_snoc {ps : List (List UInt8)} {x : List UInt8} (h : kf [] ps = none) : kf [] (ps ++ [x]) = none := by rw [kf_app, h]

section
variable {w0 wr w1 : World} {k : Nat} {ps : List (List UInt8)} {t t' x : ByteArray} {ys : List ByteArray} {ao ao' : Option Addr} {cap cap' : Nat} {b : Bool}

theorem St.add (h : St w0 wr k ps t ys ao cap b) (ht : bl t' = Lib.join (ps ++ [bl x]) [47] ∧ t'.size ≤ 3 * (k + 1)) (hx : bl x = [97] ∨ bl x = [98])
    (hown : w1.ownsRow w0.heap.size 9 1 (.slice ao' (ys ++ [x]).length cap') (ys ++ [x]).length ((ys ++ [x]).map Value.string)) (hq : Q w0 w1) : St w0 w1 (k + 1) (ps ++ [bl x]) t' (ys ++ [x]) ao' cap' b := by
  have hsz : x.size ≤ 2 := by rw [← bl_size]; rcases hx with e | e <;> rw [e] <;> decide
  refine ⟨h.pz.snoc ?_ ?_ (Or.inr ?_), by simp [h.len], ht.1, ht.2, by have := h.ysk; simp; omega, ?_, ?_, hown, hq⟩
  · rcases hx with e | e <;> rw [e] <;> decide
  · rcases hx with e | e <;> rw [e] <;> decide
  · rcases hx with e | e <;> rw [e] <;> simp
  · intro y hy
    rcases List.mem_append.1 hy with hy | hy
    · exact h.ysz y hy
    · simp at hy; subst hy; exact hsz
  · have hk := h.kept
    cases b
    · exact kf_none_snoc hk
    · show _ = some ((ys ++ [x]).map bl)
      rw [List.map_append]
      refine kf_snoc hk ?_
      show kst _ (bl x) = some (ys.map bl ++ [bl x])
      rcases hx with e | e <;> rw [e] <;> simp [kst]

theorem St.skip (h : St w0 wr k ps t ys ao cap b) (ht : bl t' = Lib.join (ps ++ [bl x]) [47] ∧ t'.size ≤ 3 * (k + 1)) (hx : bl x = [46] ∨ bl x = [] ∧ k ≠ 0)
    (hown : w1.ownsRow w0.heap.size 9 1 (.slice ao ys.length cap) ys.length (ys.map Value.string)) (hq : Q w0 w1) : St w0 w1 (k + 1) (ps ++ [bl x]) t' ys ao cap b := by
  refine ⟨h.pz.snoc ?_ ?_ ?_, by simp [h.len], ht.1, ht.2, by have := h.ysk; omega, h.ysz, ?_, hown, hq⟩
  · rcases hx with e | ⟨e, _⟩ <;> rw [e] <;> decide
  · rcases hx with e | ⟨e, _⟩ <;> rw [e] <;> decide
  · rcases hx with e | ⟨e, e0⟩
    · rw [e]; right; simp
    · left; intro e1; rw [e1] at h; exact e0 h.len.symm
  · have hk := h.kept
    cases b
    · exact kf_none_snoc hk
    · refine kf_snoc hk ?_
      rcases hx with e | ⟨e, _⟩ <;> rw [e] <;> simp [kst]

theorem St.stop (h : St w0 wr k ps t ys ao cap b) (ht : bl t' = Lib.join (ps ++ [bl x]) [47] ∧ t'.size ≤ 3 * (k + 1)) (hx : bl x = [46, 46]) (hb : ys = [] ∨ b = false)
    (hown : w1.ownsRow w0.heap.size 9 1 (.slice ao ys.length cap) ys.length (ys.map Value.string)) (hq : Q w0 w1) : St w0 w1 (k + 1) (ps ++ [bl x]) t' ys ao cap false := by
  refine ⟨h.pz.snoc (by rw [hx]; decide) (by rw [hx]; decide) (Or.inr (by rw [hx]; simp)), by simp [h.len], ht.1, ht.2, by have := h.ysk; omega, h.ysz, ?_, hown, hq⟩
  have hk := h.kept
  cases b
  · exact kf_none_snoc hk
  · rcases hb with e | e
    · subst e
      exact kf_fail (b := []) hk (by rw [hx]; simp [kst])
    · cases e

theorem St.pop (h : St w0 wr k ps t ys ao cap true) (ht : bl t' = Lib.join (ps ++ [bl x]) [47] ∧ t'.size ≤ 3 * (k + 1)) (hx : bl x = [46, 46]) (hy : ys ≠ [])
    (hown : w1.ownsRow w0.heap.size 9 1 (.slice ao ys.dropLast.length cap) ys.dropLast.length (ys.dropLast.map Value.string)) (hq : Q w0 w1) : St w0 w1 (k + 1) (ps ++ [bl x]) t' ys.dropLast ao cap true := by
  refine ⟨h.pz.snoc (by rw [hx]; decide) (by rw [hx]; decide) (Or.inr (by rw [hx]; simp)), by simp [h.len], ht.1, ht.2, by have := h.ysk; simp; omega, fun y hy => h.ysz y (List.dropLast_subset _ hy), ?_, hown, hq⟩
  show _ = some (ys.dropLast.map bl)
  rw [List.map_dropLast]
  refine kf_snoc h.kept ?_
  rw [hx]; simp [kst, hy]
end

end Go.Proofs.YtfobpklijmnkkaaDoor
