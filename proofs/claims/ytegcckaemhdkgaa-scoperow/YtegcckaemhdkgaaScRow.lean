/- Plain facts on a scope that is set one by one: names stand in the row in which they were set first, the last text is told; no conditions. -/
import Derived.Test.YtegcckaemhdkgaaScMore
namespace Go.Proofs.Ytegcckaemhdkgaa
open Go.RowKit

theorem nodup_le : ∀ (n : Nat) (l : List Nat), l.Nodup → (∀ x ∈ l, x < n) → l.length ≤ n
  | 0, l, _, h => by
    cases l with
    | nil => simp
    | cons x r => exact absurd (h x (by simp)) (by omega)
  | n + 1, l, hn, h => by
    have h1 := nodup_le n (l.erase n) (hn.erase n) (fun x hx => by
      have := (hn.mem_erase_iff).1 hx
      have h2 := h x this.2
      have h3 := this.1
      omega)
    by_cases hm : n ∈ l
    · rw [List.length_erase_of_mem hm] at h1; omega
    · rw [List.erase_of_not_mem hm] at h1; omega

/-- The names. -/
def vd (r : Nat) : ByteArray := ⟨#[118, UInt8.ofNat (48 + r)]⟩
theorem vd_may : ∀ r < 8, mayB (vd r) = true := by decide +kernel
theorem vd_ne : ∀ r < 8, ∀ q < 8, (bl (vd r) == bl (vd q)) = decide (r = q) := by decide +kernel
theorem vd_eq {m : Nat} {c : UInt8} (h : (c.toNat : Int) = 48 + (m : Int)) (hm : m < 8) : (⟨#[118]⟩ : ByteArray) ++ ⟨#[c]⟩ = vd m := by
  have e : c = UInt8.ofNat (48 + m) := by
    apply UInt8.toNat_inj.1
    rw [UInt8.toNat_ofNat']; omega
  rw [e]
  exact of_bl (by rw [bl_app]; rfl)
theorem one_tx {m : Nat} {c : UInt8} (h : (c.toNat : Int) = 97 + (m : Int)) (hm : m < 16) : txB ⟨#[c]⟩ = true := by
  have e : c = UInt8.ofNat (97 + m) := by
    apply UInt8.toNat_inj.1
    rw [UInt8.toNat_ofNat']; omega
  rw [e]
  revert m
  intro m _ hm _
  have : ∀ m < 16, txB ⟨#[UInt8.ofNat (97 + m)]⟩ = true := by decide +kernel
  exact this m hm

def upd (want : Nat → ByteArray) (r : Nat) (t : ByteArray) : Nat → ByteArray := fun q => if q = r then t else want q
theorem upd_same (want : Nat → ByteArray) (r : Nat) (t : ByteArray) : upd want r t r = t := by unfold upd; rw [if_pos rfl]
theorem upd_other (want : Nat → ByteArray) {r q : Nat} (t : ByteArray) (h : q ≠ r) : upd want r t q = want q := by unfold upd; rw [if_neg h]

structure RInv (row : List Nat) (want : Nat → ByteArray) (bs : List Bd) : Prop where
  are : bs = row.map fun r => (vd r, want r)
  nd : row.Nodup
  lt : ∀ r ∈ row, r < 8
  out : ∀ r, r < 8 → r ∉ row → (want r).toList.isEmpty = true
  inn : ∀ r, r ∈ row → (want r).toList.isEmpty = false
  tx : ∀ r ∈ row, txB (want r) = true

theorem RInv.start : RInv [] (fun _ => ⟨#[]⟩) [] := by
  refine ⟨rfl, List.nodup_nil, ?_, ?_, ?_, ?_⟩
  · intro r h; cases h
  · intro r _ _; rw [bl_toList]; rfl
  · intro r h; cases h
  · intro r h; cases h
theorem nodup_ne {row : List Nat} (h : row.Nodup) {j i a b : Nat} (hji : j < i) (hj : row[j]? = some a) (hi : row[i]? = some b) : a ≠ b := by
  obtain ⟨h1, e1⟩ := List.getElem?_eq_some_iff.1 hj
  obtain ⟨h2, e2⟩ := List.getElem?_eq_some_iff.1 hi
  rw [← e1, ← e2]
  exact (List.pairwise_iff_getElem.1 h) j i h1 h2 hji

theorem RInv.len {row : List Nat} {want : Nat → ByteArray} {bs : List Bd} (h : RInv row want bs) : bs.length = row.length ∧ row.length ≤ 8 := ⟨by rw [h.are, List.length_map], nodup_le 8 row h.nd h.lt⟩

theorem RInv.at {row : List Nat} {want : Nat → ByteArray} {bs : List Bd} (h : RInv row want bs) {i r : Nat} (hi : row[i]? = some r) : bs[i]? = some (vd r, want r) := by rw [h.are, List.getElem?_map, hi]; rfl

theorem RInv.front {row : List Nat} {want : Nat → ByteArray} {bs : List Bd} (h : RInv row want bs) {i r : Nat} (hr : r < 8) (hi : r ∉ row.take i) : (bs.take i).any (named (vd r)) = false := by
  rw [h.are, ← List.map_take, List.any_eq_false]
  intro x hx
  obtain ⟨q, hq, rfl⟩ := List.mem_map.1 hx
  have hq8 := h.lt q (List.mem_of_mem_take hq)
  unfold named
  rw [vd_ne q hq8 r hr]
  have : q ≠ r := fun e => hi (e ▸ hq)
  simp [this]

theorem nodup_front {row : List Nat} (h : row.Nodup) {i r : Nat} (hi : row[i]? = some r) : r ∉ row.take i := by
  intro hm
  rw [List.mem_take_iff_getElem] at hm
  obtain ⟨j, hj, e⟩ := hm
  exact nodup_ne h (j := j) (i := i) (by omega) (List.getElem?_eq_getElem (by omega)) hi e

theorem RInv.hit_yes {row : List Nat} {want : Nat → ByteArray} {bs : List Bd} (h : RInv row want bs) {i r : Nat} (hi : row[i]? = some r) : hit bs (vd r) = some i :=
  hit_at (h.at hi) (h.front (h.lt r (List.mem_of_getElem? hi)) (nodup_front h.nd hi)) (named_self _ _)

theorem RInv.hit_no {row : List Nat} {want : Nat → ByteArray} {bs : List Bd} (h : RInv row want bs) {r : Nat} (hr : r < 8) (hn : r ∉ row) : hit bs (vd r) = none := by
  refine hit_none ?_
  have := h.front (i := row.length) hr (by rw [List.take_length]; exact hn)
  rwa [List.take_of_length_le (by rw [h.len.1]; exact Nat.le_refl _)] at this

theorem RInv.ok {row : List Nat} {want : Nat → ByteArray} {bs : List Bd} (h : RInv row want bs) : scOk bs = true := by
  refine scOk_of (by have := h.len; omega) ?_
  intro k b hb
  have hlt : k < row.length := by rw [← h.len.1]; exact (List.getElem?_eq_some_iff.1 hb).1
  have hk : row[k]? = some row[k] := List.getElem?_eq_getElem hlt
  have hm : row[k] ∈ row := List.getElem_mem hlt
  rw [h.at hk] at hb
  cases hb
  refine ⟨?_, h.front (h.lt _ hm) (nodup_front h.nd hk)⟩
  unfold mayBd
  rw [vd_may _ (h.lt _ hm), h.tx _ hm]; rfl

theorem RInv.told {row : List Nat} {want : Nat → ByteArray} {bs : List Bd} (h : RInv row want bs) {i r : Nat} (hi : row[i]? = some r) : getB bs (vd r) = want r := get_hit h.ok (h.hit_yes hi) (h.at hi)

theorem RInv.fit {row : List Nat} {want : Nat → ByteArray} {bs : List Bd} (h : RInv row want bs) : Fit bs := by
  intro b hb
  obtain ⟨k, hk⟩ := List.mem_iff_getElem?.1 hb
  have := mayBd_size ((scOk_parts h.ok).2 k b hk).1
  unfold maxLen; omega

theorem RInv.new {row : List Nat} {want : Nat → ByteArray} {bs : List Bd} (h : RInv row want bs) {r : Nat} {t : ByteArray} (hr : r < 8) (hn : (want r).toList.isEmpty = true) (ht : txB t = true) (h1 : t.toList.isEmpty = false) :
    RInv (row ++ [r]) (upd want r t) (setB bs (vd r) t) ∧ setE bs (vd r) t = 0 := by
  have hni : r ∉ row := fun hm => by have := h.inn r hm; rw [hn] at this; cases this
  have hl := h.len
  have hm := set_more (bs := bs) (n := vd r) (t := t) (by rw [h.ok, vd_may r hr, ht]; rfl) (h.hit_no hr hni) (by omega)
  refine ⟨⟨?_, ?_, ?_, ?_, ?_, ?_⟩, hm.2⟩
  · rw [hm.1, h.are, List.map_append]
    congr 1
    · refine List.map_congr_left fun q hq => ?_
      rw [upd_other want t (fun (e : q = r) => hni (e ▸ hq))]
    · simp [upd_same]
  · rw [List.nodup_append]
    refine ⟨h.nd, by simp, ?_⟩
    intro a ha b hb
    simp at hb
    subst hb
    exact fun e => hni (e ▸ ha)
  · intro q hq
    rcases List.mem_append.1 hq with h2 | h2
    · exact h.lt q h2
    · simp at h2; subst h2; exact hr
  · intro q hq hqn
    have h2 : q ∉ row ∧ q ≠ r := ⟨fun h3 => hqn (List.mem_append.2 (Or.inl h3)), fun h3 => hqn (List.mem_append.2 (Or.inr (by simp [h3])))⟩
    rw [upd_other want t h2.2]; exact h.out q hq h2.1
  · intro q hq
    by_cases e : q = r
    · subst e; rw [upd_same]; exact h1
    · rw [upd_other want t e]
      rcases List.mem_append.1 hq with h2 | h2
      · exact h.inn q h2
      · simp at h2; exact absurd h2 e
  · intro q hq
    by_cases e : q = r
    · subst e; rw [upd_same]; exact ht
    · rw [upd_other want t e]
      rcases List.mem_append.1 hq with h2 | h2
      · exact h.tx q h2
      · simp at h2; exact absurd h2 e

theorem RInv.old {row : List Nat} {want : Nat → ByteArray} {bs : List Bd} (h : RInv row want bs) {r : Nat} {t : ByteArray} (hr : r < 8) (hn : (want r).toList.isEmpty = false) (ht : txB t = true) (h1 : t.toList.isEmpty = false) :
    RInv row (upd want r t) (setB bs (vd r) t) ∧ setE bs (vd r) t = 0 := by
  have hmem : r ∈ row := by
    by_cases hm : r ∈ row
    · exact hm
    · have := h.out r hr hm; rw [hn] at this; cases this
  obtain ⟨i, hi⟩ := List.mem_iff_getElem?.1 hmem
  have hm := set_hit (bs := bs) (n := vd r) (t := t) (by rw [h.ok, vd_may r hr, ht]; rfl) (h.hit_yes hi)
  refine ⟨⟨?_, h.nd, h.lt, ?_, ?_, ?_⟩, hm.2⟩
  · rw [hm.1, h.are]
    apply List.ext_getElem?
    intro j
    by_cases hji : j = i
    · subst hji
      rw [List.getElem?_set_self (by rw [List.length_map]; exact (List.getElem?_eq_some_iff.1 hi).1), List.getElem?_map, hi]
      simp [upd_same]
    · rw [List.getElem?_set_ne (Ne.symm hji), List.getElem?_map, List.getElem?_map]
      cases hj : row[j]? with
      | none => rfl
      | some q =>
        have hqr : q ≠ r := by
          intro e; subst e
          rcases Nat.lt_or_gt_of_ne hji with h2 | h2
          · exact nodup_ne h.nd h2 hj hi rfl
          · exact nodup_ne h.nd h2 hi hj rfl
        simp [upd_other want t hqr]
  · intro q hq hqn
    have h2 : q ≠ r := fun e => hqn (e ▸ hmem)
    rw [upd_other want t h2]; exact h.out q hq hqn
  · intro q hq
    by_cases e : q = r
    · subst e; rw [upd_same]; exact h1
    · rw [upd_other want t e]; exact h.inn q hq
  · intro q hq
    by_cases e : q = r
    · subst e; rw [upd_same]; exact ht
    · rw [upd_other want t e]; exact h.tx q hq

end Go.Proofs.Ytegcckaemhdkgaa
