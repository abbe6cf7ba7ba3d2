/- Where the first of a row is that a test takes; a text cut at its first sign: plain facts, no program in them; no conditions. -/
import Derived.Test.YtgbegdgacjodcaaDoorMfPlain
namespace Go.Proofs.YtgbegdgacjodcaaDoor
open Go.RowKit

theorem txt_beq (a : Tx) (n : ByteArray) : ((⟨a.toArray⟩ : ByteArray).toList == n.toList) = (a == bl n) := by rw [bl_toList, bl_toList]; rfl
theorem is_key {k : ByteArray} {l : Tx} (h : bl k = l) : (k.toList == l) = true := by rw [bl_toList, h]; simp
theorem no_key {k : ByteArray} {l : Tx} (h : bl k ≠ l) : (k.toList == l) = false := by rw [bl_toList]; simpa using h
theorem is_keyn {k : ByteArray} {l : Tx} (h : bl k = l) : (k.toList != l) = false := by unfold bne; rw [is_key h]; rfl
theorem no_keyn {k : ByteArray} {l : Tx} (h : bl k ≠ l) : (k.toList != l) = true := by unfold bne; rw [no_key h]; rfl
theorem is_emp {k : ByteArray} (h : bl k = []) : k.toList.isEmpty = true := by rw [bl_toList, h]; rfl
theorem no_emp {k : ByteArray} (h : bl k ≠ []) : k.toList.isEmpty = false := by
  rw [bl_toList]
  cases hb : bl k with
  | nil => exact absurd hb h
  | cons a b => rfl

def ixB {α : Type} (p : α → Bool) (xs : List α) : Int := match xs.findIdx? p with | some k => (k : Int) | none => -1

theorem anyt_succ {α : Type} {xs : List α} {k : Nat} {x : α} (p : α → Bool) (h : xs[k]? = some x) : (xs.take (k + 1)).any p = ((xs.take k).any p || p x) := by
  rw [List.take_add_one, h, List.any_append]; simp
theorem find_at {α : Type} {p : α → Bool} {xs : List α} {k : Nat} {x : α} (h : xs[k]? = some x) (hno : (xs.take k).any p = false) (hx : p x = true) : xs.findIdx? p = some k := by
  obtain ⟨hlt, he⟩ := List.getElem?_eq_some_iff.1 h
  rw [List.findIdx?_eq_some_iff_getElem]
  refine ⟨hlt, by rw [he]; exact hx, ?_⟩
  intro j hj
  have := List.any_eq_false.1 hno xs[j] (by rw [List.mem_take_iff_getElem]; exact ⟨j, by omega, rfl⟩)
  simpa using this
theorem find_no {α : Type} {p : α → Bool} {xs : List α} (hno : xs.any p = false) : xs.findIdx? p = none := by
  rw [List.findIdx?_eq_none_iff]
  intro x hx
  simpa using List.any_eq_false.1 hno x hx
theorem ixB_at {α : Type} {p : α → Bool} {xs : List α} {k : Nat} {x : α} (h : xs[k]? = some x) (hno : (xs.take k).any p = false) (hx : p x = true) : ixB p xs = k := by
  unfold ixB; rw [find_at h hno hx]
theorem ixB_no {α : Type} {p : α → Bool} {xs : List α} (hno : xs.any p = false) : ixB p xs = -1 := by
  unfold ixB; rw [find_no hno]
theorem ixB_dec {α : Type} (p : α → Bool) (xs : List α) : decide (0 ≤ ixB p xs) = xs.any p := by
  unfold ixB
  cases h : xs.findIdx? p with
  | none =>
    rw [List.findIdx?_eq_none_iff] at h
    have : xs.any p = false := by rw [List.any_eq_false]; intro x hx; simpa using h x hx
    rw [this]; rfl
  | some k =>
    rw [List.findIdx?_eq_some_iff_getElem] at h
    obtain ⟨hlt, h1, _⟩ := h
    have : xs.any p = true := List.any_eq_true.2 ⟨xs[k], List.getElem_mem hlt, h1⟩
    rw [this]; simp
/-- The rule of a name, and where it is. -/
theorem rl_none {rs : List Rl} {n : Tx} (h : rlAt rs n = none) : ixB (fun r : Rl => r.1 == n) rs = -1 := by
  refine ixB_no ?_
  rw [List.any_eq_false]
  intro x hx
  exact (List.find?_eq_none.1 h) x hx
theorem rl_some {rs : List Rl} {n : Tx} {r : Rl} (h : rlAt rs n = some r) : ∃ k : Nat, ixB (fun r : Rl => r.1 == n) rs = k ∧ rs[k]? = some r ∧ k < rs.length ∧ r.1 = n := by
  unfold rlAt at h
  rw [List.find?_eq_some_iff_getElem] at h
  obtain ⟨h1, k, hk, he, h2⟩ := h
  refine ⟨k, ?_, by rw [List.getElem?_eq_getElem hk, he], hk, by simpa using h1⟩
  refine ixB_at (x := r) (by rw [List.getElem?_eq_getElem hk, he]) ?_ h1
  rw [List.any_eq_false]
  intro x hx
  rw [List.mem_take_iff_getElem] at hx
  obtain ⟨j, hj, rfl⟩ := hx
  simpa using h2 j (by omega)

theorem ctL_none {d : UInt8} : ∀ {l : Tx}, Lib.indexByte l d = -1 → ctL d l = none
  | [], _ => rfl
  | x :: r, h => by
    have hg := Lib.indexByte_ge r d
    unfold Lib.indexByte at h
    by_cases hx : (x == d) = true
    · rw [if_pos hx] at h; omega
    · rw [if_neg hx] at h
      by_cases h2 : (Lib.indexByte r d == -1) = true
      · have hne : x ≠ d := by simpa using hx
        show (if x = d then _ else _) = _
        rw [if_neg hne, ctL_none (l := r) (by simpa using h2)]; rfl
      · rw [if_neg h2] at h
        have : Lib.indexByte r d ≠ -1 := by simpa using h2
        omega
theorem ctL_some {d : UInt8} : ∀ {l : Tx} {i : Nat}, Lib.indexByte l d = i → ctL d l = some (l.take i, l.drop (i + 1)) ∧ i < l.length
  | [], i, h => by unfold Lib.indexByte at h; omega
  | x :: r, i, h => by
    have hg := Lib.indexByte_ge r d
    unfold Lib.indexByte at h
    by_cases hx : (x == d) = true
    · rw [if_pos hx] at h
      obtain rfl : i = 0 := by omega
      have he : x = d := by simpa using hx
      refine ⟨?_, by simp⟩
      show (if x = d then _ else _) = _
      rw [if_pos he]; rfl
    · rw [if_neg hx] at h
      have hne : x ≠ d := by simpa using hx
      by_cases h2 : (Lib.indexByte r d == -1) = true
      · rw [if_pos h2] at h; omega
      · rw [if_neg h2] at h
        have h3 : Lib.indexByte r d ≠ -1 := by simpa using h2
        obtain ⟨j, hj⟩ : ∃ j : Nat, Lib.indexByte r d = j := ⟨(Lib.indexByte r d).toNat, by omega⟩
        obtain rfl : i = j + 1 := by omega
        obtain ⟨h4, h5⟩ := ctL_some (l := r) hj
        refine ⟨?_, by simp; omega⟩
        show (if x = d then _ else _) = _
        rw [if_neg hne, h4]; rfl

end Go.Proofs.YtgbegdgacjodcaaDoor
