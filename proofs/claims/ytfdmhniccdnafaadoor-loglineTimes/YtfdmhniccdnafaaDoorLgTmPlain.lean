/- What digits come to, and a line whose time is told in them: plain facts, no program in them; no conditions. -/
import Derived.Test.YtfdmhniccdnafaaDoorLgPlain
namespace Go.Proofs.YtfdmhniccdnafaaDoor
open Go.RowKit

/-- The value of digits. -/
def vlD (l : Tx) : Int := l.foldl (fun a c => 10 * a + ((c.toNat : Int) - 48)) 0
theorem vlD_snoc (l : Tx) (c : UInt8) : vlD (l ++ [c]) = 10 * vlD l + ((c.toNat : Int) - 48) := by unfold vlD; rw [List.foldl_append]; rfl
theorem vlD_dc : ∀ (f u : Nat), u < 10 ^ (f + 1) → vlD (dcF (f + 1) u) = (u : Int)
  | 0, u, h => by
    have h1 : u < 10 := by simpa using h
    rw [dcF, if_pos h1]
    show 10 * 0 + (((UInt8.ofNat (48 + u)).toNat : Int) - 48) = _
    rw [dg_toNat h1]; omega
  | f + 1, u, h => by
    rw [dcF]
    by_cases h1 : u < 10
    · rw [if_pos h1]
      show 10 * 0 + (((UInt8.ofNat (48 + u)).toNat : Int) - 48) = _
      rw [dg_toNat h1]; omega
    · rw [if_neg h1, vlD_snoc, vlD_dc f (u / 10) (by rw [Nat.pow_succ] at h; omega), dg_toNat (by omega)]
      omega
theorem vlD_le : ∀ (l : Tx) (n : Nat), (∀ c ∈ l, 48 ≤ c.toNat ∧ c.toNat ≤ 57) → l.length ≤ n → n ≤ 8 → 0 ≤ vlD l ∧ vlD l ≤ 99999999 := by
  intro l n hd hl hn
  have key : ∀ (l : Tx), (∀ c ∈ l, 48 ≤ c.toNat ∧ c.toNat ≤ 57) → ∀ a : Int, 0 ≤ a → 0 ≤ l.foldl (fun a c => 10 * a + ((c.toNat : Int) - 48)) a ∧ l.foldl (fun a c => 10 * a + ((c.toNat : Int) - 48)) a < (a + 1) * 10 ^ l.length := by
    intro l
    induction l with
    | nil => intro _ a ha; simp; omega
    | cons c l ih =>
      intro hd a ha
      have hc := hd c (by simp)
      have := ih (fun x hx => hd x (by simp [hx])) (10 * a + ((c.toNat : Int) - 48)) (by omega)
      rw [List.foldl_cons]
      refine ⟨this.1, ?_⟩
      refine Int.lt_of_lt_of_le this.2 ?_
      rw [List.length_cons, Int.pow_succ]
      have h10 : (0 : Int) ≤ 10 ^ l.length := Int.pow_nonneg (by omega)
      have : (10 * a + ((c.toNat : Int) - 48) + 1) ≤ (a + 1) * 10 := by omega
      exact Int.le_trans (Int.mul_le_mul_of_nonneg_right this h10) (Int.le_of_eq (by rw [Int.mul_assoc, Int.mul_comm (10 : Int)]))
  have h := key l hd 0 (by omega)
  refine ⟨h.1, ?_⟩
  have h8 : (10 : Int) ^ l.length ≤ 10 ^ 8 := by
    have : (10 : Nat) ^ l.length ≤ 10 ^ 8 := Nat.pow_le_pow_right (by omega) (by omega)
    exact_mod_cast this
  have : vlD l < 10 ^ 8 := by
    have := h.2
    unfold vlD
    omega
  omega
theorem dcF_head : ∀ (f u : Nat), 1 ≤ u → u < 10 ^ (f + 1) → (dcF (f + 1) u).head? ≠ some 48
  | 0, u, h0, h => by
    have h1 : u < 10 := by simpa using h
    rw [dcF, if_pos h1]
    intro e
    rw [List.head?_cons] at e
    have e := Option.some.inj e
    have := dg_toNat h1
    rw [e] at this
    have e2 : (48 : UInt8).toNat = 48 := rfl
    omega
  | f + 1, u, h0, h => by
    rw [dcF]
    by_cases h1 : u < 10
    · rw [if_pos h1]
      intro e
      rw [List.head?_cons] at e
      have e := Option.some.inj e
      have := dg_toNat h1
      rw [e] at this
      have e2 : (48 : UInt8).toNat = 48 := rfl
      omega
    · rw [if_neg h1]
      have h2 := dcF_head f (u / 10) (by omega) (by rw [Nat.pow_succ] at h; omega)
      have h3 := dcF_ne f (u / 10)
      cases e : dcF (f + 1) (u / 10) with
      | nil => exact absurd e h3
      | cons c l => rw [e] at h2; simpa using h2

def tmR (t : Int) : Rc := ([111], t, [120])
theorem tm_ok {t : Int} (h : tmB1 t = true) : rcOk (tmR t) = true := by
  unfold rcOk tmR
  dsimp only
  rw [h, show pthB [111] = true by decide +kernel, show snB [120] = true by decide +kernel]; rfl
/-- The line of such a record: two signs, the digits, three signs. -/
theorem tm_line (t : Int) : rcT (tmR t) = [111, 9] ++ dc t ++ [9, 120, 10] := by unfold rcT tmR; simp

theorem umodC (n : Int) (m : Nat) (h0 : 0 < m) (h1 : m ≤ 140737488355328) : ∃ k : Nat, k < m ∧ wrap64 ((IntKind.u64.wrap n).tmod (m : Int)) = (k : Int) := by
  have e : IntKind.u64.wrap n = n % 18446744073709551616 := rfl
  have hx : 0 ≤ n % 18446744073709551616 := by omega
  rw [e, Int.tmod_eq_emod_of_nonneg hx]
  generalize n % 18446744073709551616 = x at *
  have h2 := Int.emod_nonneg x (by omega : (m : Int) ≠ 0)
  have h3 := Int.emod_lt_of_pos x (by omega : (0 : Int) < (m : Int))
  refine ⟨(x % (m : Int)).toNat, by omega, ?_⟩
  generalize x % (m : Int) = y at *
  simp only [wrap64]
  omega
theorem tm_vl {t : Int} (h : tmB1 t = true) : vlD (dc t) = t := by
  unfold tmB1 at h
  simp at h
  unfold dc
  rw [vlD_dc 7 t.toNat (by omega)]; omega
theorem tm_dig (t : Int) : ∀ c ∈ dc t, 48 ≤ c.toNat ∧ c.toNat ≤ 57 := fun c hc => dcF_dig 8 t.toNat c hc
theorem tm_at {t : Int} {k : Nat} (h : k < (dc t).length) : (rcT (tmR t))[k + 2]? = some (dc t)[k] := by
  rw [tm_line, List.append_assoc, List.getElem?_append_right (by simp), show k + 2 - [111, (9 : UInt8)].length = k from rfl, List.getElem?_append_left h, List.getElem?_eq_getElem h]
theorem tm_len (t : Int) : (rcT (tmR t)).length = (dc t).length + 5 := by rw [tm_line]; simp
theorem tm_two (t : Int) : (rcT (tmR t)).take 2 = [111, 9] := by rw [tm_line, List.append_assoc]; rfl
theorem tm_three (t : Int) : (rcT (tmR t)).drop ((dc t).length + 2) = [9, 120, 10] := by
  rw [tm_line, List.drop_append]
  have : ([111, 9] ++ dc t).length = (dc t).length + 2 := by simp
  rw [List.drop_of_length_le (by rw [this]; exact Nat.le_refl _), this, Nat.sub_self]; rfl
theorem tm_head {t : Int} (h : tmB1 t = true) : (rcT (tmR t))[2]? ≠ some 48 := by
  unfold tmB1 at h
  simp at h
  rw [tm_line, List.append_assoc, List.getElem?_append_right (by simp), show 2 - [111, (9 : UInt8)].length = 0 from rfl]
  have h1 := dcF_head 7 t.toNat (by omega) (by omega)
  have h2 := dcF_ne 7 t.toNat
  unfold dc
  cases e : dcF 8 t.toNat with
  | nil => exact absurd e h2
  | cons c l => rw [e] at h1; simpa using h1

end Go.Proofs.YtfdmhniccdnafaaDoor
