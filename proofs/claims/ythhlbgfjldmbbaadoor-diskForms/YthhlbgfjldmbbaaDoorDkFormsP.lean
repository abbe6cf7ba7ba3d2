/- DiskForms, plainly: the disks that may not be, and what they answer; no program in them; no conditions. -/
import Derived.Test.YthhlbgfjldmbbaaDoorDkFind
import Derived.Test.YthhlbgfjldmbbaaDoorBitPlain
namespace Go.Proofs.YthhlbgfjldmbbaaDoor
open Go.RowKit

theorem and1023 (n : Int) : bits .and .i64 n 1023 = n % 1024 := by
  show IntKind.i64.wrap ((BitVec.ofInt 64 n &&& BitVec.ofInt 64 1023).toNat : Int) = _
  rw [BitVec.toNat_and, show (BitVec.ofInt 64 1023).toNat = 2 ^ 10 - 1 from rfl, Nat.and_two_pow_sub_one_eq_mod, BitVec.toNat_ofInt, IntKind.wrap_i64]; omega

/-- The second disk, as the switch leaves it. -/
def cbK (d : Int) : Nat → Int
  | 0 => -d
  | 1 => 1048576 + d
  | _ => 5
def fbK (d : Int) : Nat → List Fl
  | 2 => [([99], 3, 4), ([98], 0, 2)]
  | 3 => [([46, 47, 97], 3, 4), ([98], 0, 2)]
  | 4 => [([97], -d, 4), ([98], 0, 2)]
  | 5 => [([97], 2147483647 + d, 4), ([98], 0, 2)]
  | 6 => [([97], 3, 1 - d), ([98], 0, 2)]
  | 7 => [([97], 3, 5 + d), ([98], 0, 2)]
  | 8 => [([97], 3, 2), ([98], 0, 2)]
  | 9 => [([97], 3, 4), ([97], 0, 2)]
  | _ => [([97], 3, 4), ([98], 0, 2)]
theorem fbK_len (d : Int) (m : Nat) : (fbK d m).length = 2 := by unfold fbK; split <;> rfl
theorem fbK_z (d : Int) (m : Nat) : FlZ (fbK d m) := by
  intro f hf
  unfold fbK at hf
  have h3 : (3 : Nat) ≤ maxLen := by decide
  split at hf <;> (rcases List.mem_cons.1 hf with rfl | hf2; · (refine Nat.le_trans ?_ h3; simp)) <;> (rcases List.mem_cons.1 hf2 with rfl | hf3; · (refine Nat.le_trans ?_ h3; simp)) <;> cases hf3
theorem bad_fl {c : Int} {f : Fl} {r : List Fl} (h : flOk c f = false) : dkOk c (f :: r) = false := dk_bad (k := 0) rfl (dkAt_fl h)
theorem fl_co {c : Int} {f : Fl} (h : coOk f.2.1 = false) : flOk c f = false := by unfold flOk; rw [h]; simp
theorem fl_tm {c : Int} {f : Fl} (h : tmOk c f.2.2 = false) : flOk c f = false := by unfold flOk; rw [h]; simp
theorem fbK_bad (d : Int) (h1 : 1 ≤ d) (m : Nat) (hm : m < 10) : dkOk (cbK d m) (fbK d m) = false := by
  match m, hm with
  | 0, _ => exact dk_ck (by show ckOk (-d) _ = false; unfold ckOk; rw [decide_eq_false (show ¬ 0 ≤ -d by omega)]; rfl)
  | 1, _ => exact dk_ck (by show ckOk (1048576 + d) _ = false; unfold ckOk; rw [decide_eq_false (show ¬ 1048576 + d ≤ 1048576 by omega)]; simp)
  | 2, _ => show dkOk 5 [([99], 3, 4), ([98], 0, 2)] = false; decide +kernel
  | 3, _ => show dkOk 5 [([46, 47, 97], 3, 4), ([98], 0, 2)] = false; decide +kernel
  | 4, _ => exact bad_fl (fl_co (by show coOk (-d) = false; unfold coOk; rw [decide_eq_false (show ¬ 0 ≤ -d by omega)]; rfl))
  | 5, _ => exact bad_fl (fl_co (by show coOk (2147483647 + d) = false; unfold coOk; rw [decide_eq_false (show ¬ 2147483647 + d ≤ 2147483647 by omega)]; simp))
  | 6, _ => exact bad_fl (fl_tm (by show tmOk 5 (1 - d) = false; unfold tmOk; rw [decide_eq_false (show ¬ 1 ≤ 1 - d by omega)]; rfl))
  | 7, _ => exact bad_fl (fl_tm (by show tmOk 5 (5 + d) = false; unfold tmOk; rw [decide_eq_false (show ¬ 5 + d ≤ 5 by omega)]; simp))
  | 8, _ => show dkOk 5 [([97], 3, 2), ([98], 0, 2)] = false; decide +kernel
  | 9, _ => show dkOk 5 [([97], 3, 4), ([97], 0, 2)] = false; decide +kernel
  | n + 10, h => omega

theorem bad_put {c x : Int} {fs : List Fl} {n : Tx} (h : dkOk c fs = false) : putC c fs n x = 0 ∧ putF c fs n x = [] ∧ putE c fs n x = 1200 ∧ ([] : List Fl).length = 0 := by
  have he : putE c fs n x = 1200 := by unfold putE; rw [h]; rfl
  refine ⟨?_, ?_, he, rfl⟩
  · unfold putC; rw [if_neg (by rw [he]; decide)]
  · unfold putF; rw [if_neg (by rw [he]; decide)]
theorem bad_rem {c : Int} {fs : List Fl} {n : Tx} (h : dkOk c fs = false) : remC c fs n = 0 ∧ remF c fs n = [] ∧ remE c fs n = 1200 ∧ ([] : List Fl).length = 0 := by
  have he : remE c fs n = 1200 := by unfold remE; rw [h]; rfl
  refine ⟨?_, ?_, he, rfl⟩
  · unfold remC; rw [if_neg (by rw [he]; decide)]
  · unfold remF; rw [if_neg (by rw [he]; decide)]
theorem bad_find {c : Int} {fs : List Fl} {n : Tx} (h : dkOk c fs = false) : fdV c fs n = ([], 0, 0) ∧ (fdF c fs n).isSome = false := by
  have he : fdF c fs n = none := by unfold fdF; rw [h]; rfl
  exact ⟨by unfold fdV; rw [he]; rfl, by rw [he]; rfl⟩
theorem co_put {c x : Int} {fs : List Fl} {n : Tx} (h : coOk x = false) : putC c fs n x = 0 ∧ putF c fs n x = [] ∧ putE c fs n x = 1200 ∧ ([] : List Fl).length = 0 := by
  have he : putE c fs n x = 1200 := by unfold putE; rw [h]; simp
  refine ⟨?_, ?_, he, rfl⟩
  · unfold putC; rw [if_neg (by rw [he]; decide)]
  · unfold putF; rw [if_neg (by rw [he]; decide)]
def gsK : List Fl := [([97], 3, 4), ([98], 0, 2)]
theorem gs_r1 : remC 5 gsK [47, 97] = 0 ∧ remF 5 gsK [47, 97] = [] ∧ remE 5 gsK [47, 97] = 1200 ∧ ([] : List Fl).length = 0 := by decide +kernel
theorem gs_r2 : remC 5 gsK [120] = 0 ∧ remF 5 gsK [120] = [] ∧ remE 5 gsK [120] = 1202 ∧ ([] : List Fl).length = 0 := by decide +kernel
theorem gs_p : putC 1048576 gsK [97] 1 = 0 ∧ putF 1048576 gsK [97] 1 = [] ∧ putE 1048576 gsK [97] 1 = 1201 ∧ ([] : List Fl).length = 0 := by decide +kernel
theorem gs_may : dkOk 1048576 gsK = true := by decide +kernel
end Go.Proofs.YthhlbgfjldmbbaaDoor
