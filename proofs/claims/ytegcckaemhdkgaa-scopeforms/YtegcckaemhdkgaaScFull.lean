/- Plain facts on scopes that may not be, and on a full one; where they lie; no conditions. -/
import Derived.Test.YtegcckaemhdkgaaBitPlain
import Derived.Test.YtegcckaemhdkgaaStrOne
import Derived.Test.YtegcckaemhdkgaaScAwake
namespace Go.Proofs.Ytegcckaemhdkgaa
open Go.RowKit

theorem and127 (n : Int) : bits .and .i64 n 127 = n % 128 := by
  show IntKind.i64.wrap ((BitVec.ofInt 64 n &&& BitVec.ofInt 64 127).toNat : Int) = _
  rw [BitVec.toNat_and, show (BitVec.ofInt 64 127).toNat = 2 ^ 7 - 1 from rfl, Nat.and_two_pow_sub_one_eq_mod, BitVec.toNat_ofInt, IntKind.wrap_i64]; omega

theorem rowG_at {α : Type} {f : α → List Value} {sz n : Nat} (hf : ∀ x, (f x).length = sz) (w : World) (cs : Array Value) (t : TypeId) (xs : List α) (h : cs.toList = lay f xs) (hn : n = w.heap.size) : RowG f sz (w.alloc (.cells cs t)) (some ⟨n, 0, none⟩) xs := by
  subst hn; exact rowG_block hf w cs t xs h

abbrev bad1 : Array Value := #[.string ⟨#[97]⟩, .string ⟨#[]⟩, .string ⟨#[97]⟩, .string ⟨#[]⟩]
abbrev bad2 : Array Value := #[.string ⟨#[65]⟩, .string ⟨#[]⟩]
abbrev bad3 : Array Value := #[.string ⟨#[]⟩, .string ⟨#[]⟩]
abbrev bad4 : Array Value := #[.string ⟨#[97]⟩, .string ⟨#[10]⟩]
abbrev bad5 (L : ByteArray) : Array Value := #[.string ⟨#[97]⟩, .string L]
abbrev wBad (w : World) (L : ByteArray) : World := ((((w.alloc (.cells bad1 37)).alloc (.cells bad2 37)).alloc (.cells bad3 37)).alloc (.cells bad4 37)).alloc (.cells (bad5 L) 37)

theorem txB_long {L : ByteArray} (h : 256 < L.size) : txB L = false := by unfold txB; rw [decide_eq_false (by omega)]; rfl

theorem bads_at (w : World) (L : ByteArray) (h1 : 256 < L.size) (h2 : L.size ≤ 4096) (r : Nat) (hr : r < 5) : ∃ (D : List Bd) (g : Nat),
    ([Value.slice (some ⟨w.heap.size, 0, none⟩) 2 2, .slice (some ⟨w.heap.size + 1, 0, none⟩) 1 1, .slice (some ⟨w.heap.size + 1 + 1, 0, none⟩) 1 1, .slice (some ⟨w.heap.size + 1 + 1 + 1, 0, none⟩) 1 1, .slice (some ⟨w.heap.size + 1 + 1 + 1 + 1, 0, none⟩) 1 1])[r]'hr = .slice (some ⟨g, 0, none⟩) D.length D.length ∧
    RowD (wBad w L) (some ⟨g, 0, none⟩) D ∧ Fit D ∧ scOk D = false ∧ D.length ≤ 2 := by
  match r, hr with
  | 0, _ => exact ⟨[(⟨#[97]⟩, ⟨#[]⟩), (⟨#[97]⟩, ⟨#[]⟩)], w.heap.size, rfl, (rowG_at dv_len w bad1 _ _ rfl rfl).q (((((Q.refl _).alloc _).alloc _).alloc _).alloc _), fit_of (by decide +kernel), by decide +kernel, by decide⟩
  | 1, _ => exact ⟨[(⟨#[65]⟩, ⟨#[]⟩)], w.heap.size + 1, rfl, (rowG_at dv_len _ bad2 _ _ rfl (by simp)).q ((((Q.refl _).alloc _).alloc _).alloc _), fit_of (by decide +kernel), by decide +kernel, by decide⟩
  | 2, _ => exact ⟨[(⟨#[]⟩, ⟨#[]⟩)], w.heap.size + 1 + 1, rfl, (rowG_at dv_len _ bad3 _ _ rfl (by simp)).q (((Q.refl _).alloc _).alloc _), fit_of (by decide +kernel), by decide +kernel, by decide⟩
  | 3, _ => exact ⟨[(⟨#[97]⟩, ⟨#[10]⟩)], w.heap.size + 1 + 1 + 1, rfl, (rowG_at dv_len _ bad4 _ _ rfl (by simp)).q ((Q.refl _).alloc _), fit_of (by decide +kernel), by decide +kernel, by decide⟩
  | 4, _ => exact ⟨[(⟨#[97]⟩, L)], w.heap.size + 1 + 1 + 1 + 1, rfl, rowG_at dv_len _ (bad5 L) _ _ rfl (by simp), (by intro b hb; simp at hb; subst hb; exact ⟨by show (⟨#[97]⟩ : ByteArray).size ≤ maxLen; unfold maxLen; decide, by show L.size ≤ maxLen; unfold maxLen; omega⟩),
      scOk_bad (k := 0) (b := (⟨#[97]⟩, L)) rfl (by unfold okAt mayBd; rw [show txB L = false from txB_long h1, Bool.and_false]; rfl), by simp⟩

/-- The names of a full scope. -/
def vn (m : Nat) : ByteArray := ⟨#[118, UInt8.ofNat (97 + m)]⟩
theorem vn_eq {m : Nat} {c : UInt8} (h : (c.toNat : Int) = 97 + (m : Int)) (hm : m < 16) : (⟨#[118]⟩ : ByteArray) ++ ⟨#[c]⟩ = vn m := by
  have e : c = UInt8.ofNat (97 + m) := by
    apply UInt8.toNat_inj.1
    rw [UInt8.toNat_ofNat']; omega
  rw [e]
  exact of_bl (by rw [bl_app]; rfl)
def fullB (k : Nat) : List Bd := (List.range k).map fun i => (vn i, ⟨#[49]⟩)
theorem fullB_succ (k : Nat) : fullB (k + 1) = fullB k ++ [(vn k, ⟨#[49]⟩)] := by unfold fullB; rw [List.range_succ, List.map_append]; rfl
theorem fullB_len (k : Nat) : (fullB k).length = k := by unfold fullB; rw [List.length_map, List.length_range]
theorem full1 : scOk (fullB 16) = true := by decide +kernel
theorem full2 : setB (fullB 16) ⟨#[119]⟩ ⟨#[49]⟩ = [] ∧ setE (fullB 16) ⟨#[119]⟩ ⟨#[49]⟩ = 401 := by decide +kernel
theorem full3 : ∀ m < 16, (setB (fullB 16) (vn m) ⟨#[50]⟩).length = 16 ∧ setE (fullB 16) (vn m) ⟨#[50]⟩ = 0 := by decide +kernel
theorem forms1 : setB [] ⟨#[88]⟩ ⟨#[121]⟩ = [] ∧ setE [] ⟨#[88]⟩ ⟨#[121]⟩ = 400 := by decide +kernel
theorem forms2 : setB [] ⟨#[120]⟩ ⟨#[9]⟩ = [] ∧ setE [] ⟨#[120]⟩ ⟨#[9]⟩ = 400 := by decide +kernel
theorem rowD_nil (w : World) (ao : Option Addr) : RowD w ao [] := Or.inl rfl
theorem fit_nil : Fit [] := fun b hb => by cases hb

end Go.Proofs.Ytegcckaemhdkgaa
