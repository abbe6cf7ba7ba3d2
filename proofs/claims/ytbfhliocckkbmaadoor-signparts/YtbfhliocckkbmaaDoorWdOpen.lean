/- What a slice of texts that came in is good for: its texts, where they lie, how many there may be; no conditions. -/
import Derived.ProofKit
import Derived.SizedLaws
import Derived.SliceStrings
import Derived.Test.YtbfhliocckkbmaaDoorWdBut
namespace Go.Proofs.YtbfhliocckkbmaaDoor
open Go.ChangeShapes Go.WideShapes Go.ChangeAt Go.RowKit Go.WideElems

def IsRowT (w : World) (a : Option Addr) (len cap : Nat) (z : Ws) : Prop :=
  len = z.length ∧ len ≤ cap ∧ cap * 16 ≤ reachBytes ∧ RowT w a z ∧ ∀ x ∈ z, x.length ≤ maxLen

theorem Tryd.is_rowT {H : Type} {enc : TypeId × Value → H} {W : World} {a : Option Addr} {len cap : Nat} {d : DataW H} {p : List MemPlace}
    (h : DataW.Trod enc Tryd.prog W 0 (fun _ => true) true 22 (.slice a len cap) d p)
    (hsz : ∀ elems spare, d = .slice elems spare → (elems.length + spare.length) * Tryd.prog.bytesOf 9 ≤ reachBytes) : ∃ zs, IsRowT W a len cap zs := by
  obtain ⟨fuel, hf⟩ := h
  rcases open_strings Tryd.underlying22 Tryd.underlying9 (by kernel_rfl) hf with ⟨hcs, _⟩ | ⟨x, l, c, ss, hcs, _, hl, hm, hss, hx, hcell, hwz⟩
  · simp [Value.cells] at hcs
    obtain ⟨rfl, rfl, rfl⟩ := hcs
    exact ⟨[], rfl, Nat.le_refl _, by decide, Or.inl rfl, fun b hb => by cases hb⟩
  · simp [Value.cells] at hcs
    obtain ⟨rfl, rfl, rfl⟩ := hcs
    simp only [if_true] at hss
    simp only [Prod.mk.injEq] at hx
    have hby : Tryd.prog.bytesOf 9 = 16 := by kernel_rfl
    have hs := hsz _ _ hx.1
    rw [hby] at hs
    simp only [strs, List.length_map, List.length_take, List.length_drop] at hs
    rw [show min len ss.length + (ss.length - len) = cap by omega] at hs
    refine ⟨(ss.take len).map bl, by rw [List.length_map, List.length_take]; omega, hl, hs, ?_, ?_⟩
    · by_cases h0 : len = 0
      · left; rw [h0]; rfl
      · right
        obtain ⟨b, off, spot⟩ := x
        have h1 := hcell 0 (by omega)
        have hspot : spot = none := by simpa [Addr.add] using World.cell?_spot h1
        subst hspot
        refine ⟨b, off, rfl, by simpa [Addr.add] using World.block_lt_of_cell? _ _ h1, ?_⟩
        intro j i y v hy hi hv
        obtain rfl : i = 0 := by omega
        have hj : j < len := by have := (List.getElem?_eq_some_iff.1 hy).1; simp at this; omega
        rw [List.getElem?_map, List.getElem?_take, if_pos hj] at hy
        have hjs : j < ss.length := by omega
        rw [List.getElem?_eq_getElem hjs] at hy
        have hyb : y = bl ss[j] := (Option.some.inj hy).symm
        have hvv : v = .string ss[j] := by
          have : Value.string ⟨y.toArray⟩ = v := by simpa [tv] using hv
          rw [← this, hyb, (of_bl rfl : ss[j] = ⟨(bl ss[j]).toArray⟩).symm]
        have hc := hcell j hjs
        rw [add_plain] at hc
        rw [Nat.mul_one, Nat.add_zero, hc, hvv]
        simp [List.getD, hjs]
    · intro b hb
      obtain ⟨s, hs1, rfl⟩ := List.mem_map.1 hb
      rw [bl_size]; exact hwz s (List.mem_of_mem_take hs1)

end Go.Proofs.YtbfhliocckkbmaaDoor
