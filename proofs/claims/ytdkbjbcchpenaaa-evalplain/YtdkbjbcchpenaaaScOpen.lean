/- What a slice of binds that came in is good for: its binds, where they lie, how many there may be; no conditions. -/
import Derived.ProofKit
import Derived.SizedLaws
import Derived.Deep.SlicePairs
import Derived.Test.YtdkbjbcchpenaaaScAt
namespace Go.Proofs.Ytdkbjbcchpenaaa
open Go.ChangeShapes Go.WideShapes Go.ChangeAt Go.RowKit Go.WideElems

def IsRowD (w : World) (a : Option Addr) (len cap : Nat) (z : List Bd) : Prop :=
  len = z.length ∧ len ≤ cap ∧ cap * 32 ≤ reachBytes ∧ RowD w a z ∧ Fit z

theorem Try.is_rowD {H : Type} {enc : TypeId × Value → H} {W : World} {a : Option Addr} {len cap : Nat} {d : DataW H} {p : List MemPlace}
    (h : DataW.Trod enc Try.prog W 0 (fun _ => true) true 22 (.slice a len cap) d p)
    (hsz : ∀ elems spare, d = .slice elems spare → (elems.length + spare.length) * Try.prog.bytesOf 34 ≤ reachBytes) : ∃ zs, IsRowD W a len cap zs := by
  obtain ⟨fuel, hf⟩ := h
  rcases Go.Deep.open_slice_pairs Try.underlying22 Try.underlying34 (by kernel_rfl) rfl rfl (by kernel_rfl) (by kernel_rfl) hf with ⟨hcs, _⟩ | ⟨x, l, c, m, n, V0, V1, D0, D1, P0, P1, hcs, _, hl, hm, hmm, hx, hc⟩
  · simp [Value.cells] at hcs
    obtain ⟨rfl, rfl, rfl⟩ := hcs
    exact ⟨[], rfl, Nat.le_refl _, by decide, Or.inl rfl, fun b hb => by cases hb⟩
  · simp [Value.cells] at hcs
    obtain ⟨rfl, rfl, rfl⟩ := hcs
    simp only [if_true] at hmm
    subst hmm
    simp only [Prod.mk.injEq] at hx
    have hby : Try.prog.bytesOf 34 = 32 := by kernel_rfl
    have hs := hsz _ _ hx.1
    rw [hby] at hs
    simp only [List.length_map, List.length_range] at hs
    rw [show len + (m - len) = m by omega] at hs
    have each : ∀ i, i < m → ∃ q : Bd, V0 i = .string q.1 ∧ V1 i = .string q.2 ∧ q.1.size ≤ maxLen ∧ q.2.size ≤ maxLen := by
      intro i hi
      obtain ⟨_, _, h3, h4⟩ := hc i hi
      obtain ⟨s0, e0, _, z0⟩ := DataW.trod_string Try.underlying9 h3
      obtain ⟨s1, e1, _, z1⟩ := DataW.trod_string Try.underlying9 h4
      simp at e0 e1
      exact ⟨(s0, s1), e0, e1, z0, z1⟩
    obtain ⟨q, hq⟩ := Go.Deep.choose_lt each
    refine ⟨(List.range len).map q, by simp, hl, hs, ?_, ?_⟩
    · by_cases h0 : len = 0
      · left; rw [h0]; rfl
      · right
        obtain ⟨b, off, spot⟩ := x
        have h1 := (hc 0 (by omega)).1
        have hspot : spot = none := by simpa [Addr.add] using World.cell?_spot h1
        subst hspot
        refine ⟨b, off, rfl, by simpa [Addr.add] using World.block_lt_of_cell? _ _ h1, ?_⟩
        intro j i y v hy hi hv
        have hj : j < len := by have := (List.getElem?_eq_some_iff.1 hy).1; simpa using this
        have hyq : y = q j := by
          rw [List.getElem?_map, List.getElem?_range hj] at hy
          exact (Option.some.inj hy).symm
        subst hyq
        obtain ⟨e0, e1, _, _⟩ := hq j (by omega)
        obtain ⟨c0, c1, _, _⟩ := hc j (by omega)
        rw [add_plain] at c0 c1
        match i, hi with
        | 0, _ =>
          have : v = V0 j := by rw [e0]; simpa [dv] using hv.symm
          rw [this]; exact c0
        | 1, _ =>
          have : v = V1 j := by rw [e1]; simpa [dv] using hv.symm
          rw [this]; exact c1
    · intro b hb
      obtain ⟨i, hi, rfl⟩ := List.mem_map.1 hb
      have hi2 := List.mem_range.1 hi
      exact (hq i (by omega)).2.2

end Go.Proofs.Ytdkbjbcchpenaaa
