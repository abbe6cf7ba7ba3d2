/- What a row of records that came in is good for: where they lie, how many there may be; no conditions. -/
import Derived.ProofKit
import Derived.SizedLaws
import Derived.Deep.SlicePairs
import Derived.Lib.SmallJoins
import Derived.Test.YtgbegdgacjodcaaGreatDoorLoState
namespace Go.Proofs.YtgbegdgacjodcaaGreatDoor
open Go.ChangeShapes Go.WideShapes Go.ChangeAt Go.RowKit Go.WideElems

theorem len3R {α : Type} {l : List α} (h : l.length = 3) : ∃ a b c, l = [a, b, c] := by
  obtain _ | ⟨a, l⟩ := l
  · simp at h
  obtain _ | ⟨b, l⟩ := l
  · simp at h
  obtain _ | ⟨c, l⟩ := l
  · simp at h
  obtain _ | ⟨x, l⟩ := l
  · exact ⟨a, b, c, rfl⟩
  · simp at h

/-- A row of records that came in. -/
structure IsRs (w : World) (rs : Rs) (ao : Option Addr) (cap : Nat) : Prop where
  r : RowR w ao rs
  z : RsZ rs
  n : rs.length ≤ cap
  s : cap * 40 ≤ reachBytes
theorem IsRs.q {w w' : World} {rs : Rs} {ao : Option Addr} {cap : Nat} (h : IsRs w rs ao cap) (q : Q w w') : IsRs w' rs ao cap := ⟨RowG.q h.r q, h.z, h.n, h.s⟩
theorem IsRs.cap {w : World} {rs : Rs} {ao : Option Addr} {cap : Nat} (h : IsRs w rs ao cap) : cap ≤ maxLen := by have := h.s; unfold reachBytes at this; unfold maxLen; omega
theorem IsRs.len {w : World} {rs : Rs} {ao : Option Addr} {cap : Nat} (h : IsRs w rs ao cap) : rs.length ≤ maxLen := Nat.le_trans h.n h.cap

section
variable {H : Type} {enc : TypeId × Value → H} {W : World}

theorem Tryz.is_recC {n : Nat} {cs : List Value} {y : DataW H × List MemPlace} (h : DataW.trod enc Tryz.prog W 0 (fun _ => true) true n 31 cs = some y) : ∃ f : Rc, cs = rv f ∧ RcZ f := by
  obtain ⟨xs, k, hk, hxy, hcl, hxl, hf⟩ := DataW.trod_struct Tryz.underlying31 h
  have hc3 : Tryz.prog.cellsOf 31 = 3 := by kernel_rfl
  rw [hc3] at hcl
  have k1 : Tryz.prog.cellsOf 9 = 1 := by kernel_rfl
  have k2 : Tryz.prog.cellsOf 3 = 1 := by kernel_rfl
  obtain ⟨y0, y1, y2, rfl⟩ := len3R (show xs.length = 3 from hxl)
  obtain ⟨v0, v1, v2, rfl⟩ := len3R hcl
  have g0 := hf 0 _ rfl
  have g1 := hf 1 _ rfl
  have g2 := hf 2 _ rfl
  simp [k1, k2] at g0 g1 g2
  obtain ⟨s0, e0, _, z0⟩ := DataW.trod_string Tryz.underlying9 g0
  obtain ⟨s1, e1, _, _⟩ := DataW.trod_int Tryz.underlying3 g1
  obtain ⟨s2, e2, _, z2⟩ := DataW.trod_string Tryz.underlying9 g2
  simp at e0 e1 e2
  subst e0 e1 e2
  refine ⟨(bl s0, s1, bl s2), ?_, by dsimp only; rw [bl_size]; exact z0, by dsimp only; rw [bl_size]; exact z2⟩
  unfold rv
  dsimp only
  rw [← of_bl (t := s0) rfl, ← of_bl (t := s2) rfl]

theorem Tryz.is_recs {n : Nat} {c : Value} {y : DataW H × List MemPlace} (h : DataW.trod enc Tryz.prog W 0 (fun _ => true) true n 22 [c] = some y)
    (hsz : ∀ m ∈ DataW.weights Tryz.prog 22 y.1, m ≤ reachBytes) : ∃ (a : Option Addr) (cap : Nat) (fs : Rs), c = .slice a fs.length cap ∧ IsRs W fs a cap := by
  rcases Go.Deep.open_slice Tryz.underlying22 h with ⟨hcs, _⟩ | ⟨a, len, cap, m, k, D, Pl, hcs, _, hl, hm, hmm, hy, hx⟩
  · simp at hcs
    subst hcs
    exact ⟨none, 0, [], rfl, Or.inl rfl, fun f hf => by (cases hf), Nat.le_refl _, by decide⟩
  · simp at hcs
    subst hcs
    simp only [if_true] at hmm
    subst hmm
    have hy1 : y.1 = .slice ((List.range len).map D) ((List.range (m - len)).map fun j => D (len + j)) := by rw [hy]
    have hby : Tryz.prog.bytesOf 31 = 40 := by kernel_rfl
    have hc3 : Tryz.prog.cellsOf 31 = 3 := by kernel_rfl
    rw [hc3] at hx
    have hs : m * 40 ≤ reachBytes := by
      have := hsz ((len + (m - len)) * 40) (by
        rw [hy1, DataW.weights, Tryz.underlying22]
        simp [hby])
      rwa [show len + (m - len) = m by omega] at this
    have each : ∀ i, i < len → ∃ x : Rc, (∀ j v, (rv x)[j]? = some v → W.cell? (a.add (i * 3 + j)) = some v) ∧ RcZ x := by
      intro i hi
      obtain ⟨cs', h1, h2⟩ := hx i (by omega)
      obtain ⟨_, hlen, hcell⟩ := World.cells?_some h1
      obtain ⟨x, rfl, hex⟩ := Tryz.is_recC h2
      refine ⟨x, fun j v hv => ?_, hex⟩
      have hj : j < 3 := by have := (List.getElem?_eq_some_iff.1 hv).1; rwa [rv_len] at this
      have := hcell j hj
      rw [Go.Deep.add_add] at this
      rw [this, hv]
    obtain ⟨q, hq⟩ := Go.Deep.choose_lt each
    have hlq : ((List.range len).map q).length = len := by simp
    refine ⟨some a, m, (List.range len).map q, by rw [hlq], ?_, ?_, by rw [hlq]; exact hl, hs⟩
    · by_cases h0 : len = 0
      · left; rw [h0]; rfl
      · right
        obtain ⟨b, off, spot⟩ := a
        have h1 := (hq 0 (by omega)).1 0 _ rfl
        have hspot : spot = none := by simpa [Addr.add] using World.cell?_spot h1
        subst hspot
        refine ⟨b, off, rfl, by simpa [Addr.add] using World.block_lt_of_cell? _ _ h1, ?_⟩
        intro j i y v hy hi hv
        have hj : j < len := by have := (List.getElem?_eq_some_iff.1 hy).1; simpa using this
        have hyq : y = q j := by
          rw [List.getElem?_map, List.getElem?_range hj] at hy
          exact (Option.some.inj hy).symm
        subst hyq
        have := (hq j hj).1 i v hv
        rwa [add_plain] at this
    · intro x hx
      obtain ⟨i, hi, rfl⟩ := List.mem_map.1 hx
      exact (hq i (List.mem_range.1 hi)).2

end

end Go.Proofs.YtgbegdgacjodcaaGreatDoor
