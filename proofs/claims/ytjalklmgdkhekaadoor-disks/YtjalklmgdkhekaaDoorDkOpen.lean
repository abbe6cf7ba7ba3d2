/- What a disk that came in is good for: its clock, its files, where they lie, how many there may be; no conditions. -/
import Derived.ProofKit
import Derived.SizedLaws
import Derived.Deep.SlicePairs
import Derived.Lib.SmallJoins
import Derived.Test.YtjalklmgdkhekaaDoorDkSmall
namespace Go.Proofs.YtjalklmgdkhekaaDoor
open Go.ChangeShapes Go.WideShapes Go.ChangeAt Go.RowKit Go.WideElems

theorem mem_allK {H : Type} {P : Program} {e : TypeId} : ∀ {ds : List (DataW H)} {d : DataW H}, d ∈ ds → ∀ n ∈ d.weights P e, n ∈ DataW.weightsAll P e ds
  | d0 :: r, d, hd, n, hn => by
    rw [DataW.weightsAll, List.mem_append]
    rcases List.mem_cons.1 hd with h | h
    · subst h; exact Or.inl hn
    · exact Or.inr (mem_allK h n hn)
theorem len3 {α : Type} {l : List α} (h : l.length = 3) : ∃ a b c, l = [a, b, c] := by
  obtain _ | ⟨a, l⟩ := l
  · simp at h
  obtain _ | ⟨b, l⟩ := l
  · simp at h
  obtain _ | ⟨c, l⟩ := l
  · simp at h
  obtain _ | ⟨x, l⟩ := l
  · exact ⟨a, b, c, rfl⟩
  · simp at h

/-- A disk that came in. -/
structure IsDk (w : World) (fs : List Fl) (ao : Option Addr) (cap : Nat) : Prop where
  r : RowK w ao fs
  z : FlZ fs
  n : fs.length ≤ cap
  s : cap * 32 ≤ reachBytes
theorem IsDk.q {w w' : World} {fs : List Fl} {ao : Option Addr} {cap : Nat} (h : IsDk w fs ao cap) (q : Q w w') : IsDk w' fs ao cap := ⟨RowG.q h.r q, h.z, h.n, h.s⟩
theorem IsDk.cap {w : World} {fs : List Fl} {ao : Option Addr} {cap : Nat} (h : IsDk w fs ao cap) : cap ≤ maxLen := by have := h.s; unfold reachBytes at this; unfold maxLen; omega
theorem IsDk.len {w : World} {fs : List Fl} {ao : Option Addr} {cap : Nat} (h : IsDk w fs ao cap) : fs.length ≤ maxLen := Nat.le_trans h.n h.cap

section
variable {H : Type} {enc : TypeId × Value → H} {W : World}

theorem Tryd.is_file {n : Nat} {cs : List Value} {y : DataW H × List MemPlace} (h : DataW.trod enc Tryd.prog W 0 (fun _ => true) true n 34 cs = some y) : ∃ f : Fl, cs = fv f ∧ f.1.length ≤ maxLen := by
  obtain ⟨xs, k, hk, hxy, hcl, hxl, hf⟩ := DataW.trod_struct Tryd.underlying34 h
  have hc3 : Tryd.prog.cellsOf 34 = 3 := by kernel_rfl
  rw [hc3] at hcl
  have k1 : Tryd.prog.cellsOf 9 = 1 := by kernel_rfl
  have k2 : Tryd.prog.cellsOf 3 = 1 := by kernel_rfl
  obtain ⟨y0, y1, y2, rfl⟩ := len3 (show xs.length = 3 from hxl)
  obtain ⟨v0, v1, v2, rfl⟩ := len3 hcl
  have g0 := hf 0 _ rfl
  have g1 := hf 1 _ rfl
  have g2 := hf 2 _ rfl
  simp [k1, k2] at g0 g1 g2
  obtain ⟨s0, e0, _, z0⟩ := DataW.trod_string Tryd.underlying9 g0
  obtain ⟨s1, e1, _, _⟩ := DataW.trod_int Tryd.underlying3 g1
  obtain ⟨s2, e2, _, _⟩ := DataW.trod_int Tryd.underlying3 g2
  simp at e0 e1 e2
  subst e0 e1 e2
  refine ⟨(bl s0, s1, s2), ?_, by rw [bl_size]; exact z0⟩
  unfold fv
  rw [(of_bl rfl : s0 = ⟨(bl s0).toArray⟩).symm]

theorem Tryd.is_files {n : Nat} {c : Value} {y : DataW H × List MemPlace} (h : DataW.trod enc Tryd.prog W 0 (fun _ => true) true n 22 [c] = some y)
    (hsz : ∀ m ∈ DataW.weights Tryd.prog 22 y.1, m ≤ reachBytes) : ∃ (a : Option Addr) (cap : Nat) (fs : List Fl), c = .slice a fs.length cap ∧ IsDk W fs a cap := by
  rcases Go.Deep.open_slice Tryd.underlying22 h with ⟨hcs, _⟩ | ⟨a, len, cap, m, k, D, Pl, hcs, _, hl, hm, hmm, hy, hx⟩
  · simp at hcs
    subst hcs
    exact ⟨none, 0, [], rfl, Or.inl rfl, fun f hf => by (cases hf), Nat.le_refl _, by decide⟩
  · simp at hcs
    subst hcs
    simp only [if_true] at hmm
    subst hmm
    have hy1 : y.1 = .slice ((List.range len).map D) ((List.range (m - len)).map fun j => D (len + j)) := by rw [hy]
    have hby : Tryd.prog.bytesOf 34 = 32 := by kernel_rfl
    have hc3 : Tryd.prog.cellsOf 34 = 3 := by kernel_rfl
    rw [hc3] at hx
    have hs : m * 32 ≤ reachBytes := by
      have := hsz ((len + (m - len)) * 32) (by
        rw [hy1, DataW.weights, Tryd.underlying22]
        simp [hby])
      rwa [show len + (m - len) = m by omega] at this
    have each : ∀ i, i < len → ∃ x : Fl, (∀ j v, (fv x)[j]? = some v → W.cell? (a.add (i * 3 + j)) = some v) ∧ x.1.length ≤ maxLen := by
      intro i hi
      obtain ⟨cs', h1, h2⟩ := hx i (by omega)
      obtain ⟨_, hlen, hcell⟩ := World.cells?_some h1
      obtain ⟨x, rfl, hex⟩ := Tryd.is_file h2
      refine ⟨x, fun j v hv => ?_, hex⟩
      have hj : j < 3 := by have := (List.getElem?_eq_some_iff.1 hv).1; rwa [fv_len] at this
      have := hcell j hj
      rw [Go.Deep.add_add] at this
      rw [this, hv]
    obtain ⟨q, hq⟩ := Go.Deep.choose_lt each
    have hlq : ((List.range len).map q).length = len := by simp
    refine ⟨some a, m, (List.range len).map q, by rw [hlq], ?_, ?_, by rw [hlq]; exact hl, hs⟩
    · by_cases h0 : len = 0
      · left; rw [h0]; rfl
      · right
        obtain ⟨b, off, spot⟩ := a
        have h1 := (hq 0 (by omega)).1 0 _ rfl
        have hspot : spot = none := by simpa [Addr.add] using World.cell?_spot h1
        subst hspot
        refine ⟨b, off, rfl, by simpa [Addr.add] using World.block_lt_of_cell? _ _ h1, ?_⟩
        intro j i y v hy hi hv
        have hj : j < len := by have := (List.getElem?_eq_some_iff.1 hy).1; simpa using this
        have hyq : y = q j := by
          rw [List.getElem?_map, List.getElem?_range hj] at hy
          exact (Option.some.inj hy).symm
        subst hyq
        have := (hq j hj).1 i v hv
        rwa [add_plain] at this
    · intro x hx
      obtain ⟨i, hi, rfl⟩ := List.mem_map.1 hx
      exact (hq i (List.mem_range.1 hi)).2

set_option maxRecDepth 100000 in
theorem Tryd.is_disk {r : Reach} {b0 : Nat} {v : Value} {d : DataW H} {p : List MemPlace} (hv : Value.okWide Tryd.prog W r b0 24 v)
    (h : DataW.Trod enc Tryd.prog W 0 (fun _ => true) true 24 v d p)
    (hsz : ∀ m ∈ DataW.weights Tryd.prog 24 d, m ≤ reachBytes) :
    ∃ (c : Int) (fs : List Fl) (ao : Option Addr) (cap : Nat), v = .agg #[.int .i64 c, .slice ao fs.length cap] ∧ IsDk W fs ao cap := by
  obtain ⟨v0, v1, y0, y1, n, rfl, rfl, rfl, h0, h1⟩ := Go.Joins.open_agg2 Tryd.underlying24 (by kernel_rfl) (by kernel_rfl) hv h
  have hw : ∀ m ∈ DataW.weights Tryd.prog 22 y1.1, m ≤ reachBytes := by
    intro m hm
    refine hsz m ?_
    rw [DataW.weights, Tryd.underlying24]
    exact DataW.weights_mem_each (j := 1) (t := 22) rfl rfl m hm
  obtain ⟨s0, e0, _, _⟩ := DataW.trod_int Tryd.underlying3 h0
  obtain ⟨ao, cap, fs, rfl, hd⟩ := Tryd.is_files h1 hw
  simp at e0
  subst e0
  exact ⟨s0, fs, ao, cap, rfl, hd⟩
end

end Go.Proofs.YtjalklmgdkhekaaDoor
