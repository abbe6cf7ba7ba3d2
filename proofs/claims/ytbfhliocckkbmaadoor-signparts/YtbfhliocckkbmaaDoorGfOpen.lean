/- What a graph that came in is good for: its edges, pools, defaults, where they lie, how many there may be; no conditions. -/
import Derived.ProofKit
import Derived.SizedLaws
import Derived.SliceStrings
import Derived.Deep.SlicePairs
import Derived.Lib.SmallJoins
import Derived.Test.YtbfhliocckkbmaaDoorGfState
import Derived.Test.YtbfhliocckkbmaaDoorWdOpen
namespace Go.Proofs.YtbfhliocckkbmaaDoor
open Go.ChangeShapes Go.WideShapes Go.ChangeAt Go.RowKit Go.WideElems

theorem mem_all {H : Type} {P : Program} {e : TypeId} : ∀ {ds : List (DataW H)} {d : DataW H}, d ∈ ds → ∀ n ∈ d.weights P e, n ∈ DataW.weightsAll P e ds
  | d0 :: r, d, hd, n, hn => by
    rw [DataW.weightsAll, List.mem_append]
    rcases List.mem_cons.1 hd with h | h
    · subst h; exact Or.inl hn
    · exact Or.inr (mem_all h n hn)

theorem len7 {α : Type} {l : List α} (h : l.length = 7) : ∃ a b c d e f g, l = [a, b, c, d, e, f, g] := by
  obtain _ | ⟨a, l⟩ := l
  · simp at h
  obtain _ | ⟨b, l⟩ := l
  · simp at h
  obtain _ | ⟨c, l⟩ := l
  · simp at h
  obtain _ | ⟨d, l⟩ := l
  · simp at h
  obtain _ | ⟨e, l⟩ := l
  · simp at h
  obtain _ | ⟨f, l⟩ := l
  · simp at h
  obtain _ | ⟨g, l⟩ := l
  · simp at h
  obtain _ | ⟨x, l⟩ := l
  · exact ⟨a, b, c, d, e, f, g, rfl⟩
  · simp at h

section
variable {H : Type} {enc : TypeId × Value → H} {W : World}

theorem Tryd.is_rowT' {n : Nat} {c : Value} {y : DataW H × List MemPlace} (h : DataW.trod enc Tryd.prog W 0 (fun _ => true) true n 22 [c] = some y)
    (hsz : ∀ m ∈ DataW.weights Tryd.prog 22 y.1, m ≤ reachBytes) : ∃ a len cap zs, c = .slice a len cap ∧ IsRowT W a len cap zs := by
  have hs : ∀ elems spare, y.1 = .slice elems spare → (elems.length + spare.length) * Tryd.prog.bytesOf 9 ≤ reachBytes := by
    intro elems spare e
    rw [e] at hsz
    exact hsz _ (by simp [DataW.weights, Tryd.underlying22])
  rcases open_strings Tryd.underlying22 Tryd.underlying9 (by kernel_rfl) h with ⟨hcs, _⟩ | ⟨x, l, c', ss, hcs, _⟩
  · simp at hcs
    subst hcs
    obtain ⟨zs, hz⟩ := Tryd.is_rowT (enc := enc) (d := y.1) (p := y.2) ⟨n, h⟩ hs
    exact ⟨_, _, _, zs, rfl, hz⟩
  · simp at hcs
    subst hcs
    obtain ⟨zs, hz⟩ := Tryd.is_rowT (enc := enc) (d := y.1) (p := y.2) ⟨n, h⟩ hs
    exact ⟨_, _, _, zs, rfl, hz⟩

/-- A row that is no longer than what can be. -/
structure RowZ (w : World) (p : Pa) (ws : Ws) : Prop where
  r : RowT w p.1 ws
  z : WsZ ws
  n : ws.length ≤ p.2
  s : p.2 * 16 ≤ reachBytes
theorem IsRowT.z {w : World} {a : Option Addr} {len cap : Nat} {z : Ws} (h : IsRowT w a len cap z) : RowZ w (a, cap) z := by
  obtain ⟨h1, h2, h3, h4, h5⟩ := h
  refine ⟨h4, ⟨?_, h5⟩, by show z.length ≤ cap; omega, h3⟩
  unfold reachBytes at h3; omega
structure EdO (w : World) (x : EdA) : Prop where
  a : RowZ w x.2.1 x.1.1
  b : RowZ w x.2.2.1 x.1.2.1
  c : RowZ w x.2.2.2.1 x.1.2.2.1
  d : RowZ w x.2.2.2.2 x.1.2.2.2.1
  k : x.1.2.2.2.2.1.length ≤ maxLen
  p : x.1.2.2.2.2.2.2.length ≤ maxLen

theorem Tryd.is_edge {n : Nat} {cs : List Value} {y : DataW H × List MemPlace} (h : DataW.trod enc Tryd.prog W 0 (fun _ => true) true n 24 cs = some y)
    (hsz : ∀ m ∈ DataW.weights Tryd.prog 24 y.1, m ≤ reachBytes) : ∃ x : EdA, cs = ev x ∧ EdO W x := by
  obtain ⟨xs, k, hk, hxy, hcl, hxl, hf⟩ := DataW.trod_struct Tryd.underlying24 h
  have hc7 : Tryd.prog.cellsOf 24 = 7 := by kernel_rfl
  rw [hc7] at hcl
  have k1 : Tryd.prog.cellsOf 22 = 1 := by kernel_rfl
  have k2 : Tryd.prog.cellsOf 9 = 1 := by kernel_rfl
  have k3 : Tryd.prog.cellsOf 4 = 1 := by kernel_rfl
  obtain ⟨y0, y1, y2, y3, y4, y5, y6, rfl⟩ := len7 (show xs.length = 7 from hxl)
  obtain ⟨v0, v1, v2, v3, v4, v5, v6, rfl⟩ := len7 hcl
  have g0 := hf 0 _ rfl
  have g1 := hf 1 _ rfl
  have g2 := hf 2 _ rfl
  have g3 := hf 3 _ rfl
  have g4 := hf 4 _ rfl
  have g5 := hf 5 _ rfl
  have g6 := hf 6 _ rfl
  simp [k1, k2, k3] at g0 g1 g2 g3 g4 g5 g6
  subst hxy
  have hw : ∀ (j : Nat) t d, (([22, 22, 22, 22, 9, 4, 9] : List TypeId))[j]? = some t → ([y0.1, y1.1, y2.1, y3.1, y4.1, y5.1, y6.1] : List (DataW H))[j]? = some d → ∀ m ∈ DataW.weights Tryd.prog t d, m ≤ reachBytes := by
    intro j t d ht hd m hm
    refine hsz m ?_
    show m ∈ DataW.weights Tryd.prog 24 (.agg [y0.1, y1.1, y2.1, y3.1, y4.1, y5.1, y6.1])
    rw [DataW.weights, Tryd.underlying24]
    exact DataW.weights_mem_each ht hd m hm
  obtain ⟨a0, l0, c0, z0, rfl, r0⟩ := Tryd.is_rowT' g0 (hw 0 _ _ rfl rfl)
  obtain ⟨a1, l1, c1, z1, rfl, r1⟩ := Tryd.is_rowT' g1 (hw 1 _ _ rfl rfl)
  obtain ⟨a2, l2, c2, z2, rfl, r2⟩ := Tryd.is_rowT' g2 (hw 2 _ _ rfl rfl)
  obtain ⟨a3, l3, c3, z3, rfl, r3⟩ := Tryd.is_rowT' g3 (hw 3 _ _ rfl rfl)
  obtain ⟨s4, e4, _, z4⟩ := DataW.trod_string Tryd.underlying9 g4
  obtain ⟨s5, e5, _⟩ := DataW.trod_bool Tryd.underlying4 g5
  obtain ⟨s6, e6, _, z6⟩ := DataW.trod_string Tryd.underlying9 g6
  simp at e4 e5 e6
  subst e4 e5 e6
  refine ⟨((z0, z1, z2, z3, bl s4, s5, bl s6), (a0, c0), (a1, c1), (a2, c2), (a3, c3)), ?_, ⟨r0.z, r1.z, r2.z, r3.z, by rw [bl_size]; exact z4, by rw [bl_size]; exact z6⟩⟩
  unfold ev EdA.v1 EdA.v2 EdA.v3 EdA.v4
  simp only [r0.1, r1.1, r2.1, r3.1]
  rw [(of_bl rfl : s4 = ⟨(bl s4).toArray⟩).symm, (of_bl rfl : s6 = ⟨(bl s6).toArray⟩).symm]
theorem EdO.z {w : World} {x : EdA} (h : EdO w x) : EdRd w x ∧ EdZ x.1 := ⟨⟨h.a.r, h.b.r, h.c.r, h.d.r⟩, ⟨h.a.z, h.b.z, h.c.z, h.d.z, h.k, h.p⟩⟩

end

end Go.Proofs.YtbfhliocckkbmaaDoor
