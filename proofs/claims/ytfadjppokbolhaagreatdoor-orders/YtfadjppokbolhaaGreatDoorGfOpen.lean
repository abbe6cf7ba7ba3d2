/- What a graph that came in is good for: its edges, pools, defaults, where they lie, how many there may be; no conditions. -/
import Derived.ProofKit
import Derived.SizedLaws
import Derived.SliceStrings
import Derived.Deep.SlicePairs
import Derived.Lib.SmallJoins
import Derived.Test.YtfadjppokbolhaaGreatDoorGfState
import Derived.Test.YtfadjppokbolhaaGreatDoorWdOpen
namespace Go.Proofs.YtfadjppokbolhaaGreatDoor
open Go.ChangeShapes Go.WideShapes Go.ChangeAt Go.RowKit Go.WideElems

theorem mem_all {H : Type} {P : Program} {e : TypeId} : ∀ {ds : List (DataW H)} {d : DataW H}, d ∈ ds → ∀ n ∈ d.weights P e, n ∈ DataW.weightsAll P e ds
  | d0 :: r, d, hd, n, hn => by
    rw [DataW.weightsAll, List.mem_append]
    rcases List.mem_cons.1 hd with h | h
    · subst h; exact Or.inl hn
    · exact Or.inr (mem_all h n hn)

theorem len7 {α : Type} {l : List α} (h : l.length = 7) : ∃ a b c d e f g, l = [a, b, c, d, e, f, g] := by
  obtain _ | ⟨a, l⟩ := l
  · simp at h
  obtain _ | ⟨b, l⟩ := l
  · simp at h
  obtain _ | ⟨c, l⟩ := l
  · simp at h
  obtain _ | ⟨d, l⟩ := l
  · simp at h
  obtain _ | ⟨e, l⟩ := l
  · simp at h
  obtain _ | ⟨f, l⟩ := l
  · simp at h
  obtain _ | ⟨g, l⟩ := l
  · simp at h
  obtain _ | ⟨x, l⟩ := l
  · exact ⟨a, b, c, d, e, f, g, rfl⟩
  · simp at h

section
variable {H : Type} {enc : TypeId × Value → H} {W : World}

theorem Tryz.is_rowT' {n : Nat} {c : Value} {y : DataW H × List MemPlace} (h : DataW.trod enc Tryz.prog W 0 (fun _ => true) true n 24 [c] = some y)
    (hsz : ∀ m ∈ DataW.weights Tryz.prog 24 y.1, m ≤ reachBytes) : ∃ a len cap zs, c = .slice a len cap ∧ IsRowT W a len cap zs := by
  have hs : ∀ elems spare, y.1 = .slice elems spare → (elems.length + spare.length) * Tryz.prog.bytesOf 9 ≤ reachBytes := by
    intro elems spare e
    rw [e] at hsz
    exact hsz _ (by simp [DataW.weights, Tryz.underlying24])
  rcases open_strings Tryz.underlying24 Tryz.underlying9 (by kernel_rfl) h with ⟨hcs, _⟩ | ⟨x, l, c', ss, hcs, _⟩
  · simp at hcs
    subst hcs
    obtain ⟨zs, hz⟩ := Tryz.is_rowT (enc := enc) (d := y.1) (p := y.2) ⟨n, h⟩ hs
    exact ⟨_, _, _, zs, rfl, hz⟩
  · simp at hcs
    subst hcs
    obtain ⟨zs, hz⟩ := Tryz.is_rowT (enc := enc) (d := y.1) (p := y.2) ⟨n, h⟩ hs
    exact ⟨_, _, _, zs, rfl, hz⟩

/-- A row that is no longer than what can be. -/
structure RowZ (w : World) (p : Pa) (ws : Ws) : Prop where
  r : RowT w p.1 ws
  z : WsZ ws
  n : ws.length ≤ p.2
  s : p.2 * 16 ≤ reachBytes
theorem IsRowT.z {w : World} {a : Option Addr} {len cap : Nat} {z : Ws} (h : IsRowT w a len cap z) : RowZ w (a, cap) z := by
  obtain ⟨h1, h2, h3, h4, h5⟩ := h
  refine ⟨h4, ⟨?_, h5⟩, by show z.length ≤ cap; omega, h3⟩
  unfold reachBytes at h3; omega
structure EdO (w : World) (x : EdA) : Prop where
  a : RowZ w x.2.1 x.1.1
  b : RowZ w x.2.2.1 x.1.2.1
  c : RowZ w x.2.2.2.1 x.1.2.2.1
  d : RowZ w x.2.2.2.2 x.1.2.2.2.1
  k : x.1.2.2.2.2.1.length ≤ maxLen
  p : x.1.2.2.2.2.2.2.length ≤ maxLen

theorem Tryz.is_edge {n : Nat} {cs : List Value} {y : DataW H × List MemPlace} (h : DataW.trod enc Tryz.prog W 0 (fun _ => true) true n 41 cs = some y)
    (hsz : ∀ m ∈ DataW.weights Tryz.prog 41 y.1, m ≤ reachBytes) : ∃ x : EdA, cs = ev x ∧ EdO W x := by
  obtain ⟨xs, k, hk, hxy, hcl, hxl, hf⟩ := DataW.trod_struct Tryz.underlying41 h
  have hc7 : Tryz.prog.cellsOf 41 = 7 := by kernel_rfl
  rw [hc7] at hcl
  have k1 : Tryz.prog.cellsOf 24 = 1 := by kernel_rfl
  have k2 : Tryz.prog.cellsOf 9 = 1 := by kernel_rfl
  have k3 : Tryz.prog.cellsOf 4 = 1 := by kernel_rfl
  obtain ⟨y0, y1, y2, y3, y4, y5, y6, rfl⟩ := len7 (show xs.length = 7 from hxl)
  obtain ⟨v0, v1, v2, v3, v4, v5, v6, rfl⟩ := len7 hcl
  have g0 := hf 0 _ rfl
  have g1 := hf 1 _ rfl
  have g2 := hf 2 _ rfl
  have g3 := hf 3 _ rfl
  have g4 := hf 4 _ rfl
  have g5 := hf 5 _ rfl
  have g6 := hf 6 _ rfl
  simp [k1, k2, k3] at g0 g1 g2 g3 g4 g5 g6
  subst hxy
  have hw : ∀ (j : Nat) t d, (([24, 24, 24, 24, 9, 4, 9] : List TypeId))[j]? = some t → ([y0.1, y1.1, y2.1, y3.1, y4.1, y5.1, y6.1] : List (DataW H))[j]? = some d → ∀ m ∈ DataW.weights Tryz.prog t d, m ≤ reachBytes := by
    intro j t d ht hd m hm
    refine hsz m ?_
    show m ∈ DataW.weights Tryz.prog 41 (.agg [y0.1, y1.1, y2.1, y3.1, y4.1, y5.1, y6.1])
    rw [DataW.weights, Tryz.underlying41]
    exact DataW.weights_mem_each ht hd m hm
  obtain ⟨a0, l0, c0, z0, rfl, r0⟩ := Tryz.is_rowT' g0 (hw 0 _ _ rfl rfl)
  obtain ⟨a1, l1, c1, z1, rfl, r1⟩ := Tryz.is_rowT' g1 (hw 1 _ _ rfl rfl)
  obtain ⟨a2, l2, c2, z2, rfl, r2⟩ := Tryz.is_rowT' g2 (hw 2 _ _ rfl rfl)
  obtain ⟨a3, l3, c3, z3, rfl, r3⟩ := Tryz.is_rowT' g3 (hw 3 _ _ rfl rfl)
  obtain ⟨s4, e4, _, z4⟩ := DataW.trod_string Tryz.underlying9 g4
  obtain ⟨s5, e5, _⟩ := DataW.trod_bool Tryz.underlying4 g5
  obtain ⟨s6, e6, _, z6⟩ := DataW.trod_string Tryz.underlying9 g6
  simp at e4 e5 e6
  subst e4 e5 e6
  refine ⟨((z0, z1, z2, z3, bl s4, s5, bl s6), (a0, c0), (a1, c1), (a2, c2), (a3, c3)), ?_, ⟨r0.z, r1.z, r2.z, r3.z, by rw [bl_size]; exact z4, by rw [bl_size]; exact z6⟩⟩
  unfold ev EdA.v1 EdA.v2 EdA.v3 EdA.v4
  simp only [r0.1, r1.1, r2.1, r3.1]
  rw [(of_bl rfl : s4 = ⟨(bl s4).toArray⟩).symm, (of_bl rfl : s6 = ⟨(bl s6).toArray⟩).symm]
theorem Tryz.is_edges {n : Nat} {c : Value} {y : DataW H × List MemPlace} (h : DataW.trod enc Tryz.prog W 0 (fun _ => true) true n 22 [c] = some y)
    (hsz : ∀ m ∈ DataW.weights Tryz.prog 22 y.1, m ≤ reachBytes) : ∃ (a : Option Addr) (cap : Nat) (es : List EdA), c = .slice a es.length cap ∧ RowG ev 7 W a es ∧ es.length ≤ cap ∧ cap * 136 ≤ reachBytes ∧ ∀ x ∈ es, EdO W x := by
  rcases Go.Deep.open_slice Tryz.underlying22 h with ⟨hcs, _⟩ | ⟨a, len, cap, m, k, D, Pl, hcs, _, hl, hm, hmm, hy, hx⟩
  · simp at hcs
    subst hcs
    exact ⟨none, 0, [], rfl, Or.inl rfl, Nat.le_refl _, by decide, fun x hx => by cases hx⟩
  · simp at hcs
    subst hcs
    simp only [if_true] at hmm
    subst hmm
    have hy1 : y.1 = .slice ((List.range len).map D) ((List.range (m - len)).map fun j => D (len + j)) := by rw [hy]
    have hby : Tryz.prog.bytesOf 41 = 136 := by kernel_rfl
    have hc7 : Tryz.prog.cellsOf 41 = 7 := by kernel_rfl
    rw [hc7] at hx
    have hs : m * 136 ≤ reachBytes := by
      have := hsz ((len + (m - len)) * 136) (by
        rw [hy1, DataW.weights, Tryz.underlying22]
        simp [hby])
      rwa [show len + (m - len) = m by omega] at this
    have each : ∀ i, i < len → ∃ x : EdA, (∀ j v, (ev x)[j]? = some v → W.cell? (a.add (i * 7 + j)) = some v) ∧ EdO W x := by
      intro i hi
      obtain ⟨cs', h1, h2⟩ := hx i (by omega)
      obtain ⟨_, hlen, hcell⟩ := World.cells?_some h1
      obtain ⟨x, rfl, hex⟩ := Tryz.is_edge h2 (fun q hq => hsz q (by
        rw [hy1, DataW.weights, Tryz.underlying22]
        refine List.mem_cons_of_mem _ (List.mem_append_left _ (mem_all (d := D i) ?_ q hq))
        exact List.mem_map_of_mem (List.mem_range.2 hi)))
      refine ⟨x, fun j v hv => ?_, hex⟩
      have hj : j < 7 := by have := (List.getElem?_eq_some_iff.1 hv).1; rwa [ev_len] at this
      have := hcell j hj
      rw [Go.Deep.add_add] at this
      rw [this, hv]
    obtain ⟨q, hq⟩ := Go.Deep.choose_lt each
    have hlq : ((List.range len).map q).length = len := by simp
    refine ⟨some a, m, (List.range len).map q, by rw [hlq], ?_, by rw [hlq]; exact hl, hs, ?_⟩
    · by_cases h0 : len = 0
      · left; rw [h0]; rfl
      · right
        obtain ⟨b, off, spot⟩ := a
        have h1 := (hq 0 (by omega)).1 0 _ rfl
        have hspot : spot = none := by simpa [Addr.add] using World.cell?_spot h1
        subst hspot
        refine ⟨b, off, rfl, by simpa [Addr.add] using World.block_lt_of_cell? _ _ h1, ?_⟩
        intro j i y v hy hi hv
        have hj : j < len := by have := (List.getElem?_eq_some_iff.1 hy).1; simpa using this
        have hyq : y = q j := by
          rw [List.getElem?_map, List.getElem?_range hj] at hy
          exact (Option.some.inj hy).symm
        subst hyq
        have := (hq j hj).1 i v hv
        rwa [add_plain] at this
    · intro x hx
      obtain ⟨i, hi, rfl⟩ := List.mem_map.1 hx
      exact (hq i (List.mem_range.1 hi)).2

theorem Tryz.is_pools {n : Nat} {c : Value} {y : DataW H × List MemPlace} (h : DataW.trod enc Tryz.prog W 0 (fun _ => true) true n 23 [c] = some y)
    (hsz : ∀ m ∈ DataW.weights Tryz.prog 23 y.1, m ≤ reachBytes) : ∃ (a : Option Addr) (cap : Nat) (ps : List Po), c = .slice a ps.length cap ∧ RowO W a ps ∧ ps.length ≤ cap ∧ cap * 24 ≤ reachBytes ∧ ∀ x ∈ ps, x.1.length ≤ maxLen := by
  rcases Go.Deep.open_slice_pairs Tryz.underlying23 Tryz.underlying59 (by kernel_rfl) rfl rfl (by kernel_rfl) (by kernel_rfl) h with ⟨hcs, _⟩ | ⟨a, len, cap, m, k, V0, V1, D0, D1, P0, P1, hcs, _, hl, hm, hmm, hy, hc⟩
  · simp at hcs
    subst hcs
    exact ⟨none, 0, [], rfl, Or.inl rfl, Nat.le_refl _, by decide, fun x hx => by cases hx⟩
  · simp at hcs
    subst hcs
    simp only [if_true] at hmm
    subst hmm
    have hby : Tryz.prog.bytesOf 59 = 24 := by kernel_rfl
    have hs : m * 24 ≤ reachBytes := by
      have := hsz ((len + (m - len)) * 24) (by
        rw [hy, DataW.weights, Tryz.underlying23]
        simp [hby])
      rwa [show len + (m - len) = m by omega] at this
    have each : ∀ i, i < m → ∃ q : Po, V0 i = .string ⟨q.1.toArray⟩ ∧ V1 i = .int .i64 q.2 ∧ q.1.length ≤ maxLen := by
      intro i hi
      obtain ⟨_, _, h3, h4⟩ := hc i hi
      obtain ⟨s0, e0, _, z0⟩ := DataW.trod_string Tryz.underlying9 h3
      obtain ⟨s1, e1, _, _⟩ := DataW.trod_int Tryz.underlying3 h4
      simp at e0 e1
      exact ⟨(bl s0, s1), by rw [e0, (of_bl rfl : s0 = ⟨(bl s0).toArray⟩).symm], e1, by rw [bl_size]; exact z0⟩
    obtain ⟨q, hq⟩ := Go.Deep.choose_lt each
    have hlq : ((List.range len).map q).length = len := by simp
    refine ⟨some a, m, (List.range len).map q, by rw [hlq], ?_, by rw [hlq]; exact hl, hs, ?_⟩
    · by_cases h0 : len = 0
      · left; rw [h0]; rfl
      · right
        obtain ⟨b, off, spot⟩ := a
        have h1 := (hc 0 (by omega)).1
        have hspot : spot = none := by simpa [Addr.add] using World.cell?_spot h1
        subst hspot
        refine ⟨b, off, rfl, by simpa [Addr.add] using World.block_lt_of_cell? _ _ h1, ?_⟩
        intro j i y v hy hi hv
        have hj : j < len := by have := (List.getElem?_eq_some_iff.1 hy).1; simpa using this
        have hyq : y = q j := by
          rw [List.getElem?_map, List.getElem?_range hj] at hy
          exact (Option.some.inj hy).symm
        subst hyq
        obtain ⟨e0, e1, _⟩ := hq j (by omega)
        obtain ⟨c0, c1, _, _⟩ := hc j (by omega)
        rw [add_plain] at c0 c1
        match i, hi with
        | 0, _ =>
          have : v = V0 j := by rw [e0]; simpa [pov] using hv.symm
          rw [this]; exact c0
        | 1, _ =>
          have : v = V1 j := by rw [e1]; simpa [pov] using hv.symm
          rw [this]; exact c1
    · intro b hb
      obtain ⟨i, hi, rfl⟩ := List.mem_map.1 hb
      have hi2 := List.mem_range.1 hi
      exact (hq i (by omega)).2.2

/-- A graph that came in. -/
structure IsGr (w : World) (g : Gh) (es : List EdA) (eo po dd : Option Addr) (ec pc dc : Nat) : Prop where
  r : GfR w g es eo po dd
  o : ∀ x ∈ es, EdO w x
  ec1 : es.length ≤ ec
  ec2 : ec * 136 ≤ reachBytes
  pc1 : g.2.1.length ≤ pc
  pc2 : pc * 24 ≤ reachBytes
  d : RowZ w (dd, dc) g.2.2
theorem EdO.z {w : World} {x : EdA} (h : EdO w x) : EdRd w x ∧ EdZ x.1 := ⟨⟨h.a.r, h.b.r, h.c.r, h.d.r⟩, ⟨h.a.z, h.b.z, h.c.z, h.d.z, h.k, h.p⟩⟩

set_option maxRecDepth 100000 in
theorem Tryz.is_graph {r : Reach} {b0 : Nat} {v : Value} {d : DataW H} {p : List MemPlace} (hv : Value.okWide Tryz.prog W r b0 26 v)
    (h : DataW.Trod enc Tryz.prog W 0 (fun _ => true) true 26 v d p)
    (hsz : ∀ m ∈ DataW.weights Tryz.prog 26 d, m ≤ reachBytes) :
    ∃ (g : Gh) (es : List EdA) (eo po dd : Option Addr) (ec pc dc : Nat), v = .agg #[.slice eo es.length ec, .slice po g.2.1.length pc, .slice dd g.2.2.length dc] ∧ IsGr W g es eo po dd ec pc dc := by
  obtain ⟨v0, v1, v2, y0, y1, y2, n, rfl, rfl, rfl, h0, h1, h2⟩ := Go.Joins.open_agg3 Tryz.underlying26 (by kernel_rfl) (by kernel_rfl) hv h
  have hw : ∀ (j : Nat) t e, (([22, 23, 24] : List TypeId))[j]? = some t → ([y0.1, y1.1, y2.1] : List (DataW H))[j]? = some e → ∀ m ∈ DataW.weights Tryz.prog t e, m ≤ reachBytes := by
    intro j t e ht hd m hm
    refine hsz m ?_
    rw [DataW.weights, Tryz.underlying26]
    exact DataW.weights_mem_each ht hd m hm
  obtain ⟨eo, ec, es, rfl, re, le1, le2, oe⟩ := Tryz.is_edges h0 (hw 0 _ _ rfl rfl)
  obtain ⟨po, pc, ps, rfl, rp, lp1, lp2, zp⟩ := Tryz.is_pools h1 (hw 1 _ _ rfl rfl)
  obtain ⟨dd, dl, dc, ds, rfl, rd⟩ := Tryz.is_rowT' h2 (hw 2 _ _ rfl rfl)
  have hrb : reachBytes ≤ 140737488355328 := by decide
  refine ⟨(es.map Prod.fst, ps, ds), es, eo, po, dd, ec, pc, dc, by rw [rd.1], ⟨⟨re, rfl, rp, rd.z.r, fun x hx => (oe x hx).z.1, ⟨fun e he => ?_, ?_, ?_, zp, rd.z.z⟩⟩, oe, le1, le2, lp1, lp2, rd.z⟩⟩
  · obtain ⟨x, hx, rfl⟩ := List.mem_map.1 he
    exact (oe x hx).z.2
  · show (es.map Prod.fst).length ≤ _; rw [List.length_map]; omega
  · show ps.length ≤ _; omega

end

end Go.Proofs.YtfadjppokbolhaaGreatDoor
