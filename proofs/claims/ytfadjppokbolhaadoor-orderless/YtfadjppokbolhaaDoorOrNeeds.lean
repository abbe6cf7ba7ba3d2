/- Which edges each edge needs, as package edges' Needs answers; are all told, as package order's all; the conditions: the edges lie in memory, at most 16 of them. -/
import Derived.Test.YtfadjppokbolhaaDoorOrTakes
import Derived.Test.YtfadjppokbolhaaDoorGfStep
import Derived.Deep.OwnRows
namespace Go.Proofs.YtfadjppokbolhaaDoor
open Go.RowKit

/-- Rows of numbers. -/
def iv (n : Nat) : List Value := [.int .i64 (n : Int)]
theorem iv_len (n : Nat) : (iv n).length = 1 := rfl
abbrev OwnI (w : World) (B : Nat) (ao : Option Addr) (cap : Nat) (xs : List Nat) : Prop := w.ownsRow B 3 1 (.slice ao xs.length cap) xs.length (lay iv xs)
abbrev RowI (w : World) (ao : Option Addr) (xs : List Nat) : Prop := RowG iv 1 w ao xs
theorem OwnI.row {w : World} {B : Nat} {ao : Option Addr} {cap : Nat} {xs : List Nat} (h : OwnI w B ao cap xs) : RowI w ao xs := RowG.own iv_len (by decide) h
theorem OwnI.snoc {w : World} {B cap : Nat} {ao : Option Addr} {xs : List Nat} {x : Nat} (h : w.ownsRow B 3 1 (.slice ao (xs.length + 1) cap) (xs.length + 1) (lay iv xs ++ [.int .i64 (x : Int)])) : OwnI w B ao cap (xs ++ [x]) := by
  show w.ownsRow B _ 1 (.slice ao (xs ++ [x]).length cap) (xs ++ [x]).length (lay iv (xs ++ [x]))
  rw [lay_snoc, List.length_append]
  exact h
def bvB (b : Bool) : List Value := [.bool b]
theorem bvB_len (b : Bool) : (bvB b).length = 1 := rfl
abbrev RowB (w : World) (ao : Option Addr) (xs : List Bool) : Prop := RowG bvB 1 w ao xs

/-- A row of rows of numbers. -/
abbrev NsA := List Nat × Pa
def vv (y : NsA) : Value := .slice y.2.1 y.1.length y.2.2
structure NdS (w : World) (B : Nat) (es : List Ed) (ns : List NsA) : Prop where
  m : ns.map Prod.fst = es.map (ndI es)
  b : Blk w B (ns.map vv).toArray 28
  r : ∀ y ∈ ns, RowI w y.2.1 y.1
theorem NdS.q {w w' : World} {B : Nat} {es : List Ed} {ns : List NsA} (h : NdS w B es ns) (q : Q w w') : NdS w' B es ns := ⟨h.m, h.b.q q, fun y hy => (h.r y hy).q q⟩
theorem NdS.at {w : World} {B : Nat} {es : List Ed} {ns : List NsA} (h : NdS w B es ns) {i : Nat} {e : Ed} (he : es[i]? = some e) : ∃ y, ns[i]? = some y ∧ y.1 = ndI es e ∧ RowI w y.2.1 y.1 ∧ w.cell? ⟨B, i, none⟩ = some (vv y) := by
  have h1 : (ns.map Prod.fst)[i]? = some (ndI es e) := by rw [h.m, List.getElem?_map, he]; rfl
  rw [List.getElem?_map] at h1
  cases hy : ns[i]? with
  | none => rw [hy] at h1; cases h1
  | some y =>
    rw [hy] at h1
    refine ⟨y, rfl, by simpa using h1, h.r y (List.mem_of_getElem? hy), h.b.cell i ?_⟩
    rw [List.getElem?_toArray, List.getElem?_map, hy]; rfl
theorem vv_set {ns : List NsA} {k : Nat} (y : NsA) : (ns.map vv).toArray.setIfInBounds k (vv y) = ((ns.set k y).map vv).toArray := by
  rw [List.map_set]; simp
theorem vv_set2 {ns : List NsA} {k : Nat} (y z : NsA) : ((ns.set k z).map vv).toArray.setIfInBounds k (vv y) = ((ns.set k y).map vv).toArray := by
  rw [vv_set, List.set_set]

set_option maxHeartbeats 2000000 in
theorem all_any (xs : List Nat) (t : List Bool) (ao bo : Option Addr) (cap cap2 : Nat) (w : World) (hr : RowI w ao xs) (hb : RowB w bo t) (hl : xs.length ≤ 4096) (hx : ∀ x ∈ xs, x < t.length) :
    Calls Tryd.prog 17 #[.slice ao xs.length cap, .slice bo t.length cap2] w fun e w' => e = .returned (.bool (xs.all (tB t))) ∧ w' = w := by
  have HX := hide hx
  clear hx
  go_enter Tryd.func17, Tryd.ntmps17
  go_wp2_with fail
  go_loop [9] (fun i => ∃ k : Nat, k ≤ xs.length ∧ i = .int .i64 k ∧ Hid ((xs.take k).all (tB t) = true)) (fun i => xs.length - (intOf i).toNat)
  case atStart => exact ⟨0, Nat.zero_le _, rfl, rfl⟩
  case round =>
    obtain ⟨k, hk, rfl, HA⟩ := hrel
    by_cases hlt : k < xs.length
    · rcases hr with he | ⟨g, o, rfl, hg, hcell⟩
      · rw [he] at hlt; simp at hlt
      obtain ⟨b, hbb⟩ : ∃ b, xs[k]? = some b := ⟨xs[k], List.getElem?_eq_getElem hlt⟩
      have c1 : w.cell? ⟨g, o + k, none⟩ = some (.int .i64 (b : Int)) := by have := hcell k 0 b _ hbb (by decide) rfl; simpa using this
      have hbt : b < t.length := unhide HX b (List.mem_of_getElem? hbb)
      rcases hb with he2 | ⟨g2, o2, rfl, hg2, hcell2⟩
      · rw [he2] at hbt; simp at hbt
      obtain ⟨z, hz⟩ : ∃ z, t[b]? = some z := ⟨t[b], List.getElem?_eq_getElem hbt⟩
      have c2 : w.cell? ⟨g2, o2 + b, none⟩ = some (.bool z) := by have := hcell2 b 0 z _ hz (by decide) rfl; simpa using this
      have HT := hide (all_succ (tB t) hbb)
      have HN := hide (fun h => all_no (p := tB t) hbb h)
      have HZ := hide (tB_get hz)
      clear hcell hcell2 hbb hz
      cases z
      · have HO : Hid (xs.all (tB t) = false) := unhide HN (unhide HZ)
        clear HT HN HZ HA
        go_wp2_with fail
        go_ret
        exact ⟨ret_bool HO.out.symm, rfl⟩
      · have HO : Hid ((xs.take (k + 1)).all (tB t) = true) := by
          show _ = _
          rw [unhide HT, HA.out, unhide HZ]; rfl
        clear HT HN HZ HA
        go_wp2_with fail
        go_round
        case rel => exact ⟨k + 1, by omega, by go_num, HO⟩
        case measure => simp [intOf]; omega
    · have HO : Hid (xs.all (tB t) = true) := by
        have := HA.out
        rwa [List.take_of_length_le (by omega)] at this
      clear HA
      go_wp2_with fail
      go_ret
      exact ⟨ret_bool HO.out.symm, rfl⟩

/-- What Needs holds when k edges are done. -/
structure NdK (w : World) (B : Nat) (es : List Ed) (k : Nat) (ns : List NsA) : Prop where
  n : ns.length = es.length
  b : Blk w B (ns.map vv).toArray 28
  r : ∀ y ∈ ns, OwnI w (B + 1) y.2.1 y.2.2 y.1
  lo : ∀ i e, i < k → es[i]? = some e → (ns[i]?).map Prod.fst = some (ndI es e)
  hi : ∀ i, k ≤ i → i < es.length → ns[i]? = some ([], none, 0)
theorem NdK.start {w : World} {B : Nat} {es : List Ed} (hb : Blk w B ((List.replicate es.length (Value.slice none 0 0)).toArray) 28) : NdK w B es 0 (List.replicate es.length ([], none, 0)) := by
  refine ⟨by simp, ?_, ?_, fun i e h => by omega, fun i _ h => by rw [List.getElem?_replicate, if_pos h]⟩
  · rw [List.map_replicate]; exact hb
  · intro y hy
    rw [List.eq_of_mem_replicate hy]
    exact World.ownsRow_nil _ _ _ _
theorem NdK.q {w w' : World} {B k : Nat} {es : List Ed} {ns : List NsA} (h : NdK w B es k ns) (q : Q w w') : NdK w' B es k ns := ⟨h.n, h.b.q q, fun y hy => own_q (h.r y hy) q, h.lo, h.hi⟩
theorem NdK.done {w : World} {B k : Nat} {es : List Ed} {ns : List NsA} (h : NdK w B es k ns) (hk : es.length ≤ k) : NdS w B es ns := by
  refine ⟨?_, h.b, fun y hy => (h.r y hy).row⟩
  refine List.ext_getElem? (fun i => ?_)
  rw [List.getElem?_map, List.getElem?_map]
  cases he : es[i]? with
  | none =>
    have : es.length ≤ i := List.getElem?_eq_none_iff.1 he
    rw [List.getElem?_eq_none (by rw [h.n]; exact this)]; rfl
  | some e =>
    have := (List.getElem?_eq_some_iff.1 he).1
    rw [h.lo i e (by omega) he]; rfl
theorem NdK.step {ws w : World} {B k : Nat} {es : List Ed} {ns : List NsA} {e : Ed} {y : NsA} (h : NdK ws B es k ns) (he : es[k]? = some e) (hb : But B ws w) (hB : B < ws.heap.size) (hbl : Blk w B ((ns.set k y).map vv).toArray 28) (hy : OwnI w ws.heap.size y.2.1 y.2.2 y.1) (hy2 : y.1 = ndI es e) : NdK w B es (k + 1) (ns.set k y) := by
  have hk : k < ns.length := by rw [h.n]; exact (List.getElem?_eq_some_iff.1 he).1
  refine ⟨by rw [List.length_set, h.n], hbl, ?_, ?_, ?_⟩
  · intro z hz
    rcases List.mem_or_eq_of_mem_set hz with h1 | h1
    · exact own_but (h.r z h1) hb (by omega)
    · rw [h1]; exact own_low hy (by omega)
  · intro i f hi hf
    rw [List.getElem?_set]
    by_cases hik : k = i
    · subst hik
      rw [if_pos rfl, if_pos hk]
      rw [he] at hf; cases hf
      simp [hy2]
    · rw [if_neg hik]; exact h.lo i f (by omega) hf
  · intro i hi hl
    rw [List.getElem?_set_ne (by omega)]
    exact h.hi i (by omega) hl

theorem Blk.but {w w' : World} {g k : Nat} {cs : Array Value} {t : TypeId} (h : Blk w g cs t) (hb : But k w w') (hn : g ≠ k) : Blk w' g cs t := (hb.block g h.hi hn).trans h
theorem vv_at {ns : List NsA} {k : Nat} {y : NsA} (hk : k < ns.length) : ((ns.set k y).map vv).toArray[k]? = some (vv y) := by
  rw [List.getElem?_toArray, List.getElem?_map, List.getElem?_set, if_pos rfl, if_pos hk]; rfl
theorem made_rep (z : Value) (n : Nat) : madeCells #[z] n = (List.replicate n z).toArray := by
  apply Array.ext
  · rw [size_madeCells]; simp
  · intro i h1 h2
    simp [madeCells, Nat.mod_one]

set_option maxRecDepth 20000 in
set_option maxHeartbeats 16000000 in
theorem needs_any (es : List EdA) (eo : Option Addr) (ec : Nat) (w : World) (he : RowG ev 7 w eo es) (hq0 : ∀ x ∈ es, EdRd w x ∧ EdZ x.1) (h16 : es.length ≤ 16) :
    Calls Tryd.prog 16 #[.slice eo es.length ec] w fun e w' => e = .returned (.slice (some ⟨w.heap.size, 0, none⟩) es.length es.length) ∧ Q w w' ∧ ∃ ns, NdS w' w.heap.size (es.map Prod.fst) ns := by
  obtain ⟨i0, hi, hz0, hz1, hz2⟩ : ∃ i0, Tryd.prog.info? 3 = some i0 ∧ i0.zero = some (.int .i64 0) ∧ i0.size = 1 ∧ i0.bytes = 8 := ⟨_, rfl, rfl, rfl, rfl⟩
  obtain ⟨i1, ji, jz0, jz1, jz2⟩ : ∃ i1, Tryd.prog.info? 28 = some i1 ∧ i1.zero = some (.slice none 0 0) ∧ i1.size = 1 ∧ i1.bytes = 24 := ⟨_, rfl, rfl, rfl, rfl⟩
  have HQ0 := hide hq0
  have HE := hide he
  clear hq0 he
  have hb1 : i1.bytes * es.length ≤ 281474976710656 := by rw [jz2]; omega
  have hb2 : es.length ≤ 9223372036854775807 := by omega
  go_enter Tryd.func16, Tryd.ntmps16
  go_wp2_with (refine wpList_make_row _ rfl _ _ 48 rfl 28 i1 (.slice none 0 0) Tryd.underlying48 ji jz0 jz1 rfl .i64 .i64 es.length rfl rfl hb1 hb2 ?_)
  rw [made_rep]
  have HN0 : Hid (NdK (w.alloc (.cells (List.replicate es.length (Value.slice none 0 0)).toArray 28)) w.heap.size (es.map Prod.fst) 0 (List.replicate es.length ([], none, 0))) := by
    have h := Blk.new w (List.replicate es.length (Value.slice none 0 0)).toArray 28
    have h2 := NdK.start (es := es.map Prod.fst) (by rw [List.length_map]; exact h)
    rwa [List.length_map] at h2
  have qw0 := (Q.refl w).alloc (.cells (List.replicate es.length (Value.slice none 0 0)).toArray 28)
  clear hb1 hb2 ji jz0 jz1 jz2
  go_wp2_with fail
  generalize w.alloc (.cells (List.replicate es.length (Value.slice none 0 0)).toArray 28) = w0 at *
  go_loopw [13] (fun i wr => ∃ (k : Nat) (ns : List NsA), k ≤ es.length ∧ i = .int .i64 k ∧ NdK wr w.heap.size (es.map Prod.fst) k ns ∧ Q w wr) (fun i _ => es.length - (intOf i).toNat)
  case atStart => exact ⟨0, _, Nat.zero_le _, rfl, unhide HN0, qw0⟩
  case round =>
    obtain ⟨k, ns, hk, rfl, hnd, hq⟩ := hrel
    by_cases hlt : k < es.length
    · rcases (unhide HE).q hq with he | ⟨g, o, rfl, hg, hcell⟩
      · rw [he] at hlt; simp at hlt
      · obtain ⟨b, hb⟩ : ∃ b, es[k]? = some b := ⟨es[k], List.getElem?_eq_getElem hlt⟩
        have c0 : wr.cell? ⟨g, o + k * 7, none⟩ = some (.slice b.2.1.1 b.1.1.length b.2.1.2) := hcell k 0 b _ hb (by decide) rfl
        have c1 : wr.cell? ⟨g, o + k * 7 + 1, none⟩ = some (.slice b.2.2.1.1 b.1.2.1.length b.2.2.1.2) := hcell k 1 b _ hb (by decide) rfl
        have c2 : wr.cell? ⟨g, o + k * 7 + 2, none⟩ = some (.slice b.2.2.2.1.1 b.1.2.2.1.length b.2.2.2.1.2) := hcell k 2 b _ hb (by decide) rfl
        have c3 : wr.cell? ⟨g, o + k * 7 + 3, none⟩ = some (.slice b.2.2.2.2.1 b.1.2.2.2.1.length b.2.2.2.2.2) := hcell k 3 b _ hb (by decide) rfl
        have c4 : wr.cell? ⟨g, o + k * 7 + 4, none⟩ = some (.string ⟨b.1.2.2.2.2.1.toArray⟩) := hcell k 4 b _ hb (by decide) rfl
        have c5 : wr.cell? ⟨g, o + k * 7 + 5, none⟩ = some (.bool b.1.2.2.2.2.2.1) := hcell k 5 b _ hb (by decide) rfl
        have c6 : wr.cell? ⟨g, o + k * 7 + 6, none⟩ = some (.string ⟨b.1.2.2.2.2.2.2.toArray⟩) := hcell k 6 b _ hb (by decide) rfl
        have HGK : Hid ((es.map Prod.fst)[k]? = some b.1) := by show _ = _; rw [List.getElem?_map, hb]; rfl
        have HXQ := hide ((unhide HQ0) b (List.mem_of_getElem? hb))
        have HBE := hide (Blk.new wr (ev b).toArray 38)
        have HND := hide (hnd.q ((Q.refl wr).alloc (.cells (ev b).toArray 38)))
        have hqs := hq.alloc (.cells (ev b).toArray 38)
        have hBlt : w.heap.size < wr.heap.size := hnd.b.hi
        clear hcell hb hnd
        go_wp2_with fail
        change Code.wp _ _ _ _ (wr.alloc (.cells (ev b).toArray 38))
        clear c0 c1 c2 c3 c4 c5 c6
        have hE : wr.heap.size < (wr.alloc (.cells (ev b).toArray 38)).heap.size := (unhide HBE).hi
        generalize wr.alloc (.cells (ev b).toArray 38) = ws at *
        generalize wr.heap.size = E at *
        clear hq
        have hnk := (unhide HND).hi k (Nat.le_refl _) (by rw [List.length_map]; exact hlt)
        have hnl : ns.length = es.length := by rw [(unhide HND).n, List.length_map]
        have HB0 : Hid (Blk ws w.heap.size ((ns.set k ([], none, 0)).map vv).toArray 28) := by
          have h := (unhide HND).b
          have : ns.set k ([], none, 0) = ns := by
            refine List.ext_getElem? (fun i => ?_)
            rw [List.getElem?_set]
            by_cases hik : k = i
            · subst hik; rw [if_pos rfl, hnk, if_pos (by rw [hnl]; exact hlt)]
            · rw [if_neg hik]
          rw [this]; exact h
        clear hnk
        go_loopw [20] (fun i wq => ∃ (j : Nat) (y : NsA), j ≤ es.length ∧ i = .int .i64 j ∧ y.1.length ≤ j ∧ Blk wq w.heap.size ((ns.set k y).map vv).toArray 28 ∧ OwnI wq ws.heap.size y.2.1 y.2.2 y.1 ∧ But w.heap.size ws wq ∧ Hid (y.1 = ndK (es.map Prod.fst) b.1 j)) (fun i _ => es.length - (intOf i).toNat)
        case atStart => exact ⟨0, ([], none, 0), Nat.zero_le _, rfl, Nat.zero_le _, unhide HB0, World.ownsRow_nil _ _ _ _, But.refl _ _, rfl⟩
        case round =>
          obtain ⟨j, y, hj, rfl, hyl, hbk, hown, hbut, HY⟩ := hrel
          have hq : Q w wr := Below.trans hqs (hbut.below (Nat.le_refl _) hqs.size)
          by_cases hltj : j < es.length
          · rcases (unhide HE).q hq with he | ⟨g', o', eb, hg', hcell⟩
            · rw [he] at hltj; simp at hltj
            · cases eb
              obtain ⟨m, hm⟩ : ∃ m, es[j]? = some m := ⟨es[j], List.getElem?_eq_getElem hltj⟩
              have c0 : wr.cell? ⟨g, o + j * 7, none⟩ = some (.slice m.2.1.1 m.1.1.length m.2.1.2) := hcell j 0 m _ hm (by decide) rfl
              have c1 : wr.cell? ⟨g, o + j * 7 + 1, none⟩ = some (.slice m.2.2.1.1 m.1.2.1.length m.2.2.1.2) := hcell j 1 m _ hm (by decide) rfl
              have c2 : wr.cell? ⟨g, o + j * 7 + 2, none⟩ = some (.slice m.2.2.2.1.1 m.1.2.2.1.length m.2.2.2.1.2) := hcell j 2 m _ hm (by decide) rfl
              have c3 : wr.cell? ⟨g, o + j * 7 + 3, none⟩ = some (.slice m.2.2.2.2.1 m.1.2.2.2.1.length m.2.2.2.2.2) := hcell j 3 m _ hm (by decide) rfl
              have c4 : wr.cell? ⟨g, o + j * 7 + 4, none⟩ = some (.string ⟨m.1.2.2.2.2.1.toArray⟩) := hcell j 4 m _ hm (by decide) rfl
              have c5 : wr.cell? ⟨g, o + j * 7 + 5, none⟩ = some (.bool m.1.2.2.2.2.2.1) := hcell j 5 m _ hm (by decide) rfl
              have c6 : wr.cell? ⟨g, o + j * 7 + 6, none⟩ = some (.string ⟨m.1.2.2.2.2.2.2.toArray⟩) := hcell j 6 m _ hm (by decide) rfl
              have HGJ := hide (ndK_succ b.1 (show (es.map Prod.fst)[j]? = some m.1 by rw [List.getElem?_map, hm]; rfl))
              have hmq := (unhide HQ0) m (List.mem_of_getElem? hm)
              have qa := (Q.refl wr).alloc (.cells (ev m).toArray 38)
              have HTK := hide (tak_any b m.1.1 m.2.1.1 m.2.1.2 _ ((unhide HXQ).1.q (hq.trans qa)) (unhide HXQ).2 (hmq.1.a.q (hq.trans qa)) hmq.2.a.n)
              have HBM := hide (Blk.new wr (ev m).toArray 38)
              have bE := (unhide HBE).but hbut (by omega)
              have d0 : ∀ ob, (wr.alloc ob).cell? ⟨E, 0, none⟩ = some (.slice b.2.1.1 b.1.1.length b.2.1.2) := fun ob => (bE.q ((Q.refl wr).alloc ob)).cell 0 rfl
              have d1 : ∀ ob, (wr.alloc ob).cell? ⟨E, 1, none⟩ = some (.slice b.2.2.1.1 b.1.2.1.length b.2.2.1.2) := fun ob => (bE.q ((Q.refl wr).alloc ob)).cell 1 rfl
              have d2 : ∀ ob, (wr.alloc ob).cell? ⟨E, 2, none⟩ = some (.slice b.2.2.2.1.1 b.1.2.2.1.length b.2.2.2.1.2) := fun ob => (bE.q ((Q.refl wr).alloc ob)).cell 2 rfl
              have d3 : ∀ ob, (wr.alloc ob).cell? ⟨E, 3, none⟩ = some (.slice b.2.2.2.2.1 b.1.2.2.2.1.length b.2.2.2.2.2) := fun ob => (bE.q ((Q.refl wr).alloc ob)).cell 3 rfl
              have d4 : ∀ ob, (wr.alloc ob).cell? ⟨E, 4, none⟩ = some (.string ⟨b.1.2.2.2.2.1.toArray⟩) := fun ob => (bE.q ((Q.refl wr).alloc ob)).cell 4 rfl
              have d5 : ∀ ob, (wr.alloc ob).cell? ⟨E, 5, none⟩ = some (.bool b.1.2.2.2.2.2.1) := fun ob => (bE.q ((Q.refl wr).alloc ob)).cell 5 rfl
              have d6 : ∀ ob, (wr.alloc ob).cell? ⟨E, 6, none⟩ = some (.string ⟨b.1.2.2.2.2.2.2.toArray⟩) := fun ob => (bE.q ((Q.refl wr).alloc ob)).cell 6 rfl
              have HBQ := hide (hbk.q qa)
              have HOQ := hide (own_q hown qa)
              have HBU := hide (hbut.q qa)
              have hqa := hq.trans qa
              have hwz := qa.size
              have hws : ws.heap.size ≤ wr.heap.size := hbut.size
              clear hcell hm hmq hbk hown bE hbut
              go_wp2_with fail
              change Calls _ _ _ (wr.alloc (.cells (ev m).toArray 38)) _
              generalize wr.alloc (.cells (ev m).toArray 38) = wa at *
              refine (unhide HTK).mono ?_
              rintro e w3 ⟨rfl, q3⟩
              clear d0 d1 d2 d3 d4 d5 d6 c0 c1 c2 c3 c4 c5 c6 HBM HTK
              cases htk : takB b.1 m.1
              · rw [show m.1.1.any (tkO b.1) = takB b.1 m.1 from rfl, htk]
                have HY2 : Hid (y.1 = ndK (es.map Prod.fst) b.1 (j + 1)) := by
                  show _ = _
                  rw [unhide HGJ, htk, HY.out]; rfl
                have HBR := hide ((unhide HBQ).q q3)
                have HOR := hide (own_q (unhide HOQ) q3)
                have HBV := hide ((unhide HBU).q q3)
                clear HY htk HGJ HBQ HOQ HBU
                go_wp2_with fail
                go_roundw
                case rel => exact ⟨j + 1, y, by omega, by go_num, by omega, unhide HBR, unhide HOR, unhide HBV, HY2⟩
                case measure => simp [intOf]; omega
              · rw [show m.1.1.any (tkO b.1) = takB b.1 m.1 from rfl, htk]
                have HY2 : Hid (y.1 ++ [j] = ndK (es.map Prod.fst) b.1 (j + 1)) := by
                  show _ = _
                  rw [unhide HGJ, htk, HY.out]; rfl
                have hBR := (unhide HBQ).q q3
                have hOR := own_q (unhide HOQ) q3
                have HBV := hide ((unhide HBU).q q3)
                have e0 : w3.cell? ⟨w.heap.size, k, none⟩ = some (.slice y.2.1 y.1.length y.2.2) := hBR.cell k (vv_at (by omega))
                have hw3 : ws.heap.size ≤ w3.heap.size := (unhide HBV).size
                have HBW := hide hBR
                have HOW := hide hOR
                clear HY htk HGJ HBQ HOQ HBU hBR
                go_wp2_with (at_builtin; refine wpList_append_lies _ rfl _ _ 28 rfl ws.heap.size 3 i0 (.int .i64 0) 1 8 Tryd.underlying28 hi hz0 hz1 hz2 rfl (by decide) _ _ _ rfl (hOR.alloc _) ⟨w3.heap.size, 0, none⟩ 1 1 [.int .i64 j] rfl rfl (news_at (by simp) #[.int .i64 j] _) (one_int _ _) (by decide) (by unfold maxLen; omega) (by omega) (le_alloc hw3 _) (w3.heap.size + 1) (by simp) ?_)
                intro g4 cp4 w4 own4 grow4 or4 lt4
                have hoA := hOR.alloc (.cells #[.int .i64 j] 3)
                have bk4 : Blk w4 w.heap.size ((ns.set k y).map vv).toArray 28 := ((unhide HBW).q ((Q.refl w3).alloc _)).fr (Fr.grown grow4) (fun e => by have := (hoA.lt _ e).1; omega)
                have bu4 : But w.heap.size ws w4 := ((unhide HBV).q ((Q.refl w3).alloc _)).grown grow4 (Nat.le_refl _) (fun r hr => (hoA.lt r hr).1)
                have ow4 : OwnI w4 ws.heap.size (some ⟨g4, 0, none⟩) cp4 (y.1 ++ [j]) := OwnI.snoc own4
                have e4 : w4.cell? ⟨w.heap.size, k, none⟩ = some (.slice y.2.1 y.1.length y.2.2) := bk4.cell k (vv_at (by omega))
                have f4 : w4.frozen? ⟨w.heap.size, k, none⟩ = false := bk4.frz k
                have HB5 : Hid (Blk (w4.setCell ⟨w.heap.size, k, none⟩ (.slice (some ⟨g4, 0, none⟩) (y.1.length + 1) cp4)) w.heap.size ((ns.set k (y.1 ++ [j], some ⟨g4, 0, none⟩, cp4)).map vv).toArray 28) := by
                  have h := bk4.set k (.slice (some ⟨g4, 0, none⟩) (y.1.length + 1) cp4)
                  rw [show (Value.slice (some ⟨g4, 0, none⟩) (y.1.length + 1) cp4) = vv (y.1 ++ [j], some ⟨g4, 0, none⟩, cp4) by unfold vv; simp, vv_set2] at h
                  rw [show (Value.slice (some ⟨g4, 0, none⟩) (y.1.length + 1) cp4) = vv (y.1 ++ [j], some ⟨g4, 0, none⟩, cp4) by unfold vv; simp]
                  exact h
                have HO5 := hide (own_fr ow4 (Fr.set w4 w.heap.size k (.slice (some ⟨g4, 0, none⟩) (y.1.length + 1) cp4)) (fun r hr => by have := (ow4.lt r hr).1; omega))
                have HV5 := hide (bu4.set k (.slice (some ⟨g4, 0, none⟩) (y.1.length + 1) cp4))
                clear own4 grow4 or4 lt4 hoA bk4 bu4 ow4 HOW HBW HBV hOR e0
                go_wp2
                go_roundw
                case rel =>
                  refine ⟨j + 1, (y.1 ++ [j], some ⟨g4, 0, none⟩, cp4), by omega, by go_num, ?_, unhide HB5, unhide HO5, unhide HV5, HY2⟩
                  simp; omega
                case measure => simp [intOf]; omega
          · have HN1 : Hid (NdK wr w.heap.size (es.map Prod.fst) (k + 1) (ns.set k y)) := by
              refine (unhide HND).step (unhide HGK) hbut (by omega) hbk hown ?_
              rw [HY.out, show j = (es.map Prod.fst).length by rw [List.length_map]; omega]
              rfl
            clear hbk hown HY
            go_wp2_with fail
            go_roundw
            case rel => exact ⟨k + 1, _, by omega, by go_num, unhide HN1, hq⟩
            case measure => simp [intOf]; omega
    · have HO := hide (hnd.done (by rw [List.length_map]; omega))
      clear hnd
      go_wp2_with fail
      go_ret
      exact ⟨rfl, hq, _, unhide HO⟩

end Go.Proofs.YtfadjppokbolhaaDoor
