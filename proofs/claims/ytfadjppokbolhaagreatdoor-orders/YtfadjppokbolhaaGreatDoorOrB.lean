/- Several texts of mine in one: OrTakes, OrNeeds, OrOf, OrAwake, OrRNeeds, OrRef. -/
import Derived.Test.YtfadjppokbolhaaGreatDoorGfCont
import Derived.Test.YtfadjppokbolhaaGreatDoorOrA
import Derived.Test.YtfadjppokbolhaaGreatDoorGfStep
import Derived.Deep.OwnRows
import Derived.Test.YtfadjppokbolhaaGreatDoorGfCheck
import Derived.Deep.LoopGhost
import Derived.Test.YtfadjppokbolhaaGreatDoorGfGiven
import Derived.Test.YtfadjppokbolhaaGreatDoorNmWalks
import Derived.Test.YtfadjppokbolhaaGreatDoorAfQuiet
import Derived.Test.YtfadjppokbolhaaGreatDoorGfRMo
import Derived.Test.YtfadjppokbolhaaGreatDoorGfRCheck
/- Does an edge take one of these, as package edges' takesOf answers; the conditions: the edge and the names lie in memory, no text is longer than a string can be. -/
namespace Go.Proofs.YtfadjppokbolhaaGreatDoor
open Go.RowKit

set_option maxHeartbeats 2000000 in
theorem tk1_any (x : EdA) (n : ByteArray) (g : Nat) (w : World) (hb : Blk w g (ev x).toArray 41) (hx : EdRd w x) (hz : EdZ x.1) :
    Calls Tryz.prog 33 #[.string n, .pointer (some ⟨g, 0, none⟩)] w fun e w' => e = .returned (.bool (tkO x.1 (bl n))) ∧ Q w w' := by
  have c1 : w.cell? ⟨g, 1, none⟩ = some (.slice x.2.2.1.1 x.1.2.1.length x.2.2.1.2) := hb.cell 1 rfl
  have c2 : w.cell? ⟨g, 2, none⟩ = some (.slice x.2.2.2.1.1 x.1.2.2.1.length x.2.2.2.1.2) := hb.cell 2 rfl
  have c3 : w.cell? ⟨g, 3, none⟩ = some (.slice x.2.2.2.2.1 x.1.2.2.2.1.length x.2.2.2.2.2) := hb.cell 3 rfl
  have S1 := hide (sxCo_any x.1.2.1 n x.2.2.1.1 x.2.2.1.2 w hx.b hz.b.n)
  have S2 := hide (sxCo_any x.1.2.2.1 n x.2.2.2.1.1 x.2.2.2.1.2 w hx.c hz.c.n)
  have S3 := hide (sxCo_any x.1.2.2.2.1 n x.2.2.2.2.1 x.2.2.2.2.2 w hx.d hz.d.n)
  have HT : Hid (tkO x.1 (bl n) = (x.1.2.1.contains (bl n) || (x.1.2.2.1.contains (bl n) || x.1.2.2.2.1.contains (bl n)))) := rfl
  clear hb hx hz
  cases h1 : x.1.2.1.contains (bl n)
  · cases h2 : x.1.2.2.1.contains (bl n)
    · rw [h1] at S1; rw [h2] at S2
      have HO : Hid (tkO x.1 (bl n) = x.1.2.2.2.1.contains (bl n)) := by show _ = _; rw [HT.out, h1, h2]; rfl
      clear HT h1 h2
      generalize x.1.2.2.2.1.contains (bl n) = z at *
      go_enter Tryz.func33, Tryz.ntmps33
      go_wp2_with fail
      refine (unhide S1).mono ?_
      rintro e w2 ⟨rfl, rfl⟩
      go_wp2_with fail
      refine (unhide S2).mono ?_
      rintro e w2 ⟨rfl, rfl⟩
      go_wp2_with fail
      refine (unhide S3).mono ?_
      rintro e w2 ⟨rfl, rfl⟩
      go_wp2_with fail
      go_ret
      exact ⟨ret_bool HO.out.symm, Q.refl _⟩
    · rw [h1] at S1; rw [h2] at S2
      have HO : Hid (tkO x.1 (bl n) = true) := by show _ = _; rw [HT.out, h1, h2]; rfl
      clear HT h1 h2 S3
      go_enter Tryz.func33, Tryz.ntmps33
      go_wp2_with fail
      refine (unhide S1).mono ?_
      rintro e w2 ⟨rfl, rfl⟩
      go_wp2_with fail
      refine (unhide S2).mono ?_
      rintro e w2 ⟨rfl, rfl⟩
      go_wp2_with fail
      go_ret
      exact ⟨ret_bool HO.out.symm, Q.refl _⟩
  · rw [h1] at S1
    have HO : Hid (tkO x.1 (bl n) = true) := by show _ = _; rw [HT.out, h1]; rfl
    clear HT h1 S2 S3
    go_enter Tryz.func33, Tryz.ntmps33
    go_wp2_with fail
    refine (unhide S1).mono ?_
    rintro e w2 ⟨rfl, rfl⟩
    go_wp2_with fail
    go_ret
    exact ⟨ret_bool HO.out.symm, Q.refl _⟩

set_option maxHeartbeats 2000000 in
theorem tk_ix (xs : List (Tx)) (pr : Tx → Bool) (ao : Option Addr) (cap : Nat) (p : Addr) (w : World) (hr : RowG tv 1 w ao xs) (hs : xs.length ≤ 140737488355328) (hcl : ∀ wr, Q w wr → ∀ b ∈ xs, Calls Tryz.prog 33 #[.string ⟨b.toArray⟩, .pointer (some p)] wr fun e w' => e = .returned (.bool (pr b)) ∧ Q wr w') :
    Calls Tryz.prog 48 #[.slice ao xs.length cap, .func (.func 33) #[] #[.pointer (some p)]] w fun e w' => e = .returned (.int .i64 (ixB pr xs)) ∧ Q w w' := by
  have HCL := hide hcl
  clear hcl
  go_enter Tryz.func48, Tryz.ntmps48
  go_wp2_with fail
  go_loopw [8] (fun i wr => ∃ k : Nat, k ≤ xs.length ∧ i = .int .i64 k ∧ Hid ((xs.take k).any pr = false) ∧ Q w wr) (fun i _ => xs.length - (intOf i).toNat)
  case atStart => exact ⟨0, Nat.zero_le _, rfl, rfl, Q.refl _⟩
  case round =>
    obtain ⟨k, hk, rfl, HA, hq⟩ := hrel
    by_cases hlt : k < xs.length
    · rcases hr.q hq with he | ⟨g, o, rfl, hg, hcell⟩
      · rw [he] at hlt; simp at hlt
      obtain ⟨b, hb⟩ : ∃ b, xs[k]? = some b := ⟨xs[k], List.getElem?_eq_getElem hlt⟩
      have c0 : wr.cell? ⟨g, o + k, none⟩ = some (.string ⟨b.toArray⟩) := by have := hcell k 0 b _ hb (by decide) rfl; simpa using this
      have hcon := hide (unhide HCL wr hq b (List.mem_of_getElem? hb))
      have HT := hide (anyt_succ pr hb)
      have HH := hide (fun h => ixB_at (p := pr) hb HA.out h)
      clear hcell hr hb
      cases hok : pr b
      · have HO : Hid ((xs.take (k + 1)).any pr = false) := by
          show _ = false
          rw [unhide HT, HA.out]; simpa using hok
        rw [hok] at hcon
        clear hok HT HH HA
        go_wp2_with (go_at_call 33; refine (unhide hcon).mono ?_; rintro e w2 ⟨rfl, q2⟩)
        go_roundw
        case rel => exact ⟨k + 1, by omega, by go_num, HO, hq.trans q2⟩
        case measure => simp [intOf]; omega
      · have HO : Hid (ixB pr xs = k) := unhide HH hok
        rw [hok] at hcon
        clear hok HT HH HA
        go_wp2_with (go_at_call 33; refine (unhide hcon).mono ?_; rintro e w2 ⟨rfl, q2⟩)
        go_ret
        exact ⟨ret_int HO.out.symm, hq.trans q2⟩
    · have HO : Hid (ixB pr xs = -1) := by
        show _ = _
        have := HA.out
        rw [List.take_of_length_le (by omega)] at this
        exact ixB_no this
      clear HA
      go_wp2_with fail
      go_ret
      exact ⟨ret_int HO.out.symm, hq⟩

set_option maxHeartbeats 1000000 in
theorem tk_cx (xs : List (Tx)) (pr : Tx → Bool) (ao : Option Addr) (cap : Nat) (p : Addr) (w : World) (hr : RowG tv 1 w ao xs) (hs : xs.length ≤ 140737488355328) (hcl : ∀ wr, Q w wr → ∀ b ∈ xs, Calls Tryz.prog 33 #[.string ⟨b.toArray⟩, .pointer (some p)] wr fun e w' => e = .returned (.bool (pr b)) ∧ Q wr w') :
    Calls Tryz.prog 32 #[.slice ao xs.length cap, .func (.func 33) #[] #[.pointer (some p)]] w fun e w' => e = .returned (.bool (xs.any pr)) ∧ Q w w' := by
  have hC := hide (tk_ix xs pr ao cap p w hr hs hcl)
  have HD : Hid (decide (0 ≤ ixB pr xs) = xs.any pr) := ixB_dec _ _
  generalize ixB pr xs = z at hC HD
  clear hcl
  go_enter Tryz.func32, Tryz.ntmps32
  go_wp2_with fail
  refine (unhide hC).mono ?_
  rintro e w2 ⟨rfl, q⟩
  go_wp2_with fail
  go_ret
  exact ⟨ret_bool (unhide HD), q⟩


set_option maxHeartbeats 1000000 in
theorem tak_any (x : EdA) (ms : Ws) (mo : Option Addr) (mc : Nat) (w : World) (hx : EdRd w x) (hz : EdZ x.1) (hm : RowT w mo ms) (hl : ms.length ≤ 140737488355328) :
    Calls Tryz.prog 24 #[edV' x, .slice mo ms.length mc] w fun e w' => e = .returned (.bool (ms.any (tkO x.1))) ∧ Q w w' := by
  have q0 : Q w (bx1' w x) := (Q.refl w).alloc _
  have hb : Blk (bx1' w x) w.heap.size (ev x).toArray 41 := Blk.new w _ _
  have HC := hide (tk_cx ms (tkO x.1) mo mc ⟨w.heap.size, 0, none⟩ (bx1' w x) (hm.q q0) hl (fun wr q b _ => by
    have := tk1_any x ⟨b.toArray⟩ w.heap.size wr (hb.q q) (hx.q (q0.trans q)) hz
    exact this))
  clear hm hx hz hb
  go_enter Tryz.func24, Tryz.ntmps24
  go_wp2_with fail
  refine (unhide HC).mono ?_
  rintro e w1 ⟨rfl, q1⟩
  go_wp2_with fail
  go_ret
  exact ⟨rfl, q0.trans q1⟩

end Go.Proofs.YtfadjppokbolhaaGreatDoor

/- Which edges each edge needs, as package edges' Needs answers; are all told, as package order's all; the conditions: the edges lie in memory, at most 16 of them. -/
namespace Go.Proofs.YtfadjppokbolhaaGreatDoor
open Go.RowKit

/-- Rows of numbers. -/
def iv (n : Nat) : List Value := [.int .i64 (n : Int)]
theorem iv_len (n : Nat) : (iv n).length = 1 := rfl
abbrev OwnI (w : World) (B : Nat) (ao : Option Addr) (cap : Nat) (xs : List Nat) : Prop := w.ownsRow B 3 1 (.slice ao xs.length cap) xs.length (lay iv xs)
abbrev RowI (w : World) (ao : Option Addr) (xs : List Nat) : Prop := RowG iv 1 w ao xs
theorem OwnI.row {w : World} {B : Nat} {ao : Option Addr} {cap : Nat} {xs : List Nat} (h : OwnI w B ao cap xs) : RowI w ao xs := RowG.own iv_len (by decide) h
theorem OwnI.snoc {w : World} {B cap : Nat} {ao : Option Addr} {xs : List Nat} {x : Nat} (h : w.ownsRow B 3 1 (.slice ao (xs.length + 1) cap) (xs.length + 1) (lay iv xs ++ [.int .i64 (x : Int)])) : OwnI w B ao cap (xs ++ [x]) := by
  show w.ownsRow B _ 1 (.slice ao (xs ++ [x]).length cap) (xs ++ [x]).length (lay iv (xs ++ [x]))
  rw [lay_snoc, List.length_append]
  exact h
def bvB (b : Bool) : List Value := [.bool b]
theorem bvB_len (b : Bool) : (bvB b).length = 1 := rfl
abbrev RowB (w : World) (ao : Option Addr) (xs : List Bool) : Prop := RowG bvB 1 w ao xs

/-- A row of rows of numbers. -/
abbrev NsA := List Nat × Pa
def vv (y : NsA) : Value := .slice y.2.1 y.1.length y.2.2
structure NdS (w : World) (B : Nat) (es : List Ed) (ns : List NsA) : Prop where
  m : ns.map Prod.fst = es.map (ndI es)
  b : Blk w B (ns.map vv).toArray 28
  r : ∀ y ∈ ns, RowI w y.2.1 y.1
theorem NdS.q {w w' : World} {B : Nat} {es : List Ed} {ns : List NsA} (h : NdS w B es ns) (q : Q w w') : NdS w' B es ns := ⟨h.m, h.b.q q, fun y hy => (h.r y hy).q q⟩
theorem NdS.at {w : World} {B : Nat} {es : List Ed} {ns : List NsA} (h : NdS w B es ns) {i : Nat} {e : Ed} (he : es[i]? = some e) : ∃ y, ns[i]? = some y ∧ y.1 = ndI es e ∧ RowI w y.2.1 y.1 ∧ w.cell? ⟨B, i, none⟩ = some (vv y) := by
  have h1 : (ns.map Prod.fst)[i]? = some (ndI es e) := by rw [h.m, List.getElem?_map, he]; rfl
  rw [List.getElem?_map] at h1
  cases hy : ns[i]? with
  | none => rw [hy] at h1; cases h1
  | some y =>
    rw [hy] at h1
    refine ⟨y, rfl, by simpa using h1, h.r y (List.mem_of_getElem? hy), h.b.cell i ?_⟩
    rw [List.getElem?_toArray, List.getElem?_map, hy]; rfl
theorem vv_set {ns : List NsA} {k : Nat} (y : NsA) : (ns.map vv).toArray.setIfInBounds k (vv y) = ((ns.set k y).map vv).toArray := by
  rw [List.map_set]; simp
theorem vv_set2 {ns : List NsA} {k : Nat} (y z : NsA) : ((ns.set k z).map vv).toArray.setIfInBounds k (vv y) = ((ns.set k y).map vv).toArray := by
  rw [vv_set, List.set_set]

set_option maxHeartbeats 2000000 in
theorem all_any (xs : List Nat) (t : List Bool) (ao bo : Option Addr) (cap cap2 : Nat) (w : World) (hr : RowI w ao xs) (hb : RowB w bo t) (hl : xs.length ≤ 4096) (hx : ∀ x ∈ xs, x < t.length) :
    Calls Tryz.prog 15 #[.slice ao xs.length cap, .slice bo t.length cap2] w fun e w' => e = .returned (.bool (xs.all (tB t))) ∧ w' = w := by
  have HX := hide hx
  clear hx
  go_enter Tryz.func15, Tryz.ntmps15
  go_wp2_with fail
  go_loop [9] (fun i => ∃ k : Nat, k ≤ xs.length ∧ i = .int .i64 k ∧ Hid ((xs.take k).all (tB t) = true)) (fun i => xs.length - (intOf i).toNat)
  case atStart => exact ⟨0, Nat.zero_le _, rfl, rfl⟩
  case round =>
    obtain ⟨k, hk, rfl, HA⟩ := hrel
    by_cases hlt : k < xs.length
    · rcases hr with he | ⟨g, o, rfl, hg, hcell⟩
      · rw [he] at hlt; simp at hlt
      obtain ⟨b, hbb⟩ : ∃ b, xs[k]? = some b := ⟨xs[k], List.getElem?_eq_getElem hlt⟩
      have c1 : w.cell? ⟨g, o + k, none⟩ = some (.int .i64 (b : Int)) := by have := hcell k 0 b _ hbb (by decide) rfl; simpa using this
      have hbt : b < t.length := unhide HX b (List.mem_of_getElem? hbb)
      rcases hb with he2 | ⟨g2, o2, rfl, hg2, hcell2⟩
      · rw [he2] at hbt; simp at hbt
      obtain ⟨z, hz⟩ : ∃ z, t[b]? = some z := ⟨t[b], List.getElem?_eq_getElem hbt⟩
      have c2 : w.cell? ⟨g2, o2 + b, none⟩ = some (.bool z) := by have := hcell2 b 0 z _ hz (by decide) rfl; simpa using this
      have HT := hide (all_succ (tB t) hbb)
      have HN := hide (fun h => all_no (p := tB t) hbb h)
      have HZ := hide (tB_get hz)
      clear hcell hcell2 hbb hz
      cases z
      · have HO : Hid (xs.all (tB t) = false) := unhide HN (unhide HZ)
        clear HT HN HZ HA
        go_wp2_with fail
        go_ret
        exact ⟨ret_bool HO.out.symm, rfl⟩
      · have HO : Hid ((xs.take (k + 1)).all (tB t) = true) := by
          show _ = _
          rw [unhide HT, HA.out, unhide HZ]; rfl
        clear HT HN HZ HA
        go_wp2_with fail
        go_round
        case rel => exact ⟨k + 1, by omega, by go_num, HO⟩
        case measure => simp [intOf]; omega
    · have HO : Hid (xs.all (tB t) = true) := by
        have := HA.out
        rwa [List.take_of_length_le (by omega)] at this
      clear HA
      go_wp2_with fail
      go_ret
      exact ⟨ret_bool HO.out.symm, rfl⟩

/-- What Needs holds when k edges are done. -/
structure NdK (w : World) (B : Nat) (es : List Ed) (k : Nat) (ns : List NsA) : Prop where
  n : ns.length = es.length
  b : Blk w B (ns.map vv).toArray 28
  r : ∀ y ∈ ns, OwnI w (B + 1) y.2.1 y.2.2 y.1
  lo : ∀ i e, i < k → es[i]? = some e → (ns[i]?).map Prod.fst = some (ndI es e)
  hi : ∀ i, k ≤ i → i < es.length → ns[i]? = some ([], none, 0)
theorem NdK.start {w : World} {B : Nat} {es : List Ed} (hb : Blk w B ((List.replicate es.length (Value.slice none 0 0)).toArray) 28) : NdK w B es 0 (List.replicate es.length ([], none, 0)) := by
  refine ⟨by simp, ?_, ?_, fun i e h => by omega, fun i _ h => by rw [List.getElem?_replicate, if_pos h]⟩
  · rw [List.map_replicate]; exact hb
  · intro y hy
    rw [List.eq_of_mem_replicate hy]
    exact World.ownsRow_nil _ _ _ _
theorem NdK.q {w w' : World} {B k : Nat} {es : List Ed} {ns : List NsA} (h : NdK w B es k ns) (q : Q w w') : NdK w' B es k ns := ⟨h.n, h.b.q q, fun y hy => own_q (h.r y hy) q, h.lo, h.hi⟩
theorem NdK.done {w : World} {B k : Nat} {es : List Ed} {ns : List NsA} (h : NdK w B es k ns) (hk : es.length ≤ k) : NdS w B es ns := by
  refine ⟨?_, h.b, fun y hy => (h.r y hy).row⟩
  refine List.ext_getElem? (fun i => ?_)
  rw [List.getElem?_map, List.getElem?_map]
  cases he : es[i]? with
  | none =>
    have : es.length ≤ i := List.getElem?_eq_none_iff.1 he
    rw [List.getElem?_eq_none (by rw [h.n]; exact this)]; rfl
  | some e =>
    have := (List.getElem?_eq_some_iff.1 he).1
    rw [h.lo i e (by omega) he]; rfl
theorem NdK.step {ws w : World} {B k : Nat} {es : List Ed} {ns : List NsA} {e : Ed} {y : NsA} (h : NdK ws B es k ns) (he : es[k]? = some e) (hb : But B ws w) (hB : B < ws.heap.size) (hbl : Blk w B ((ns.set k y).map vv).toArray 28) (hy : OwnI w ws.heap.size y.2.1 y.2.2 y.1) (hy2 : y.1 = ndI es e) : NdK w B es (k + 1) (ns.set k y) := by
  have hk : k < ns.length := by rw [h.n]; exact (List.getElem?_eq_some_iff.1 he).1
  refine ⟨by rw [List.length_set, h.n], hbl, ?_, ?_, ?_⟩
  · intro z hz
    rcases List.mem_or_eq_of_mem_set hz with h1 | h1
    · exact own_but (h.r z h1) hb (by omega)
    · rw [h1]; exact own_low hy (by omega)
  · intro i f hi hf
    rw [List.getElem?_set]
    by_cases hik : k = i
    · subst hik
      rw [if_pos rfl, if_pos hk]
      rw [he] at hf; cases hf
      simp [hy2]
    · rw [if_neg hik]; exact h.lo i f (by omega) hf
  · intro i hi hl
    rw [List.getElem?_set_ne (by omega)]
    exact h.hi i (by omega) hl

theorem Blk.but {w w' : World} {g k : Nat} {cs : Array Value} {t : TypeId} (h : Blk w g cs t) (hb : But k w w') (hn : g ≠ k) : Blk w' g cs t := (hb.block g h.hi hn).trans h
theorem vv_at {ns : List NsA} {k : Nat} {y : NsA} (hk : k < ns.length) : ((ns.set k y).map vv).toArray[k]? = some (vv y) := by
  rw [List.getElem?_toArray, List.getElem?_map, List.getElem?_set, if_pos rfl, if_pos hk]; rfl
theorem made_rep (z : Value) (n : Nat) : madeCells #[z] n = (List.replicate n z).toArray := by
  apply Array.ext
  · rw [size_madeCells]; simp
  · intro i h1 h2
    simp [madeCells, Nat.mod_one]

set_option maxRecDepth 20000 in
set_option maxHeartbeats 16000000 in
theorem needs_any (es : List EdA) (eo : Option Addr) (ec : Nat) (w : World) (he : RowG ev 7 w eo es) (hq0 : ∀ x ∈ es, EdRd w x ∧ EdZ x.1) (h16 : es.length ≤ 16) :
    Calls Tryz.prog 14 #[.slice eo es.length ec] w fun e w' => e = .returned (.slice (some ⟨w.heap.size, 0, none⟩) es.length es.length) ∧ Q w w' ∧ ∃ ns, NdS w' w.heap.size (es.map Prod.fst) ns := by
  obtain ⟨i0, hi, hz0, hz1, hz2⟩ : ∃ i0, Tryz.prog.info? 3 = some i0 ∧ i0.zero = some (.int .i64 0) ∧ i0.size = 1 ∧ i0.bytes = 8 := ⟨_, rfl, rfl, rfl, rfl⟩
  obtain ⟨i1, ji, jz0, jz1, jz2⟩ : ∃ i1, Tryz.prog.info? 28 = some i1 ∧ i1.zero = some (.slice none 0 0) ∧ i1.size = 1 ∧ i1.bytes = 24 := ⟨_, rfl, rfl, rfl, rfl⟩
  have HQ0 := hide hq0
  have HE := hide he
  clear hq0 he
  have hb1 : i1.bytes * es.length ≤ 281474976710656 := by rw [jz2]; omega
  have hb2 : es.length ≤ 9223372036854775807 := by omega
  go_enter Tryz.func14, Tryz.ntmps14
  go_wp2_with (refine wpList_make_row _ rfl _ _ 44 rfl 28 i1 (.slice none 0 0) Tryz.underlying44 ji jz0 jz1 rfl .i64 .i64 es.length rfl rfl hb1 hb2 ?_)
  rw [made_rep]
  have HN0 : Hid (NdK (w.alloc (.cells (List.replicate es.length (Value.slice none 0 0)).toArray 28)) w.heap.size (es.map Prod.fst) 0 (List.replicate es.length ([], none, 0))) := by
    have h := Blk.new w (List.replicate es.length (Value.slice none 0 0)).toArray 28
    have h2 := NdK.start (es := es.map Prod.fst) (by rw [List.length_map]; exact h)
    rwa [List.length_map] at h2
  have qw0 := (Q.refl w).alloc (.cells (List.replicate es.length (Value.slice none 0 0)).toArray 28)
  clear hb1 hb2 ji jz0 jz1 jz2
  go_wp2_with fail
  generalize w.alloc (.cells (List.replicate es.length (Value.slice none 0 0)).toArray 28) = w0 at *
  go_loopw [13] (fun i wr => ∃ (k : Nat) (ns : List NsA), k ≤ es.length ∧ i = .int .i64 k ∧ NdK wr w.heap.size (es.map Prod.fst) k ns ∧ Q w wr) (fun i _ => es.length - (intOf i).toNat)
  case atStart => exact ⟨0, _, Nat.zero_le _, rfl, unhide HN0, qw0⟩
  case round =>
    obtain ⟨k, ns, hk, rfl, hnd, hq⟩ := hrel
    by_cases hlt : k < es.length
    · rcases (unhide HE).q hq with he | ⟨g, o, rfl, hg, hcell⟩
      · rw [he] at hlt; simp at hlt
      · obtain ⟨b, hb⟩ : ∃ b, es[k]? = some b := ⟨es[k], List.getElem?_eq_getElem hlt⟩
        have c0 : wr.cell? ⟨g, o + k * 7, none⟩ = some (.slice b.2.1.1 b.1.1.length b.2.1.2) := hcell k 0 b _ hb (by decide) rfl
        have c1 : wr.cell? ⟨g, o + k * 7 + 1, none⟩ = some (.slice b.2.2.1.1 b.1.2.1.length b.2.2.1.2) := hcell k 1 b _ hb (by decide) rfl
        have c2 : wr.cell? ⟨g, o + k * 7 + 2, none⟩ = some (.slice b.2.2.2.1.1 b.1.2.2.1.length b.2.2.2.1.2) := hcell k 2 b _ hb (by decide) rfl
        have c3 : wr.cell? ⟨g, o + k * 7 + 3, none⟩ = some (.slice b.2.2.2.2.1 b.1.2.2.2.1.length b.2.2.2.2.2) := hcell k 3 b _ hb (by decide) rfl
        have c4 : wr.cell? ⟨g, o + k * 7 + 4, none⟩ = some (.string ⟨b.1.2.2.2.2.1.toArray⟩) := hcell k 4 b _ hb (by decide) rfl
        have c5 : wr.cell? ⟨g, o + k * 7 + 5, none⟩ = some (.bool b.1.2.2.2.2.2.1) := hcell k 5 b _ hb (by decide) rfl
        have c6 : wr.cell? ⟨g, o + k * 7 + 6, none⟩ = some (.string ⟨b.1.2.2.2.2.2.2.toArray⟩) := hcell k 6 b _ hb (by decide) rfl
        have HGK : Hid ((es.map Prod.fst)[k]? = some b.1) := by show _ = _; rw [List.getElem?_map, hb]; rfl
        have HXQ := hide ((unhide HQ0) b (List.mem_of_getElem? hb))
        have HBE := hide (Blk.new wr (ev b).toArray 41)
        have HND := hide (hnd.q ((Q.refl wr).alloc (.cells (ev b).toArray 41)))
        have hqs := hq.alloc (.cells (ev b).toArray 41)
        have hBlt : w.heap.size < wr.heap.size := hnd.b.hi
        clear hcell hb hnd
        go_wp2_with fail
        change Code.wp _ _ _ _ (wr.alloc (.cells (ev b).toArray 41))
        clear c0 c1 c2 c3 c4 c5 c6
        have hE : wr.heap.size < (wr.alloc (.cells (ev b).toArray 41)).heap.size := (unhide HBE).hi
        generalize wr.alloc (.cells (ev b).toArray 41) = ws at *
        generalize wr.heap.size = E at *
        clear hq
        have hnk := (unhide HND).hi k (Nat.le_refl _) (by rw [List.length_map]; exact hlt)
        have hnl : ns.length = es.length := by rw [(unhide HND).n, List.length_map]
        have HB0 : Hid (Blk ws w.heap.size ((ns.set k ([], none, 0)).map vv).toArray 28) := by
          have h := (unhide HND).b
          have : ns.set k ([], none, 0) = ns := by
            refine List.ext_getElem? (fun i => ?_)
            rw [List.getElem?_set]
            by_cases hik : k = i
            · subst hik; rw [if_pos rfl, hnk, if_pos (by rw [hnl]; exact hlt)]
            · rw [if_neg hik]
          rw [this]; exact h
        clear hnk
        go_loopw [20] (fun i wq => ∃ (j : Nat) (y : NsA), j ≤ es.length ∧ i = .int .i64 j ∧ y.1.length ≤ j ∧ Blk wq w.heap.size ((ns.set k y).map vv).toArray 28 ∧ OwnI wq ws.heap.size y.2.1 y.2.2 y.1 ∧ But w.heap.size ws wq ∧ Hid (y.1 = ndK (es.map Prod.fst) b.1 j)) (fun i _ => es.length - (intOf i).toNat)
        case atStart => exact ⟨0, ([], none, 0), Nat.zero_le _, rfl, Nat.zero_le _, unhide HB0, World.ownsRow_nil _ _ _ _, But.refl _ _, rfl⟩
        case round =>
          obtain ⟨j, y, hj, rfl, hyl, hbk, hown, hbut, HY⟩ := hrel
          have hq : Q w wr := Below.trans hqs (hbut.below (Nat.le_refl _) hqs.size)
          by_cases hltj : j < es.length
          · rcases (unhide HE).q hq with he | ⟨g', o', eb, hg', hcell⟩
            · rw [he] at hltj; simp at hltj
            · cases eb
              obtain ⟨m, hm⟩ : ∃ m, es[j]? = some m := ⟨es[j], List.getElem?_eq_getElem hltj⟩
              have c0 : wr.cell? ⟨g, o + j * 7, none⟩ = some (.slice m.2.1.1 m.1.1.length m.2.1.2) := hcell j 0 m _ hm (by decide) rfl
              have c1 : wr.cell? ⟨g, o + j * 7 + 1, none⟩ = some (.slice m.2.2.1.1 m.1.2.1.length m.2.2.1.2) := hcell j 1 m _ hm (by decide) rfl
              have c2 : wr.cell? ⟨g, o + j * 7 + 2, none⟩ = some (.slice m.2.2.2.1.1 m.1.2.2.1.length m.2.2.2.1.2) := hcell j 2 m _ hm (by decide) rfl
              have c3 : wr.cell? ⟨g, o + j * 7 + 3, none⟩ = some (.slice m.2.2.2.2.1 m.1.2.2.2.1.length m.2.2.2.2.2) := hcell j 3 m _ hm (by decide) rfl
              have c4 : wr.cell? ⟨g, o + j * 7 + 4, none⟩ = some (.string ⟨m.1.2.2.2.2.1.toArray⟩) := hcell j 4 m _ hm (by decide) rfl
              have c5 : wr.cell? ⟨g, o + j * 7 + 5, none⟩ = some (.bool m.1.2.2.2.2.2.1) := hcell j 5 m _ hm (by decide) rfl
              have c6 : wr.cell? ⟨g, o + j * 7 + 6, none⟩ = some (.string ⟨m.1.2.2.2.2.2.2.toArray⟩) := hcell j 6 m _ hm (by decide) rfl
              have HGJ := hide (ndK_succ b.1 (show (es.map Prod.fst)[j]? = some m.1 by rw [List.getElem?_map, hm]; rfl))
              have hmq := (unhide HQ0) m (List.mem_of_getElem? hm)
              have qa := (Q.refl wr).alloc (.cells (ev m).toArray 41)
              have HTK := hide (tak_any b m.1.1 m.2.1.1 m.2.1.2 _ ((unhide HXQ).1.q (hq.trans qa)) (unhide HXQ).2 (hmq.1.a.q (hq.trans qa)) hmq.2.a.n)
              have HBM := hide (Blk.new wr (ev m).toArray 41)
              have bE := (unhide HBE).but hbut (by omega)
              have d0 : ∀ ob, (wr.alloc ob).cell? ⟨E, 0, none⟩ = some (.slice b.2.1.1 b.1.1.length b.2.1.2) := fun ob => (bE.q ((Q.refl wr).alloc ob)).cell 0 rfl
              have d1 : ∀ ob, (wr.alloc ob).cell? ⟨E, 1, none⟩ = some (.slice b.2.2.1.1 b.1.2.1.length b.2.2.1.2) := fun ob => (bE.q ((Q.refl wr).alloc ob)).cell 1 rfl
              have d2 : ∀ ob, (wr.alloc ob).cell? ⟨E, 2, none⟩ = some (.slice b.2.2.2.1.1 b.1.2.2.1.length b.2.2.2.1.2) := fun ob => (bE.q ((Q.refl wr).alloc ob)).cell 2 rfl
              have d3 : ∀ ob, (wr.alloc ob).cell? ⟨E, 3, none⟩ = some (.slice b.2.2.2.2.1 b.1.2.2.2.1.length b.2.2.2.2.2) := fun ob => (bE.q ((Q.refl wr).alloc ob)).cell 3 rfl
              have d4 : ∀ ob, (wr.alloc ob).cell? ⟨E, 4, none⟩ = some (.string ⟨b.1.2.2.2.2.1.toArray⟩) := fun ob => (bE.q ((Q.refl wr).alloc ob)).cell 4 rfl
              have d5 : ∀ ob, (wr.alloc ob).cell? ⟨E, 5, none⟩ = some (.bool b.1.2.2.2.2.2.1) := fun ob => (bE.q ((Q.refl wr).alloc ob)).cell 5 rfl
              have d6 : ∀ ob, (wr.alloc ob).cell? ⟨E, 6, none⟩ = some (.string ⟨b.1.2.2.2.2.2.2.toArray⟩) := fun ob => (bE.q ((Q.refl wr).alloc ob)).cell 6 rfl
              have HBQ := hide (hbk.q qa)
              have HOQ := hide (own_q hown qa)
              have HBU := hide (hbut.q qa)
              have hqa := hq.trans qa
              have hwz := qa.size
              have hws : ws.heap.size ≤ wr.heap.size := hbut.size
              clear hcell hm hmq hbk hown bE hbut
              go_wp2_with fail
              change Calls _ _ _ (wr.alloc (.cells (ev m).toArray 41)) _
              generalize wr.alloc (.cells (ev m).toArray 41) = wa at *
              refine (unhide HTK).mono ?_
              rintro e w3 ⟨rfl, q3⟩
              clear d0 d1 d2 d3 d4 d5 d6 c0 c1 c2 c3 c4 c5 c6 HBM HTK
              cases htk : takB b.1 m.1
              · rw [show m.1.1.any (tkO b.1) = takB b.1 m.1 from rfl, htk]
                have HY2 : Hid (y.1 = ndK (es.map Prod.fst) b.1 (j + 1)) := by
                  show _ = _
                  rw [unhide HGJ, htk, HY.out]; rfl
                have HBR := hide ((unhide HBQ).q q3)
                have HOR := hide (own_q (unhide HOQ) q3)
                have HBV := hide ((unhide HBU).q q3)
                clear HY htk HGJ HBQ HOQ HBU
                go_wp2_with fail
                go_roundw
                case rel => exact ⟨j + 1, y, by omega, by go_num, by omega, unhide HBR, unhide HOR, unhide HBV, HY2⟩
                case measure => simp [intOf]; omega
              · rw [show m.1.1.any (tkO b.1) = takB b.1 m.1 from rfl, htk]
                have HY2 : Hid (y.1 ++ [j] = ndK (es.map Prod.fst) b.1 (j + 1)) := by
                  show _ = _
                  rw [unhide HGJ, htk, HY.out]; rfl
                have hBR := (unhide HBQ).q q3
                have hOR := own_q (unhide HOQ) q3
                have HBV := hide ((unhide HBU).q q3)
                have e0 : w3.cell? ⟨w.heap.size, k, none⟩ = some (.slice y.2.1 y.1.length y.2.2) := hBR.cell k (vv_at (by omega))
                have hw3 : ws.heap.size ≤ w3.heap.size := (unhide HBV).size
                have HBW := hide hBR
                have HOW := hide hOR
                clear HY htk HGJ HBQ HOQ HBU hBR
                go_wp2_with (at_builtin; refine wpList_append_lies _ rfl _ _ 28 rfl ws.heap.size 3 i0 (.int .i64 0) 1 8 Tryz.underlying28 hi hz0 hz1 hz2 rfl (by decide) _ _ _ rfl (hOR.alloc _) ⟨w3.heap.size, 0, none⟩ 1 1 [.int .i64 j] rfl rfl (news_at (by simp) #[.int .i64 j] _) (one_int _ _) (by decide) (by unfold maxLen; omega) (by omega) (le_alloc hw3 _) (w3.heap.size + 1) (by simp) ?_)
                intro g4 cp4 w4 own4 grow4 or4 lt4
                have hoA := hOR.alloc (.cells #[.int .i64 j] 3)
                have bk4 : Blk w4 w.heap.size ((ns.set k y).map vv).toArray 28 := ((unhide HBW).q ((Q.refl w3).alloc _)).fr (Fr.grown grow4) (fun e => by have := (hoA.lt _ e).1; omega)
                have bu4 : But w.heap.size ws w4 := ((unhide HBV).q ((Q.refl w3).alloc _)).grown grow4 (Nat.le_refl _) (fun r hr => (hoA.lt r hr).1)
                have ow4 : OwnI w4 ws.heap.size (some ⟨g4, 0, none⟩) cp4 (y.1 ++ [j]) := OwnI.snoc own4
                have e4 : w4.cell? ⟨w.heap.size, k, none⟩ = some (.slice y.2.1 y.1.length y.2.2) := bk4.cell k (vv_at (by omega))
                have f4 : w4.frozen? ⟨w.heap.size, k, none⟩ = false := bk4.frz k
                have HB5 : Hid (Blk (w4.setCell ⟨w.heap.size, k, none⟩ (.slice (some ⟨g4, 0, none⟩) (y.1.length + 1) cp4)) w.heap.size ((ns.set k (y.1 ++ [j], some ⟨g4, 0, none⟩, cp4)).map vv).toArray 28) := by
                  have h := bk4.set k (.slice (some ⟨g4, 0, none⟩) (y.1.length + 1) cp4)
                  rw [show (Value.slice (some ⟨g4, 0, none⟩) (y.1.length + 1) cp4) = vv (y.1 ++ [j], some ⟨g4, 0, none⟩, cp4) by unfold vv; simp, vv_set2] at h
                  rw [show (Value.slice (some ⟨g4, 0, none⟩) (y.1.length + 1) cp4) = vv (y.1 ++ [j], some ⟨g4, 0, none⟩, cp4) by unfold vv; simp]
                  exact h
                have HO5 := hide (own_fr ow4 (Fr.set w4 w.heap.size k (.slice (some ⟨g4, 0, none⟩) (y.1.length + 1) cp4)) (fun r hr => by have := (ow4.lt r hr).1; omega))
                have HV5 := hide (bu4.set k (.slice (some ⟨g4, 0, none⟩) (y.1.length + 1) cp4))
                clear own4 grow4 or4 lt4 hoA bk4 bu4 ow4 HOW HBW HBV hOR e0
                go_wp2
                go_roundw
                case rel =>
                  refine ⟨j + 1, (y.1 ++ [j], some ⟨g4, 0, none⟩, cp4), by omega, by go_num, ?_, unhide HB5, unhide HO5, unhide HV5, HY2⟩
                  simp; omega
                case measure => simp [intOf]; omega
          · have HN1 : Hid (NdK wr w.heap.size (es.map Prod.fst) (k + 1) (ns.set k y)) := by
              refine (unhide HND).step (unhide HGK) hbut (by omega) hbk hown ?_
              rw [HY.out, show j = (es.map Prod.fst).length by rw [List.length_map]; omega]
              rfl
            clear hbk hown HY
            go_wp2_with fail
            go_roundw
            case rel => exact ⟨k + 1, _, by omega, by go_num, unhide HN1, hq⟩
            case measure => simp [intOf]; omega
    · have HO := hide (hnd.done (by rw [List.length_map]; omega))
      clear hnd
      go_wp2_with fail
      go_ret
      exact ⟨rfl, hq, _, unhide HO⟩

end Go.Proofs.YtfadjppokbolhaaGreatDoor

/- In which order the edges of a graph come, as package order's Of answers; the conditions: the graph lies in memory, no text is longer than a string can be. -/
namespace Go.Proofs.YtfadjppokbolhaaGreatDoor
open Go.RowKit

theorem tv_bset {t : List Bool} {k : Nat} : (t.map Value.bool).toArray.setIfInBounds k (.bool true) = ((t.set k true).map Value.bool).toArray := by
  rw [List.map_set]; simp
theorem bv_row {w : World} {T : Nat} {t : List Bool} (h : Blk w T (t.map Value.bool).toArray 4) : RowB w (some ⟨T, 0, none⟩) t := by
  have e : t.map Value.bool = lay bvB t := by
    clear h
    induction t with
    | nil => rfl
    | cons a r ih => rw [List.map_cons, ih]; rfl
  exact rowB bvB_len h t (by rw [e])
theorem bv_at {w : World} {T : Nat} {t : List Bool} (h : Blk w T (t.map Value.bool).toArray 4) {k : Nat} {b : Bool} (hb : t[k]? = some b) : w.cell? ⟨T, k, none⟩ = some (.bool b) := by
  refine h.cell k ?_
  rw [List.getElem?_toArray, List.getElem?_map, hb]; rfl
theorem run_full {es : List Ed} {t : List Bool} {r : List Nat} : run es 0 t r = some r := rfl

set_option maxRecDepth 20000 in
set_option maxHeartbeats 16000000 in
theorem orOf_any (g : Gh) (es : List EdA) (eo po dd : Option Addr) (ec pc dc : Nat) (w : World) (hg : GfR w g es eo po dd) (hc : g.2.1.length ≤ pc) (hcap : pc ≤ maxLen) :
    Calls Tryz.prog 5 #[.agg #[.slice eo es.length ec, .slice po g.2.1.length pc, .slice dd g.2.2.length dc]] w fun e w' => ∃ ao cap, e = .returned (.tuple #[.slice ao (orL g).length cap, .int .i64 (orE g)]) ∧ OwnI w' w.heap.size ao cap (orL g) ∧ Q w w' := by
  obtain ⟨i0, hi, hz0, hz1, hz2⟩ : ∃ i0, Tryz.prog.info? 3 = some i0 ∧ i0.zero = some (.int .i64 0) ∧ i0.size = 1 ∧ i0.bytes = 8 := ⟨_, rfl, rfl, rfl, rfl⟩
  obtain ⟨i1, ji, jz0, jz1, jz2⟩ : ∃ i1, Tryz.prog.info? 4 = some i1 ∧ i1.zero = some (.bool false) ∧ i1.size = 1 ∧ i1.bytes = 1 := ⟨_, rfl, rfl, rfl, rfl⟩
  have S1 := hide (fun w2 (q : Q w w2) => gCk_any g es eo po dd ec pc dc w2 (hg.q' q) hc hcap)
  have qb := grB_q w es g eo po dd ec pc dc
  have HB1 := hide (grB_blk w es g eo po dd ec pc dc)
  by_cases h0 : ckE g ≠ 0
  · have h1 : (ckE g != 0) = true := by simpa using h0
    have HO := hide (orE_form h0)
    clear h0 hg hc hcap
    generalize ckE g = ck at *
    go_enter Tryz.func5, Tryz.ntmps5
    go_wp2_with fail
    go_step3
    go_wp2_with fail
    change Calls _ _ _ (grB w es g eo po dd ec pc dc) _
    refine (unhide S1 _ qb).mono ?_
    rintro e w1 ⟨rfl, q1⟩
    go_wp2_with fail
    try rw [Exit.noGoto_ret]
    go_ret2
    refine ⟨none, 0, ?_, ?_, qb.trans q1⟩
    · rw [HO.out.1, HO.out.2]; rfl
    · rw [HO.out.2]; exact World.ownsRow_nil _ _ _ _
  · have h0' : ckE g = 0 := by simpa using h0
    have hm : gmB g = true := by
      cases hm : gmB g with
      | true => rfl
      | false => rw [ck_form hm] at h0'; cases h0'
    have hf := gm_facts hm
    have h16 : es.length ≤ 16 := by rw [hg.len]; exact hf.1
    have HLN := hide hg.len
    rw [h0'] at S1
    have S2 := hide (fun w2 (q : Q w w2) => needs_any es eo ec w2 (hg.e.q q) (fun x hx => ⟨(hg.q x hx).q q, hg.ez hx⟩) h16)
    rw [hg.em] at S2
    have HO : Hid (∀ r, ordO g.1 = some r → orE g = 0 ∧ orL g = r) := by
      show ∀ r, _
      intro r hr
      unfold orE orL
      rw [if_pos h0', if_pos h0', hr]; exact ⟨rfl, rfl⟩
    have HC : Hid (ordO g.1 = none → orE g = 1001 ∧ orL g = []) := fun hr => orE_cyc h0' hr
    clear hg hc hcap hm hf h0 h0'
    go_enter Tryz.func5, Tryz.ntmps5
    go_wp2_with fail
    go_step3
    go_wp2_with fail
    change Calls _ _ _ (grB w es g eo po dd ec pc dc) _
    generalize grB w es g eo po dd ec pc dc = wb at *
    generalize hX : w.heap.size = X at HB1 ⊢
    have hXs : X ≤ wb.heap.size := by rw [← hX]; exact qb.size
    refine (unhide S1 _ qb).mono ?_
    rintro e w1 ⟨rfl, q1⟩
    have c1 : w1.cell? ⟨X, 0, none⟩ = some (.slice eo es.length ec) := ((unhide HB1).q q1).cell 0 rfl
    have qw1 := qb.trans q1
    clear S1
    go_wp2_with fail
    refine (unhide S2 _ qw1).mono ?_
    rintro e w2 ⟨rfl, q2, ns, hns⟩
    have qw2 := qw1.trans q2
    have hwT : w.heap.size ≤ w2.heap.size := qw2.size
    have HNS := hide hns
    have hnl : ns.length = es.length := by
      have h := congrArg List.length hns.m
      rwa [List.length_map, List.length_map, ← unhide HLN] at h
    have hB2 : w1.heap.size < w2.heap.size := hns.b.hi
    have hX1 : X ≤ w1.heap.size := Nat.le_trans hXs q1.size
    clear c1 S2 hns q1 q2 HB1 qb hX
    have hb1 : i1.bytes * es.length ≤ 281474976710656 := by rw [jz2]; omega
    have hb2 : es.length ≤ 9223372036854775807 := by omega
    go_wp2_with (refine wpList_make_row _ rfl _ _ 46 rfl 4 i1 (.bool false) Tryz.underlying46 ji jz0 jz1 rfl .i64 .i64 es.length rfl rfl hb1 hb2 ?_)
    rw [made_rep]
    clear hb1 hb2 ji jz0 jz1 jz2
    have HT0 : Hid (Blk (w2.alloc (.cells (List.replicate es.length (Value.bool false)).toArray 4)) w2.heap.size ((fls es.length).map Value.bool).toArray 4) := by
      have h := Blk.new w2 (List.replicate es.length (Value.bool false)).toArray 4
      unfold fls
      rw [List.map_replicate]
      exact h
    have qa := (Q.refl w2).alloc (.cells (List.replicate es.length (Value.bool false)).toArray 4)
    have hTs : w2.heap.size < (w2.alloc (.cells (List.replicate es.length (Value.bool false)).toArray 4)).heap.size := (unhide HT0).hi
    have hT3 : (w2.alloc (.cells (List.replicate es.length (Value.bool false)).toArray 4)).heap.size ≤ w2.heap.size + 1 := Nat.le_of_eq (size_alloc _ _)
    generalize w2.alloc (.cells (List.replicate es.length (Value.bool false)).toArray 4) = w3 at *
    have HR0 : Hid (run g.1 (es.length - ([] : List Nat).length) (fls es.length) [] = ordO g.1) := by
      show _ = _
      unfold ordO
      rw [unhide HLN]; rfl
    go_wp2_with fail
    go_step3
    go_wp2_with fail
    generalize hT : w2.heap.size = T at *
    go_loopg [6] es.length (fun gk s wr => ∃ (t : List Bool) (r : List Nat) (ao : Option Addr) (cap : Nat), r.length + gk = es.length ∧ s = .slice ao r.length cap ∧ t.length = es.length ∧ Blk wr T (t.map Value.bool).toArray 4 ∧ OwnI wr (T + 1) ao cap r ∧ But T w3 wr ∧ Hid (run g.1 (es.length - r.length) t r = ordO g.1))
    case atStart => exact ⟨fls es.length, [], none, 0, by simp, rfl, by simp [fls], unhide HT0, World.ownsRow_nil _ _ _ _, But.refl _ _, unhide HR0⟩
    case round =>
      obtain ⟨t, r, ao, cap, hrl, rfl, htl, hbk, hown, hbut, HR⟩ := hrel
      have hq3 : Q w2 wr := Below.trans qa (hbut.below (by omega) qa.size)
      have hq : Q w wr := qw2.trans hq3
      cases gk with
      | zero =>
        have HR2 : Hid (orE g = 0 ∧ orL g = r) := by
          refine (unhide HO) r ?_
          rw [← HR.out, show es.length - r.length = 0 by omega]; rfl
        have hrl2 : r.length = es.length := by omega
        have HO2 := hide (own_low hown (show w.heap.size ≤ T + 1 by omega))
        clear hbk hown hbut HR hrl
        go_wp2_with fail
        try rw [Exit.noGoto_ret]
        go_ret2
        refine ⟨ao, cap, ?_, ?_, hq⟩
        · rw [HR2.out.1, HR2.out.2]; rfl
        · rw [HR2.out.2]; exact unhide HO2
      | succ go =>
        have hlt : r.length < es.length := by omega
        have HBK := hide hbk
        have HOW := hide hown
        have HBU := hide hbut
        clear hbk hown hbut
        go_wp2_with fail
        rename World => wo
        go_loopg [6, 24] es.length (fun g2 s6 s wq => ∃ k : Nat, k + g2 = es.length ∧ s6 = .slice ao r.length cap ∧ s = .int .i64 k ∧ wq = wo ∧ Hid (∀ j < k, okB g.1 t j = false))
        case atStart => exact ⟨0, by omega, rfl, rfl, rfl, fun j hj => by omega⟩
        case round =>
          obtain ⟨k, hkg, rfl, rfl, rfl, HK⟩ := hrel
          cases gk with
          | zero =>
            have HN : Hid (orE g = 1001 ∧ orL g = []) := by
              refine (unhide HC) ?_
              rw [← HR.out, show es.length - r.length = (es.length - r.length - 1) + 1 by omega]
              exact run_none (nxt_none (fun j hj => HK.out j (by have := unhide HLN; omega)))
            clear HR
            go_wp2_with fail
            try rw [Exit.noGoto_ret]
            go_ret2
            refine ⟨none, 0, ?_, ?_, hq⟩
            · rw [HN.out.1, HN.out.2]; rfl
            · rw [HN.out.2]; exact World.ownsRow_nil _ _ _ _
          | succ gi =>
            have hk : k < es.length := by omega
            obtain ⟨ed, hed⟩ : ∃ ed, g.1[k]? = some ed := ⟨_, List.getElem?_eq_getElem (by have := unhide HLN; omega)⟩
            obtain ⟨y, hy, hyn, hyr, hyc⟩ := ((unhide HNS).q hq3).at hed
            have HOK := hide (okB_at (t := t) hed)
            have HYL : Hid (∀ x ∈ y.1, x < t.length) := by
              show ∀ x ∈ y.1, _
              intro x hx
              rw [hyn] at hx
              obtain ⟨m, hm, _⟩ := mem_ndI.1 hx
              have := (List.getElem?_eq_some_iff.1 hm).1
              have := unhide HLN; omega
            have hyl : y.1.length ≤ 4096 := by
              have := ndK_len g.1 ed g.1.length
              have h2 : y.1.length ≤ g.1.length := by rw [hyn]; exact this
              have := unhide HLN; omega
            obtain ⟨b, hb⟩ : ∃ b, t[k]? = some b := ⟨_, List.getElem?_eq_getElem (by omega)⟩
            have c1 : wr.cell? ⟨T, k, none⟩ = some (.bool b) := bv_at (unhide HBK) hb
            have c2 : wr.cell? ⟨w1.heap.size, k, none⟩ = some (.slice y.2.1 y.1.length y.2.2) := hyc
            have HTB := hide (tB_get hb)
            have HAL := hide (all_any y.1 t y.2.1 (some ⟨T, 0, none⟩) y.2.2 es.length wr hyr (bv_row (unhide HBK)) hyl (unhide HYL))
            rw [htl] at HAL
            have HYN := hide hyn
            clear hed hy hyn hyr hyc hb HYL
            cases b
            · cases hal : y.1.all (tB t)
              · rw [hal] at HAL
                have HK2 : Hid (∀ j < k + 1, okB g.1 t j = false) := by
                  show ∀ j < k + 1, _
                  intro j hj
                  rcases Nat.lt_or_ge j k with h | h
                  · exact HK.out j h
                  · obtain rfl : j = k := by omega
                    rw [unhide HOK, ← unhide HYN, hal]; simp
                clear HK HOK HYN hal HTB
                go_wp2_with (go_at_call 15; refine (unhide HAL).mono ?_; rintro e w5 ⟨rfl, rfl⟩)
                go_roundg gi
                case rel => exact ⟨k + 1, by omega, rfl, by go_num, rfl, HK2⟩
                case measure => exact Nat.lt_succ_self _
              · rw [hal] at HAL
                have HNX : Hid (nxt g.1 t = some k) := by
                  refine nxt_some (by have := unhide HLN; omega) ?_ (fun j hj => HK.out j hj)
                  rw [unhide HOK, ← unhide HYN, hal, unhide HTB]; rfl
                clear HK HOK HYN hal HTB
                have f1 : wr.frozen? ⟨T, k, none⟩ = false := (unhide HBK).frz k
                have HB5 : Hid (Blk (wr.setCell ⟨T, k, none⟩ (.bool true)) T ((t.set k true).map Value.bool).toArray 4) := by
                  have h := (unhide HBK).set k (.bool true)
                  rw [tv_bset] at h
                  exact h
                have HO5 := hide (own_fr (unhide HOW) (Fr.set wr T k (.bool true)) (fun r hr => by have := ((unhide HOW).lt r hr).1; omega))
                have HV5 := hide ((unhide HBU).set k (.bool true))
                have HR6 : Hid (run g.1 (es.length - (r ++ [k]).length) (t.set k true) (r ++ [k]) = ordO g.1) := by
                  show _ = _
                  rw [← HR.out, show es.length - r.length = (es.length - (r ++ [k]).length) + 1 by simp; omega, run_some HNX.out]
                have hTw : T + 1 ≤ (wr.setCell ⟨T, k, none⟩ (.bool true)).heap.size := by have := (unhide HB5).hi; omega
                clear HR HNX HBK HOW HBU
                go_upto_region 12 with (go_at_call 15; refine (unhide HAL).mono ?_; rintro e w5 ⟨rfl, rfl⟩)
                go_wp2_with (at_builtin; refine wpList_append_lies _ rfl _ _ 28 rfl (T + 1) 3 i0 (.int .i64 0) 1 8 Tryz.underlying28 hi hz0 hz1 hz2 rfl (by decide) _ _ _ rfl ((unhide HO5).alloc _) ⟨w5.heap.size, 0, none⟩ 1 1 [.int .i64 k] rfl rfl (news_at (by simp) #[.int .i64 k] _) (one_int _ _) (by decide) (by unfold maxLen; omega) (by omega) (le_alloc hTw _) (w5.heap.size + 1) (by simp) ?_)
                intro g7 cp7 w7 own7 grow7 or7 lt7
                have hoA := (unhide HO5).alloc (.cells #[.int .i64 k] 3)
                have bk7 : Blk w7 T ((t.set k true).map Value.bool).toArray 4 := ((unhide HB5).q ((Q.refl _).alloc _)).fr (Fr.grown grow7) (fun e => by have := (hoA.lt _ e).1; omega)
                have bu7 : But T w3 w7 := ((unhide HV5).q ((Q.refl _).alloc _)).grown grow7 hT3 (fun r hr => by have := (hoA.lt r hr).1; omega)
                have ow7 : OwnI w7 (T + 1) (some ⟨g7, 0, none⟩) cp7 (r ++ [k]) := OwnI.snoc own7
                clear own7 grow7 or7 lt7 hoA HB5 HO5 HV5
                go_wp2
                go_roundg go
                case rel =>
                  refine ⟨t.set k true, r ++ [k], some ⟨g7, 0, none⟩, cp7, ?_, ?_, ?_, bk7, ow7, bu7, HR6⟩
                  · simp; omega
                  · simp
                  · simp; omega
                case measure => exact Nat.lt_succ_self _
            · have HK2 : Hid (∀ j < k + 1, okB g.1 t j = false) := by
                show ∀ j < k + 1, _
                intro j hj
                rcases Nat.lt_or_ge j k with h | h
                · exact HK.out j h
                · obtain rfl : j = k := by omega
                  rw [unhide HOK, unhide HTB]; simp
              clear HK HOK HYN HTB HAL
              go_wp2_with fail
              go_roundg gi
              case rel => exact ⟨k + 1, by omega, rfl, by go_num, rfl, HK2⟩
              case measure => exact Nat.lt_succ_self _

end Go.Proofs.YtfadjppokbolhaaGreatDoor

/- The graphs that every statement on orders asks of first; two rows of numbers are held against each other; no conditions. -/
namespace Go.Proofs.YtfadjppokbolhaaGreatDoor
open Go.RowKit

theorem take_eq_succ {α : Type} {xs ys : List α} {k : Nat} {x y : α} (hx : xs[k]? = some x) (hy : ys[k]? = some y) (h : xs.take k = ys.take k) (he : x = y) : xs.take (k + 1) = ys.take (k + 1) := by
  rw [List.take_add_one, List.take_add_one, hx, hy, h, he]
theorem take_ne {α : Type} {xs ys : List α} {k : Nat} {x y : α} (hx : xs[k]? = some x) (hy : ys[k]? = some y) (he : x ≠ y) : ¬ xs = ys := fun h => by
  rw [h, hy] at hx; exact he (Option.some.inj hx).symm

set_option maxHeartbeats 4000000 in
theorem sameI_any (xs ys : List Nat) (ao bo : Option Addr) (ac bc : Nat) (w : World) (hx : RowI w ao xs) (hy : RowI w bo ys) (hl : xs.length ≤ 4096) :
    Calls Tryz.prog 7 #[.slice ao xs.length ac, .slice bo ys.length bc] w fun e w' => e = .returned (.bool (decide (xs = ys))) ∧ Q w w' := by
  by_cases hn : xs.length = ys.length
  case neg =>
    have HO : Hid (decide (xs = ys) = false) := decide_eq_false (fun h => hn (by rw [h]))
    have hb : ((xs.length : Int) != (ys.length : Int)) = true := by simp; omega
    clear hn hx hy
    go_enter Tryz.func7, Tryz.ntmps7
    go_wp2_with fail
    go_ret
    exact ⟨ret_bool HO.out.symm, Q.refl _⟩
  case pos =>
    have hb : ((xs.length : Int) != (ys.length : Int)) = false := by simp; omega
    have HN := hide hn
    have HX := hide hx
    have HY := hide hy
    clear hn hx hy
    go_enter Tryz.func7, Tryz.ntmps7
    go_wp2_with fail
    go_loopw [5] (fun i wr => ∃ k : Nat, k ≤ xs.length ∧ i = .int .i64 k ∧ Hid (xs.take k = ys.take k) ∧ Q w wr) (fun i _ => xs.length - (intOf i).toNat)
    case atStart => exact ⟨0, Nat.zero_le _, rfl, rfl, Q.refl _⟩
    case round =>
      obtain ⟨k, hk, rfl, HA, hq⟩ := hrel
      by_cases hlt : k < xs.length
      · have hlt2 : k < ys.length := by have := HN.out; omega
        rcases (unhide HX).q hq with he | ⟨g, o, rfl, hg, hcell⟩
        · rw [he] at hlt; simp at hlt
        rcases (unhide HY).q hq with he | ⟨g2, o2, rfl, hg2, hcell2⟩
        · rw [he] at hlt2; simp at hlt2
        obtain ⟨a, ha⟩ : ∃ a, xs[k]? = some a := ⟨_, List.getElem?_eq_getElem hlt⟩
        obtain ⟨b, hbb⟩ : ∃ b, ys[k]? = some b := ⟨_, List.getElem?_eq_getElem hlt2⟩
        have ca : wr.cell? ⟨g, o + k, none⟩ = some (.int .i64 (a : Int)) := by have := hcell k 0 a _ ha (by decide) rfl; simpa using this
        have cb : wr.cell? ⟨g2, o2 + k, none⟩ = some (.int .i64 (b : Int)) := by have := hcell2 k 0 b _ hbb (by decide) rfl; simpa using this
        have hqq : ∀ n, Q w (wr.drewN n) := fun n => hq.drewN n
        have k1 : (k : Int) < (xs.length : Int) := by omega
        have k2 : (k : Int) < (ys.length : Int) := by omega
        have HT := hide (fun h => take_eq_succ ha hbb HA.out h)
        have HF := hide (fun h => take_ne ha hbb h)
        clear hcell hcell2 ha hbb
        by_cases hab : a = b
        · have HO : Hid (xs.take (k + 1) = ys.take (k + 1)) := unhide HT hab
          have hab2 : ((a : Int) != (b : Int)) = false := by simp; omega
          clear HT HF hab HA
          go_wp2_with fail
          go_quiet (fail)
          go_wp2_with fail
          go_roundw
          case rel => exact ⟨k + 1, by omega, by go_num, HO, hqq _⟩
          case measure => simp [intOf]; omega
        · have HO : Hid (decide (xs = ys) = false) := decide_eq_false (unhide HF hab)
          have hab2 : ((a : Int) != (b : Int)) = true := by simp; omega
          clear HT HF hab HA
          go_wp2_with fail
          go_quiet (fail)
          go_wp2_with fail
          go_ret
          exact ⟨ret_bool HO.out.symm, hqq _⟩
      · have HO : Hid (decide (xs = ys) = true) := by
          refine decide_eq_true ?_
          have h := HA.out
          rw [List.take_of_length_le (by omega), List.take_of_length_le (by have := HN.out; omega)] at h
          exact h
        clear HA
        go_wp2_with fail
        go_ret
        exact ⟨ret_bool HO.out.symm, hq⟩

/-- Any graph in memory, what Of answers of it. -/
def OSays (w : World) (v : Value) (g : Gh) : Prop :=
  ∀ w2, Q w w2 → Calls Tryz.prog 5 #[v] w2 fun e w' => ∃ ao cap, e = .returned (.tuple #[.slice ao (orL g).length cap, .int .i64 (orE g)]) ∧ OwnI w' w2.heap.size ao cap (orL g) ∧ Q w2 w'
theorem GfR.osays {w : World} {g : Gh} {es : List EdA} {eo po dd : Option Addr} (h : GfR w g es eo po dd) (ec pc dc : Nat) (hc : g.2.1.length ≤ pc) (hm : pc ≤ maxLen) : OSays w (.agg #[.slice eo es.length ec, .slice po g.2.1.length pc, .slice dd g.2.2.length dc]) g :=
  fun w2 q => orOf_any g es eo po dd ec pc dc w2 (h.q' q) hc hm
theorem OSays.at {w : World} {v : Value} {g : Gh} {n : Int} {r : List Nat} (h : OSays w v g) (h1 : orE g = n) (h2 : orL g = r) : ∀ w2, Q w w2 → Calls Tryz.prog 5 #[v] w2 fun e w' => ∃ ao cap, e = .returned (.tuple #[.slice ao r.length cap, .int .i64 n]) ∧ OwnI w' w2.heap.size ao cap r ∧ Q w2 w' := by
  have := h
  unfold OSays at this
  rwa [h1, h2] at this

abbrev gvV' (n : Nat) : Value := .agg #[.slice (at0 (n + 9)) 3 3, .slice (at0 (n + 10)) 1 1, .slice (at0 (n + 11)) 1 1]
def oaD : Ed := ([sAo, sAd], [sAc], [sAh], [sLib], [99, 99, 32, 97], true, sTwo)
def obD : Ed := ([sAo, sAd], [sAc], [sAh], [sLib], [], true, sTwo)
def oaG : Gh := ([gvD0, oaD, gvD2], [(sTwo, 2)], [sLib])
def obG : Gh := ([gvD0, obD, gvD2], [(sTwo, 2)], [sLib])
def oaX (n m : Nat) : EdA := (oaD, (at0 (n + 3), 2), (at0 (n + 4), 1), (at0 (n + 5), 1), (at0 m, 1))
def obX (n m : Nat) : EdA := (obD, (at0 (n + 3), 2), (at0 (n + 4), 1), (at0 (n + 5), 1), (at0 m, 1))
def oaC (n m : Nat) : Array Value := (gvEc n).setIfInBounds 10 (.slice (at0 m) 1 1)
theorem gv_osays {w : World} {n : Nat} (h : Gv w n (gvEc n) gvPc) : OSays w (gvV' n) gvG := h.gr.osays 3 1 1 (Nat.le_refl 1) (by decide)
theorem oa_osays {w : World} {n m : Nat} (h : Gv w n (oaC n m) gvPc) (hm : Blk w m #[.string ⟨sLib.toArray⟩] 9) : OSays w (gvV' n) oaG :=
  (gr_three (x0 := gvX0 n) (x1 := oaX n m) (x2 := gvX2 n) [(sTwo, 2)] h.e rfl h.p rfl h.dd h.x0 ⟨h.x1.a, h.x1.b, h.x1.c, tvR hm _ rfl⟩ h.x2 (ghz_of (show ghzB oaG = true by decide +kernel))).osays 3 1 1 (Nat.le_refl 1) (by decide)
theorem ob_osays {w : World} {n m : Nat} (h : Gv w n ((oaC n m).setIfInBounds 11 (.string ⟨#[]⟩)) gvPc) (hm : Blk w m #[.string ⟨sLib.toArray⟩] 9) : OSays w (gvV' n) obG :=
  (gr_three (x0 := gvX0 n) (x1 := obX n m) (x2 := gvX2 n) [(sTwo, 2)] h.e rfl h.p rfl h.dd h.x0 ⟨h.x1.a, h.x1.b, h.x1.c, tvR hm _ rfl⟩ h.x2 (ghz_of (show ghzB obG = true by decide +kernel))).osays 3 1 1 (Nat.le_refl 1) (by decide)
theorem or_gv : orE gvG = 0 ∧ orL gvG = [1, 2, 0] := by decide +kernel
theorem or_oa : orE oaG = 1001 ∧ orL oaG = [] := by decide +kernel
theorem or_ob : orE obG = 1000 ∧ orL obG = [] := by decide +kernel

def wOa (w : World) (n : Nat) : World := ((w.alloc (.cells #[.slice (at0 (n + 9)) 3 3, .slice (at0 (n + 10)) 1 1, .slice (at0 (n + 11)) 1 1] 26)).alloc (.cells #[.string ⟨#[108, 105, 98]⟩] 9)).setCell ⟨n + 9, 10, none⟩ (.slice (at0 (w.heap.size + 1)) 1 1)
theorem wOa_facts {w4 w : World} (q : Q w4 w) (h : Gv w w4.heap.size (gvEc w4.heap.size) gvPc) :
    Gv (wOa w w4.heap.size) w4.heap.size (oaC w4.heap.size (w.heap.size + 1)) gvPc ∧ Blk (wOa w w4.heap.size) (w.heap.size + 1) #[.string ⟨sLib.toArray⟩] 9 ∧ Blk (wOa w w4.heap.size) w.heap.size #[.slice (at0 (w4.heap.size + 9)) 3 3, .slice (at0 (w4.heap.size + 10)) 1 1, .slice (at0 (w4.heap.size + 11)) 1 1] 26 ∧ Q w4 (wOa w w4.heap.size) := by
  have hh := h.hi
  have h1 := (h.q ((Q.refl w).alloc (.cells #[.slice (at0 (w4.heap.size + 9)) 3 3, .slice (at0 (w4.heap.size + 10)) 1 1, .slice (at0 (w4.heap.size + 11)) 1 1] 26))).q ((Q.refl _).alloc (.cells #[.string ⟨#[108, 105, 98]⟩] 9))
  have hb := (Blk.new w #[.slice (at0 (w4.heap.size + 9)) 3 3, .slice (at0 (w4.heap.size + 10)) 1 1, .slice (at0 (w4.heap.size + 11)) 1 1] 26).q ((Q.refl _).alloc (.cells #[.string ⟨#[108, 105, 98]⟩] 9))
  have hl := Blk.new (w.alloc (.cells #[.slice (at0 (w4.heap.size + 9)) 3 3, .slice (at0 (w4.heap.size + 10)) 1 1, .slice (at0 (w4.heap.size + 11)) 1 1] 26)) #[.string ⟨#[108, 105, 98]⟩] 9
  rw [size_alloc] at hl
  exact ⟨h1.setE 10 _, hl.other (by omega) _ _, hb.other (by omega) _ _, ((q.alloc _).alloc _).setHi (by omega) _ _⟩
theorem wOb_facts {w4 w : World} {m b : Nat} (q : Q w4 w) (h : Gv w w4.heap.size (oaC w4.heap.size m) gvPc) (hm : Blk w m #[.string ⟨sLib.toArray⟩] 9) (hb : Blk w b #[.slice (at0 (w4.heap.size + 9)) 3 3, .slice (at0 (w4.heap.size + 10)) 1 1, .slice (at0 (w4.heap.size + 11)) 1 1] 26) :
    OSays (w.setCell ⟨w4.heap.size + 9, 11, none⟩ (.string ⟨#[]⟩)) (gvV' w4.heap.size) obG ∧ Blk (w.setCell ⟨w4.heap.size + 9, 11, none⟩ (.string ⟨#[]⟩)) b #[.slice (at0 (w4.heap.size + 9)) 3 3, .slice (at0 (w4.heap.size + 10)) 1 1, .slice (at0 (w4.heap.size + 11)) 1 1] 26 ∧ Q w4 (w.setCell ⟨w4.heap.size + 9, 11, none⟩ (.string ⟨#[]⟩)) :=
  ⟨ob_osays (h.setE 11 _) (hm.other (Blk.ne hm h.e (by decide)) _ _), hb.other (Blk.ne hb h.e (by decide)) _ _, q.setHi (by omega) _ _⟩

set_option maxRecDepth 20000 in
set_option maxHeartbeats 8000000 in
theorem oawake_any (w : World) :
    Calls Tryz.prog 11 #[] w fun e w' => e = .returned (.bool true) ∧ Q w w' := by
  go_enter Tryz.func11, Tryz.ntmps11
  go_wp2_with fail
  refine (given_any w).mono ?_
  rintro e w1 ⟨rfl, v1, q1⟩
  have H1 := hide ((gv_osays v1).at or_gv.1 or_gv.2 w1 (Q.refl _))
  clear v1
  go_wp2_with fail
  refine (unhide H1).mono ?_
  rintro e w2 ⟨ao, cap, rfl, own2, q2⟩
  have qw2 := q1.trans q2
  have HR := hide own2.row
  clear H1 q1 q2 own2
  go_wp2_with fail
  refine (given_any w2).mono ?_
  rintro e w3 ⟨rfl, v3, q3⟩
  have HF := hide (wOa_facts q3 v3)
  have f3 : ∀ o1 o2, ((w3.alloc o1).alloc o2).frozen? ⟨w2.heap.size + 9, 10, none⟩ = false := fun o1 o2 => (v3.e.q (((Q.refl _).alloc o1).alloc o2)).frz 10
  have d3 : ∀ o1 o2, ((w3.alloc o1).alloc o2).cell? ⟨w2.heap.size + 9, 10, none⟩ = some (.slice none 0 0) := fun o1 o2 => (v3.e.q (((Q.refl _).alloc o1).alloc o2)).cell 10 rfl
  clear v3 q3
  go_wp2_with fail
  change Calls _ _ _ (wOa w3 w2.heap.size) _
  obtain ⟨sb, lb, bb, qb⟩ := unhide HF
  have HSB := hide sb
  have HLB := hide lb
  have HBB := hide bb
  have H4 := hide ((oa_osays sb lb).at or_oa.1 or_oa.2 _ (Q.refl _))
  clear HF f3 d3 sb lb bb
  generalize wOa w3 w2.heap.size = w4 at *
  generalize w3.heap.size = b3 at *
  refine (unhide H4).mono ?_
  rintro e w5 ⟨ao5, cap5, rfl, _, q5⟩
  have qw5 := qb.trans q5
  have HF5 := hide (wOb_facts qw5 ((unhide HSB).q q5) ((unhide HLB).q q5) ((unhide HBB).q q5))
  have b0 : w5.cell? ⟨b3, 0, none⟩ = some (.slice (at0 (w2.heap.size + 9)) 3 3) := ((unhide HBB).q q5).cell 0 rfl
  have f5 : w5.frozen? ⟨w2.heap.size + 9, 11, none⟩ = false := ((unhide HSB).q q5).e.frz 11
  have d5 : w5.cell? ⟨w2.heap.size + 9, 11, none⟩ = some (.string ⟨#[99, 99, 32, 97]⟩) := ((unhide HSB).q q5).e.cell 11 rfl
  clear H4 HSB HLB HBB qb q5
  have z0 : (w5.setCell ⟨w2.heap.size + 9, 11, none⟩ (.string ⟨#[]⟩)).cell? ⟨b3, 0, none⟩ = some (.slice (at0 (w2.heap.size + 9)) 3 3) := (unhide HF5).2.1.cell 0 rfl
  have z1 : (w5.setCell ⟨w2.heap.size + 9, 11, none⟩ (.string ⟨#[]⟩)).cell? ⟨b3, 1, none⟩ = some (.slice (at0 (w2.heap.size + 10)) 1 1) := (unhide HF5).2.1.cell 1 rfl
  have z2 : (w5.setCell ⟨w2.heap.size + 9, 11, none⟩ (.string ⟨#[]⟩)).cell? ⟨b3, 2, none⟩ = some (.slice (at0 (w2.heap.size + 11)) 1 1) := (unhide HF5).2.1.cell 2 rfl
  have HQ6 := hide (unhide HF5).2.2
  have H6 := hide ((unhide HF5).1.at or_ob.1 or_ob.2 _ (Q.refl _))
  clear HF5 qw5
  go_wp2_with fail
  refine (unhide H6).mono ?_
  rintro e w7 ⟨ao7, cap7, rfl, _, q7⟩
  have q27 := (unhide HQ6).trans q7
  have HS := hide (sameI_any [1, 2, 0] [1, 2, 0] ao (some ⟨w7.heap.size, 0, none⟩) cap 3 (w7.alloc (.cells #[.int .i64 1, .int .i64 2, .int .i64 0] 3)) ((unhide HR).q (q27.alloc _)) (rowB iv_len (Blk.new w7 #[.int .i64 1, .int .i64 2, .int .i64 0] 3) [1, 2, 0] rfl) (by decide))
  clear H6 HQ6 HR q7 z0 z1 z2 b0 d5 f5
  go_wp2_with fail
  refine (unhide HS).mono ?_
  rintro e w8 ⟨rfl, q8⟩
  have q28 := (q27.alloc _).trans q8
  clear HS q8
  go_wp2_with (go_at_call 8; refine (num_any _ _).mono ?_; rintro e w9 ⟨rfl, rfl⟩)
  go_ret
  exact ⟨rfl, qw2.trans q28⟩

end Go.Proofs.YtfadjppokbolhaaGreatDoor

/- Which edges an edge needs, as the document's own Needs answers; is all told that it needs; the conditions: the graph lies in memory, the edge has at most eight names of each kind. -/
namespace Go.Proofs.YtfadjppokbolhaaGreatDoor
open Go.RowKit

theorem mkN_no {es : List Ed} {n : Tx} (h : mkA es n < 0) : mkN es n = [] := by
  unfold mkA ixB at h
  unfold mkN
  cases hf : es.findIdx? (fun e : Ed => e.1.contains n) with
  | none => rfl
  | some k => rw [hf] at h; simp at h; omega
theorem mkN_at {es : List Ed} {n : Tx} {m : Nat} (h : mkA es n = m) : mkN es n = [m] := by
  unfold mkA ixB at h
  unfold mkN
  cases hf : es.findIdx? (fun e : Ed => e.1.contains n) with
  | none => rw [hf] at h; simp at h
  | some k => rw [hf] at h; have h2 : k = m := Int.ofNat_inj.1 h; rw [h2]; rfl
theorem flat_succ {α β : Type} {f : α → List β} {xs : List α} {k : Nat} {x : α} (h : xs[k]? = some x) : (xs.take (k + 1)).flatMap f = (xs.take k).flatMap f ++ f x := by
  rw [List.take_add_one, h, List.flatMap_append]; simp
/-- An edge's lists are short. -/
def Ed8 (e : Ed) : Prop := e.2.1.length ≤ 8 ∧ e.2.2.1.length ≤ 8 ∧ e.2.2.2.1.length ≤ 8
theorem ck_ed8 {g : Gh} (h : ckE g = 0) : ∀ e ∈ g.1, Ed8 e := by
  have hm : gmB g = true := by
    cases hm : gmB g with
    | true => rfl
    | false => rw [ck_form hm] at h; cases h
  unfold gmB esB at hm
  simp only [Bool.and_eq_true, decide_eq_true_eq] at hm
  intro e he
  have h1 := List.all_eq_true.1 hm.2.2.2 e he
  unfold edM' edOk ptsB at h1
  simp only [Bool.and_eq_true, decide_eq_true_eq] at h1
  exact ⟨h1.1.2.2.1.1, h1.1.2.2.2.1.1, h1.1.2.2.2.2.1.1⟩

theorem rnd_le {es : List Ed} {e : Ed} (h8 : Ed8 e) : (rnd es e).length ≤ 24 := by
  have h1 : ∀ L : Ws, (L.flatMap (mkN es)).length ≤ L.length := fun L => by
    induction L with
    | nil => simp
    | cons a r ih =>
      rw [List.flatMap_cons, List.length_append, List.length_cons]
      have : (mkN es a).length ≤ 1 := by unfold mkN; cases es.findIdx? (fun e : Ed => e.1.contains a) <;> simp
      omega
  have h2 := h1 (inL e)
  have h3 : (inL e).length = e.2.1.length + e.2.2.1.length + e.2.2.2.1.length := by unfold inL; simp; omega
  obtain ⟨a1, a2, a3⟩ := h8
  unfold rnd; omega

set_option maxRecDepth 20000 in
set_option maxHeartbeats 16000000 in
theorem rNd_any (g : Gh) (es : List EdA) (eo po dd : Option Addr) (ec pc dc : Nat) (k : Nat) (b : EdA) (w : World) (hg : GfR w g es eo po dd) (hb : es[k]? = some b) (h8 : Ed8 b.1) :
    Calls Tryz.prog 17 #[.agg #[.slice eo es.length ec, .slice po g.2.1.length pc, .slice dd g.2.2.length dc], .int .i64 k] w fun e w' => ∃ ao cap, e = .returned (.slice ao (rnd g.1 b.1).length cap) ∧ OwnI w' w.heap.size ao cap (rnd g.1 b.1) ∧ Q w w' := by
  obtain ⟨i0, hi, hz0, hz1, hz2⟩ : ∃ i0, Tryz.prog.info? 9 = some i0 ∧ i0.zero = some (.string ByteArray.empty) ∧ i0.size = 1 ∧ i0.bytes = 16 := ⟨_, rfl, rfl, rfl, rfl⟩
  obtain ⟨j0, ji, jz0, jz1, jz2⟩ : ∃ i0, Tryz.prog.info? 3 = some i0 ∧ i0.zero = some (.int .i64 0) ∧ i0.size = 1 ∧ i0.bytes = 8 := ⟨_, rfl, rfl, rfl, rfl⟩
  have HM : Hid (∀ (n : ByteArray) w2, Q w w2 → Calls Tryz.prog 27 #[.agg #[.slice eo es.length ec, .slice po g.2.1.length pc, .slice dd g.2.2.length dc], .string n] w2 fun e w' => e = .returned (.int .i64 (mkA g.1 (bl n))) ∧ Q w2 w') := fun n w2 q => rMo_any g n es eo po dd ec pc dc w2 (hg.q' q)
  have qb := grB_q w es g eo po dd ec pc dc
  have HB1 := hide (grB_blk w es g eo po dd ec pc dc)
  have hk : k < es.length := (List.getElem?_eq_some_iff.1 hb).1
  have HX := hide (hg.q b (List.mem_of_getElem? hb))
  obtain ⟨h81, h82, h83⟩ := h8
  have HE := hide hg.e
  have HRN : Hid (rnd g.1 b.1 = (b.1.2.1 ++ b.1.2.2.1 ++ b.1.2.2.2.1).flatMap (mkN g.1)) := rfl
  clear hg
  go_enter Tryz.func17, Tryz.ntmps17
  go_upto_region 1 with fail
  change Code.wp _ _ _ _ (grB w es g eo po dd ec pc dc)
  generalize grB w es g eo po dd ec pc dc = wb at *
  generalize hX : w.heap.size = X at HB1 ⊢
  have x0 : wb.cell? ⟨X, 0, none⟩ = some (.slice eo es.length ec) := (unhide HB1).cell 0 rfl
  rcases (unhide HE).q qb with he | ⟨gg, o, rfl, hgg, hcell⟩
  · rw [he] at hk; simp at hk
  have c0 : wb.cell? ⟨gg, o + k * 7, none⟩ = some (.slice b.2.1.1 b.1.1.length b.2.1.2) := hcell k 0 b _ hb (by decide) rfl
  have c1 : wb.cell? ⟨gg, o + k * 7 + 1, none⟩ = some (.slice b.2.2.1.1 b.1.2.1.length b.2.2.1.2) := hcell k 1 b _ hb (by decide) rfl
  have c2 : wb.cell? ⟨gg, o + k * 7 + 2, none⟩ = some (.slice b.2.2.2.1.1 b.1.2.2.1.length b.2.2.2.1.2) := hcell k 2 b _ hb (by decide) rfl
  have c3 : wb.cell? ⟨gg, o + k * 7 + 3, none⟩ = some (.slice b.2.2.2.2.1 b.1.2.2.2.1.length b.2.2.2.2.2) := hcell k 3 b _ hb (by decide) rfl
  have c4 : wb.cell? ⟨gg, o + k * 7 + 4, none⟩ = some (.string ⟨b.1.2.2.2.2.1.toArray⟩) := hcell k 4 b _ hb (by decide) rfl
  have c5 : wb.cell? ⟨gg, o + k * 7 + 5, none⟩ = some (.bool b.1.2.2.2.2.2.1) := hcell k 5 b _ hb (by decide) rfl
  have c6 : wb.cell? ⟨gg, o + k * 7 + 6, none⟩ = some (.string ⟨b.1.2.2.2.2.2.2.toArray⟩) := hcell k 6 b _ hb (by decide) rfl
  have hkI : (k : Int) < (es.length : Int) := by omega
  clear hcell hb
  go_upto_region 2 with fail
  clear c0 c1 c2 c3 c4 c5 c6 x0
  have HBE := hide (Blk.new wb (ev b).toArray 41)
  have qa := (Q.refl wb).alloc (.cells (ev b).toArray 41)
  change Code.wp _ _ _ _ (wb.alloc (.cells (ev b).toArray 41))
  have qwc := qb.trans qa
  have HB2 := hide ((unhide HB1).q qa)
  have hEl : wb.heap.size < (wb.alloc (.cells (ev b).toArray 41)).heap.size := (unhide HBE).hi
  generalize wb.alloc (.cells (ev b).toArray 41) = wc at *
  generalize wb.heap.size = E at *
  have HO0 := hide (own_new0 (w := wc) (B := wc.heap.size) (e := 9) (size := 1) (Nat.le_refl _))
  have q0 := (Q.refl wc).alloc (.cells #[] 9)
  have d1 : (wc.alloc (.cells #[] 9)).cell? ⟨E, 1, none⟩ = some (.slice b.2.2.1.1 b.1.2.1.length b.2.2.1.2) := ((unhide HBE).q q0).cell 1 rfl
  have HS1 := hide (SrcRow.row tv_len (by decide) ((unhide HX).b.q (qwc.trans q0)))
  clear HB1 qa
  go_upto_region 3 with (at_builtin; refine wpList_append_row rfl _ _ 24 rfl wc.heap.size 9 i0 (.string ByteArray.empty) 1 16 Tryz.underlying24 hi hz0 hz1 hz2 rfl (by decide) (some ⟨wc.heap.size, 0, none⟩) 0 0 [] rfl (unhide HO0) b.2.2.1.1 b.1.2.1.length b.2.2.1.2 (lay tv b.1.2.1) rfl (unhide HS1) (one_layT b.1.2.1) (by unfold maxLen; omega) (by omega) q0.size ?_)
  intro ao1 cap1 w1 own1 grow1
  have q1 : Q wc w1 := Below.grown q0 grow1 q0.size (fun r hr => ((unhide HO0).lt r hr).1)
  have ow1 : OwnT w1 wc.heap.size ao1 cap1 b.1.2.1 := own1
  have HO1 := hide ow1
  clear own1 grow1 ow1 HO0 HS1 q0 d1
  go_upto_region 3 with fail
  have d2 : w1.cell? ⟨E, 2, none⟩ = some (.slice b.2.2.2.1.1 b.1.2.2.1.length b.2.2.2.1.2) := ((unhide HBE).q q1).cell 2 rfl
  have HS2 := hide (SrcRow.row tv_len (by decide) ((unhide HX).c.q (qwc.trans q1)))
  go_upto_region 4 with (at_builtin; refine wpList_append_row rfl _ _ 24 rfl wc.heap.size 9 i0 (.string ByteArray.empty) 1 16 Tryz.underlying24 hi hz0 hz1 hz2 rfl (by decide) ao1 b.1.2.1.length cap1 (lay tv b.1.2.1) rfl (unhide HO1) b.2.2.2.1.1 b.1.2.2.1.length b.2.2.2.1.2 (lay tv b.1.2.2.1) rfl (unhide HS2) (one_layT b.1.2.2.1) (by unfold maxLen; omega) (by omega) q1.size ?_)
  intro ao2 cap2 w2 own2 grow2
  have q2 : Q wc w2 := Below.grown q1 grow2 q1.size (fun r hr => ((unhide HO1).lt r hr).1)
  have ow2 : OwnT w2 wc.heap.size ao2 cap2 (b.1.2.1 ++ b.1.2.2.1) := by
    show World.ownsRow _ _ _ _ (.slice _ (b.1.2.1 ++ b.1.2.2.1).length _) (b.1.2.1 ++ b.1.2.2.1).length (lay tv (b.1.2.1 ++ b.1.2.2.1))
    rw [List.length_append, lay_app]; exact own2
  have HO2 := hide ow2
  clear own2 grow2 ow2 HO1 HS2 q1 d2
  go_upto_region 4 with fail
  have d3 : w2.cell? ⟨E, 3, none⟩ = some (.slice b.2.2.2.2.1 b.1.2.2.2.1.length b.2.2.2.2.2) := ((unhide HBE).q q2).cell 3 rfl
  have HS3 := hide (SrcRow.row tv_len (by decide) ((unhide HX).d.q (qwc.trans q2)))
  have HO2b : Hid (w2.ownsRow wc.heap.size 9 1 (.slice ao2 (b.1.2.1.length + b.1.2.2.1.length) cap2) (b.1.2.1.length + b.1.2.2.1.length) (lay tv (b.1.2.1 ++ b.1.2.2.1))) := by
    have h : w2.ownsRow wc.heap.size 9 1 (.slice ao2 (b.1.2.1 ++ b.1.2.2.1).length cap2) (b.1.2.1 ++ b.1.2.2.1).length (lay tv (b.1.2.1 ++ b.1.2.2.1)) := unhide HO2
    rwa [List.length_append] at h
  go_upto_region 5 with (at_builtin; refine wpList_append_row rfl _ _ 24 rfl wc.heap.size 9 i0 (.string ByteArray.empty) 1 16 Tryz.underlying24 hi hz0 hz1 hz2 rfl (by decide) ao2 (b.1.2.1.length + b.1.2.2.1.length) cap2 (lay tv (b.1.2.1 ++ b.1.2.2.1)) rfl (unhide HO2b) b.2.2.2.2.1 b.1.2.2.2.1.length b.2.2.2.2.2 (lay tv b.1.2.2.2.1) rfl (unhide HS3) (one_layT b.1.2.2.2.1) (by unfold maxLen; omega) (by omega) q2.size ?_)
  intro ao3 cap3 w3 own3 grow3
  have q3 : Q wc w3 := Below.grown q2 grow3 q2.size (fun r hr => ((unhide HO2b).lt r hr).1)
  obtain ⟨L, hL⟩ : ∃ L, b.1.2.1 ++ b.1.2.2.1 ++ b.1.2.2.2.1 = L := ⟨_, rfl⟩
  have hLl : L.length = b.1.2.1.length + b.1.2.2.1.length + b.1.2.2.2.1.length := by rw [← hL]; simp; omega
  have HRL : Hid (RowT w3 ao3 L) := by
    refine OwnT.row (B := wc.heap.size) (cap := cap3) ?_
    rw [← lay_app, hL, ← hLl] at own3; exact own3
  rw [hL] at HRN
  rw [← hLl]
  have hL24 : L.length ≤ 24 := by omega
  clear own3 grow3 HO2 HO2b HS3 q2 d3 hL hLl
  have qw3 := qwc.trans q3
  have HX3 : Hid (∀ w5, Q w3 w5 → w5.cell? ⟨X, 0, none⟩ = some (.slice (some ⟨gg, o, none⟩) es.length ec) ∧ w5.cell? ⟨X, 1, none⟩ = some (.slice po g.2.1.length pc) ∧ w5.cell? ⟨X, 2, none⟩ = some (.slice dd g.2.2.length dc) ∧ X < w5.heap.size) :=
    fun w5 q => ⟨((unhide HB2).q (q3.trans q)).cell 0 rfl, ((unhide HB2).q (q3.trans q)).cell 1 rfl, ((unhide HB2).q (q3.trans q)).cell 2 rfl, ((unhide HB2).q (q3.trans q)).hi⟩
  clear HBE HB2 HX HE
  go_upto_region 5 with fail
  go_wp2_with fail
  have hX3 : X ≤ w3.heap.size := by rw [← hX]; exact qw3.size
  go_loopw [7, 8] (fun s i wr => ∃ (m : Nat) (out : List Nat) (ao : Option Addr) (cap : Nat), m ≤ L.length ∧ i = .int .i64 m ∧ s = .slice ao out.length cap ∧ out.length ≤ m ∧ OwnI wr w3.heap.size ao cap out ∧ Q w3 wr ∧ Hid (out = (L.take m).flatMap (mkN g.1))) (fun _ i _ => L.length - (intOf i).toNat)
  case atStart => exact ⟨0, [], none, 0, Nat.zero_le _, rfl, rfl, Nat.le_refl _, World.ownsRow_nil _ _ _ _, Q.refl _, rfl⟩
  case round =>
    obtain ⟨m, out, ao, cap, hm, rfl, rfl, hol, hown, hq, HY⟩ := hrel
    by_cases hlt : m < L.length
    · rcases (unhide HRL).q hq with he | ⟨g2, o2, eb, hg2, hcell2⟩
      · rw [he] at hlt; simp at hlt
      · obtain ⟨x, hx⟩ : ∃ x, L[m]? = some x := ⟨_, List.getElem?_eq_getElem hlt⟩
        have cx : wr.cell? ⟨g2, o2 + m, none⟩ = some (.string ⟨x.toArray⟩) := by have := hcell2 m 0 x _ hx (by decide) rfl; simpa using this
        obtain ⟨x0, x1, x2, xs⟩ := unhide HX3 wr hq
        have HA0 : ∀ u : Aft wr, u.to.cell? ⟨X, 0, none⟩ = some (.slice (some ⟨gg, o, none⟩) es.length ec) := Aft.cell x0 xs
        have HA1 : ∀ u : Aft wr, u.to.cell? ⟨X, 1, none⟩ = some (.slice po g.2.1.length pc) := Aft.cell x1 xs
        have HA2 : ∀ u : Aft wr, u.to.cell? ⟨X, 2, none⟩ = some (.slice dd g.2.2.length dc) := Aft.cell x2 xs
        have HA3 : ∀ u : Aft wr, u.to.cell? ⟨g2, o2 + m, none⟩ = some (.string ⟨x.toArray⟩) := Aft.cell cx hg2
        have HCM : Hid (∀ u : Aft wr, Calls Tryz.prog 27 #[.agg #[.slice (some ⟨gg, o, none⟩) es.length ec, .slice po g.2.1.length pc, .slice dd g.2.2.length dc], .string ⟨x.toArray⟩] u.to fun e w' => e = .returned (.int .i64 (mkA g.1 x)) ∧ Q u.to w') := fun u => unhide HM ⟨x.toArray⟩ u.to ((qw3.trans hq).trans u.q)
        have HFS := hide (flat_succ (f := mkN g.1) hx)
        have hne := Aft.ne wr
        have hmI : (m : Int) < (L.length : Int) := by omega
        have HOW := hide hown
        clear hcell2 hx cx x0 x1 x2 hown
        generalize (⟨x.toArray⟩ : ByteArray) = xv at *
        rw [eb]
        go_wp2_with fail
        refine wp_region_aft (by kernel_rfl) (by kernel_rfl) ?_
        repeat (go_big_quiet_step ((go_at_call 27; exact Calls.aft (unhide HCM _))))
        refine wpQuiet_nil ?_
        intro _ hw'
        obtain ⟨u, hw''⟩ := hw'
        subst hw''
        have hqu := hq.trans u.q
        have HOU := hide (own_q (unhide HOW) u.q)
        generalize u.to = w6 at *
        clear HA0 HA1 HA2 HA3 hne HCM HOW
        by_cases hz : mkA g.1 x < 0
        · have HY2 : Hid (out = (L.take (m + 1)).flatMap (mkN g.1)) := by
            show _ = _
            rw [unhide HFS, mkN_no hz, List.append_nil]; exact HY.out
          clear HY HFS
          generalize mkA g.1 x = z at *
          go_wp2_with fail
          go_roundw
          case rel => exact ⟨m + 1, out, ao, cap, by omega, by go_num, rfl, by omega, unhide HOU, hqu, HY2⟩
          case measure => simp [intOf]; omega
        · obtain ⟨p, hp⟩ : ∃ p : Nat, mkA g.1 x = (p : Int) := ⟨(mkA g.1 x).toNat, by omega⟩
          have HY2 : Hid (out ++ [p] = (L.take (m + 1)).flatMap (mkN g.1)) := by
            show _ = _
            rw [unhide HFS, mkN_at hp, HY.out]
          rw [hp]
          have hp0 : (0 : Int) ≤ (p : Int) := by omega
          have hbs : w3.heap.size ≤ w6.heap.size := hqu.size
          clear HY HFS hz hp
          go_wp2_with (at_builtin; refine wpList_append_lies _ rfl _ _ 28 rfl w3.heap.size 3 j0 (.int .i64 0) 1 8 Tryz.underlying28 ji jz0 jz1 jz2 rfl (by decide) _ _ _ rfl ((unhide HOU).alloc _) ⟨w6.heap.size, 0, none⟩ 1 1 [.int .i64 p] rfl rfl (news_at (by simp) #[.int .i64 p] _) (one_int _ _) (by decide) (by unfold maxLen; omega) (by omega) (le_alloc hbs _) (w6.heap.size + 1) (by simp) ?_)
          intro g7 cp7 w7 own7 grow7 or7 lt7
          have q7 : Q w3 w7 := Below.grown (hqu.alloc _) grow7 (le_alloc hbs _) (fun r hr => ((unhide HOU).lt r hr).1)
          have ow7 : OwnI w7 w3.heap.size (some ⟨g7, 0, none⟩) cp7 (out ++ [p]) := OwnI.snoc own7
          clear own7 grow7 or7 lt7 HOU
          go_wp2
          go_roundw
          case rel =>
            refine ⟨m + 1, out ++ [p], some ⟨g7, 0, none⟩, cp7, by omega, by go_num, ?_, ?_, ow7, q7, HY2⟩
            · simp
            · simp; omega
          case measure => simp [intOf]; omega
    · have HF : Hid (out = rnd g.1 b.1) := by
        show _ = _
        rw [HY.out, List.take_of_length_le (by omega), HRN.out]
      have HO := hide (own_low hown (show w.heap.size ≤ w3.heap.size from qw3.size))
      clear hown HY
      go_wp2_with fail
      go_ret
      refine ⟨ao, cap, ?_, ?_, qw3.trans hq⟩
      · rw [← HF.out]; rfl
      · rw [← HF.out]; exact unhide HO


end Go.Proofs.YtfadjppokbolhaaGreatDoor

/- In which order the edges of a graph come, as the document's own Order answers; a row of numbers is written over; the conditions: the graph lies in memory. -/
namespace Go.Proofs.YtfadjppokbolhaaGreatDoor
open Go.RowKit

set_option maxHeartbeats 4000000 in
theorem spoilI_any (ao : Option Addr) (cap B : Nat) (xs : List Nat) (w : World) (hown : OwnI w B ao cap xs) (hn : xs.length ≤ 4096) (hx : ∀ x ∈ xs, x ≤ 4096) :
    Calls Tryz.prog 9 #[.slice ao xs.length cap] w fun e w' => e = .returned (.tuple #[]) ∧ Below B w w' := by
  have HX := hide hx
  clear hx
  by_cases h0 : xs.length = 0
  · go_enter Tryz.func9, Tryz.ntmps9
    go_wp2_with fail
    go_loop [2] (fun i => i = .int .i64 0) (fun _ => 0)
    case atStart => rfl
    case round =>
      subst hrel
      have h1 : ¬ ((0 : Int) < (xs.length : Int)) := by omega
      go_wp2_with fail
      go_end0
      exact ⟨rfl, Below.refl _ _⟩
  · obtain ⟨g, rfl, hgB, hgs, hfz, hcl⟩ := own_some iv_len (by decide) (by omega) hown
    have HC0 : Hid (∀ (j x : Nat), 0 ≤ j → xs[j]? = some x → w.cell? ⟨g, j, none⟩ = some (.int .i64 (x : Int))) := fun j x _ hj => by
      have := hcl j 0 x _ hj (by decide) rfl
      simpa using this
    have HF0 : Hid (∀ j, w.frozen? ⟨g, j, none⟩ = false) := hfz
    clear hfz hcl hown h0
    go_enter Tryz.func9, Tryz.ntmps9
    go_wp2_with fail
    go_loopw [2] (fun i wr => ∃ k : Nat, k ≤ xs.length ∧ i = .int .i64 k ∧ Below B w wr ∧ Hid (∀ (j x : Nat), k ≤ j → xs[j]? = some x → wr.cell? ⟨g, j, none⟩ = some (.int .i64 (x : Int))) ∧ Hid (∀ j, wr.frozen? ⟨g, j, none⟩ = false)) (fun i _ => xs.length - (intOf i).toNat)
    case atStart => exact ⟨0, Nat.zero_le _, rfl, Below.refl _ _, HC0, HF0⟩
    case round =>
      obtain ⟨k, hk, rfl, hbl, HC, HF⟩ := hrel
      by_cases hlt : k < xs.length
      · obtain ⟨x, hx⟩ : ∃ x, xs[k]? = some x := ⟨_, List.getElem?_eq_getElem hlt⟩
        have c1 : wr.cell? ⟨g, k, none⟩ = some (.int .i64 (x : Int)) := HC.out k x (Nat.le_refl _) hx
        have f1 : wr.frozen? ⟨g, k, none⟩ = false := HF.out k
        have hxb : x ≤ 4096 := unhide HX x (List.mem_of_getElem? hx)
        have hbl2 : Below B w (wr.setCell ⟨g, k, none⟩ (.int .i64 (-9 - (x : Int)))) := hbl.setCell (by exact hgB) _
        have HC2 : Hid (∀ (j y : Nat), k + 1 ≤ j → xs[j]? = some y → (wr.setCell ⟨g, k, none⟩ (.int .i64 (-9 - (x : Int)))).cell? ⟨g, j, none⟩ = some (.int .i64 (y : Int))) := fun j y hj hy =>
          (World.cell?_setCell_other wr ⟨g, k, none⟩ ⟨g, j, none⟩ _ (by intro e; cases e; omega)).trans (HC.out j y (by omega) hy)
        have HF2 : Hid (∀ j, (wr.setCell ⟨g, k, none⟩ (.int .i64 (-9 - (x : Int)))).frozen? ⟨g, j, none⟩ = false) := fun j => by rw [← HF.out j]; simp
        clear hx HC HF hbl
        go_wp2_with fail
        go_roundw
        case rel => exact ⟨k + 1, by omega, by go_num, hbl2, HC2, HF2⟩
        case measure => simp [intOf]; omega
      · go_wp2_with fail
        go_end0
        exact ⟨rfl, hbl⟩

set_option maxRecDepth 20000 in
set_option maxHeartbeats 16000000 in
theorem rOr_any (g : Gh) (es : List EdA) (eo po dd : Option Addr) (ec pc dc : Nat) (w : World) (hg : GfR w g es eo po dd) :
    Calls Tryz.prog 6 #[.agg #[.slice eo es.length ec, .slice po g.2.1.length pc, .slice dd g.2.2.length dc]] w fun e w' => ∃ ao cap, e = .returned (.tuple #[.slice ao (orL g).length cap, .int .i64 (orE g)]) ∧ OwnI w' w.heap.size ao cap (orL g) ∧ Q w w' := by
  obtain ⟨i0, hi, hz0, hz1, hz2⟩ : ∃ i0, Tryz.prog.info? 3 = some i0 ∧ i0.zero = some (.int .i64 0) ∧ i0.size = 1 ∧ i0.bytes = 8 := ⟨_, rfl, rfl, rfl, rfl⟩
  obtain ⟨i1, ji, jz0, jz1, jz2⟩ : ∃ i1, Tryz.prog.info? 4 = some i1 ∧ i1.zero = some (.bool false) ∧ i1.size = 1 ∧ i1.bytes = 1 := ⟨_, rfl, rfl, rfl, rfl⟩
  have S1 := hide (fun w2 (q : Q w w2) => rCk_any g es eo po dd ec pc dc w2 (hg.q' q))
  have qb := grB_q w es g eo po dd ec pc dc
  have HB1 := hide (grB_blk w es g eo po dd ec pc dc)
  by_cases h0 : ckE g ≠ 0
  · have h1 : (ckE g != 0) = true := by simpa using h0
    have HO := hide (orE_form h0)
    clear h0 hg
    generalize ckE g = ck at *
    go_enter Tryz.func6, Tryz.ntmps6
    go_wp2_with fail
    change Calls _ _ _ (grB w es g eo po dd ec pc dc) _
    refine (unhide S1 _ qb).mono ?_
    rintro e w1 ⟨rfl, q1⟩
    go_wp2_with fail
    go_ret2
    refine ⟨none, 0, ?_, ?_, qb.trans q1⟩
    · rw [HO.out.1, HO.out.2]; rfl
    · rw [HO.out.2]; exact World.ownsRow_nil _ _ _ _
  · have h0' : ckE g = 0 := by simpa using h0
    have hm : gmB g = true := by
      cases hm : gmB g with
      | true => rfl
      | false => rw [ck_form hm] at h0'; cases h0'
    have hf := gm_facts hm
    have h8 := ck_ed8 h0'
    have htw := ck_tw h0'
    have h16 : es.length ≤ 16 := by rw [hg.len]; exact hf.1
    have HLN := hide hg.len
    rw [h0'] at S1
    have HND : Hid (∀ (i : Nat) (ed : Ed) (w5 : World), g.1[i]? = some ed → Q w w5 → Calls Tryz.prog 17 #[.agg #[.slice eo es.length ec, .slice po g.2.1.length pc, .slice dd g.2.2.length dc], .int .i64 i] w5 fun e w' => ∃ ao cap, e = .returned (.slice ao (rnd g.1 ed).length cap) ∧ OwnI w' w5.heap.size ao cap (rnd g.1 ed) ∧ Q w5 w') := by
      show ∀ (i : Nat) (ed : Ed) (w5 : World), _
      intro i ed w5 hed q
      rw [← hg.em, List.getElem?_map] at hed
      obtain ⟨x, hx, rfl⟩ := Option.map_eq_some_iff.1 hed
      exact rNd_any g es eo po dd ec pc dc i x w5 (hg.q' q) hx (h8 _ (by rw [← hg.em]; exact List.mem_map_of_mem (List.mem_of_getElem? hx)))
    have HOK : Hid (∀ (i : Nat) (ed : Ed) (t : List Bool), g.1[i]? = some ed → okB g.1 t i = (!tB t i && (rnd g.1 ed).all (tB t))) := fun i ed t h => by rw [okB_at h, rnd_all htw]
    have HLT : Hid (∀ (ed : Ed) (x : Nat), x ∈ rnd g.1 ed → x < es.length) := fun ed x hx => by rw [unhide HLN]; exact rnd_lt hx
    have H24 : Hid (∀ ed ∈ g.1, (rnd g.1 ed).length ≤ 24) := fun ed hed => rnd_le (h8 ed hed)
    have HO : Hid (∀ r, ordO g.1 = some r → orE g = 0 ∧ orL g = r) := by
      show ∀ r, _
      intro r hr
      unfold orE orL
      rw [if_pos h0', if_pos h0', hr]; exact ⟨rfl, rfl⟩
    have HC : Hid (ordO g.1 = none → orE g = 1001 ∧ orL g = []) := fun hr => orE_cyc h0' hr
    clear hg hm hf h0 h0' h8 htw
    have hb1 : i1.bytes * es.length ≤ 281474976710656 := by rw [jz2]; omega
    have hb2 : es.length ≤ 9223372036854775807 := by omega
    go_enter Tryz.func6, Tryz.ntmps6
    go_wp2_with fail
    change Calls _ _ _ (grB w es g eo po dd ec pc dc) _
    generalize grB w es g eo po dd ec pc dc = wb at *
    generalize hX : w.heap.size = X at HB1 ⊢
    have hXs : X ≤ wb.heap.size := by rw [← hX]; exact qb.size
    refine (unhide S1 _ qb).mono ?_
    rintro e w2 ⟨rfl, q1⟩
    have qw2 := qb.trans q1
    have HX : Hid (∀ w3, Q w2 w3 → w3.cell? ⟨X, 0, none⟩ = some (.slice eo es.length ec) ∧ w3.cell? ⟨X, 1, none⟩ = some (.slice po g.2.1.length pc) ∧ w3.cell? ⟨X, 2, none⟩ = some (.slice dd g.2.2.length dc) ∧ X < w3.heap.size) :=
      fun w3 q => ⟨(((unhide HB1).q (q1.trans q))).cell 0 rfl, (((unhide HB1).q (q1.trans q))).cell 1 rfl, (((unhide HB1).q (q1.trans q))).cell 2 rfl, ((unhide HB1).q (q1.trans q)).hi⟩
    obtain ⟨x0, _, _, _⟩ := unhide HX w2 (Q.refl _)
    have hX2 : X ≤ w2.heap.size := Nat.le_trans hXs q1.size
    have hwX : w.heap.size ≤ X := Nat.le_of_eq hX
    clear S1 q1 qb HB1 hX hXs
    go_wp2_with (refine wpList_make_row _ rfl _ _ 46 rfl 4 i1 (.bool false) Tryz.underlying46 ji jz0 jz1 rfl .i64 .i64 es.length rfl rfl hb1 hb2 ?_)
    rw [made_rep]
    clear hb1 hb2 ji jz0 jz1 jz2 x0
    have HT0 : Hid (Blk (w2.alloc (.cells (List.replicate es.length (Value.bool false)).toArray 4)) w2.heap.size ((fls es.length).map Value.bool).toArray 4) := by
      have h := Blk.new w2 (List.replicate es.length (Value.bool false)).toArray 4
      unfold fls
      rw [List.map_replicate]
      exact h
    have qa := (Q.refl w2).alloc (.cells (List.replicate es.length (Value.bool false)).toArray 4)
    have hTs : w2.heap.size < (w2.alloc (.cells (List.replicate es.length (Value.bool false)).toArray 4)).heap.size := (unhide HT0).hi
    have hT3 : (w2.alloc (.cells (List.replicate es.length (Value.bool false)).toArray 4)).heap.size ≤ w2.heap.size + 1 := Nat.le_of_eq (size_alloc _ _)
    generalize w2.alloc (.cells (List.replicate es.length (Value.bool false)).toArray 4) = w3 at *
    have HR0 : Hid (run g.1 (es.length - ([] : List Nat).length) (fls es.length) [] = ordO g.1) := by
      show _ = _
      unfold ordO
      rw [unhide HLN]; rfl
    generalize hT : w2.heap.size = T at *
    go_wp2_with fail
    go_loopg [5] es.length (fun gk s wr => ∃ (t : List Bool) (r : List Nat) (ao : Option Addr) (cap : Nat), r.length + gk = es.length ∧ s = .slice ao r.length cap ∧ t.length = es.length ∧ Blk wr T (t.map Value.bool).toArray 4 ∧ OwnI wr (T + 1) ao cap r ∧ But T w3 wr ∧ Hid (run g.1 (es.length - r.length) t r = ordO g.1))
    case atStart => exact ⟨fls es.length, [], none, 0, by simp, rfl, by simp [fls], unhide HT0, World.ownsRow_nil _ _ _ _, But.refl _ _, unhide HR0⟩
    case round =>
      obtain ⟨t, r, ao, cap, hrl, rfl, htl, hbk, hown, hbut, HR⟩ := hrel
      have hq3 : Q w2 wr := Below.trans qa (hbut.below (by omega) qa.size)
      have hq : Q w wr := qw2.trans hq3
      obtain ⟨x0, x1, x2, _⟩ := unhide HX wr hq3
      cases gk with
      | zero =>
        have HR2 : Hid (orE g = 0 ∧ orL g = r) := by
          refine (unhide HO) r ?_
          rw [← HR.out, show es.length - r.length = 0 by omega]; rfl
        have hrl2 : r.length = es.length := by omega
        have HO2 := hide (own_low hown (show w.heap.size ≤ T + 1 by omega))
        clear hbk hown hbut HR hrl
        go_wp2_with fail
        go_ret2
        refine ⟨ao, cap, ?_, ?_, hq⟩
        · rw [HR2.out.1, HR2.out.2]; rfl
        · rw [HR2.out.2]; exact unhide HO2
      | succ go =>
        have hlt : r.length < es.length := by omega
        have HBK := hide hbk
        have HOW := hide hown
        have HBU := hide hbut
        have HTL := hide htl
        have HHQ := hide hq
        have HHQ3 := hide hq3
        clear hbk hown hbut htl hq hq3
        go_wp2_with fail
        rename World => wo
        clear x0 x1 x2
        go_loopw [6, 7] (fun s i wq => ∃ (j : Nat) (z y : Int), j ≤ es.length ∧ i = .int .i64 y ∧ y + 1 = (j : Int) ∧ s = .int .i64 z ∧ Hid (nxD g.1 t j z) ∧ Q wo wq) (fun _ i _ => (intOf i + 1).toNat)
        case atStart => exact ⟨es.length, -1, (es.length : Int) - 1, Nat.le_refl _, by first | rfl | go_num, by omega, rfl, (by show nxD g.1 t es.length (-1); rw [unhide HLN]; exact nxD_top g.1 t), Q.refl _⟩
        case round =>
          obtain ⟨j, z, y, hj, rfl, hy, rfl, HN, hqo⟩ := hrel
          by_cases hy0 : 0 ≤ y
          · obtain ⟨p, rfl⟩ : ∃ p : Nat, y = (p : Int) := ⟨y.toNat, by omega⟩
            have hjp : j = p + 1 := by omega
            rw [hjp] at HN
            have hpn : p < es.length := by omega
            obtain ⟨ed, hed⟩ : ∃ ed, g.1[p]? = some ed := ⟨_, List.getElem?_eq_getElem (by have := unhide HLN; omega)⟩
            obtain ⟨b, hb⟩ : ∃ b, t[p]? = some b := ⟨_, List.getElem?_eq_getElem (by rw [unhide HTL]; exact hpn)⟩
            have c1 : wr.cell? ⟨T, p, none⟩ = some (.bool b) := bv_at ((unhide HBK).q hqo) hb
            have HCC := hide (unhide HND p ed wr hed ((unhide HHQ).trans hqo))
            have HOKP := hide ((unhide HOK) p ed t hed)
            rw [tB_get hb] at HOKP
            have hx24 := (unhide H24) ed (List.mem_of_getElem? hed)
            have HLX := hide ((unhide HLT) ed)
            obtain ⟨x0, x1, x2, _⟩ := unhide HX wr ((unhide HHQ3).trans hqo)
            have hpI : (p : Int) < (es.length : Int) := by omega
            clear hed hb hjp hj hy
            generalize rnd g.1 ed = xs at *
            go_wp2_with fail
            refine (unhide HCC).mono ?_
            rintro e w6 ⟨a6, c6, rfl, own6, q6⟩
            have hqo6 := hqo.trans q6
            have HR6 := hide (OwnI.row own6)
            have HBK6 := hide ((unhide HBK).q hqo6)
            clear own6 q6 hqo HCC x0 x1 x2 c1
            go_wp2_with fail
            go_loop [8, 10] (fun f k => ∃ (m : Nat) (c : Bool), m ≤ xs.length ∧ k = .int .i64 m ∧ f = .bool c ∧ Hid (c = (!b && (xs.take m).all (tB t)))) (fun _ k => xs.length - (intOf k).toNat)
            case atStart => exact ⟨0, !b, Nat.zero_le _, rfl, rfl, by show _ = _; simp⟩
            case round =>
              obtain ⟨m, c, hm, rfl, rfl, HA⟩ := hrel
              by_cases hltm : m < xs.length
              · rcases unhide HR6 with he | ⟨g2, o2, rfl, hg2, hcell2⟩
                · rw [he] at hltm; simp at hltm
                obtain ⟨x, hx⟩ : ∃ x, xs[m]? = some x := ⟨_, List.getElem?_eq_getElem hltm⟩
                have hxn : x < es.length := (unhide HLX) x (List.mem_of_getElem? hx)
                obtain ⟨d, hd⟩ : ∃ d, t[x]? = some d := ⟨_, List.getElem?_eq_getElem (by rw [unhide HTL]; exact hxn)⟩
                have cx : w6.cell? ⟨g2, o2 + m, none⟩ = some (.int .i64 (x : Int)) := by have := hcell2 m 0 x _ hx (by decide) rfl; simpa using this
                have ct : w6.cell? ⟨T, x, none⟩ = some (.bool d) := bv_at (unhide HBK6) hd
                have HS := hide (all_succ (tB t) hx)
                rw [tB_get hd] at HS
                have hxI : (x : Int) < (es.length : Int) := by omega
                have HA2 : Hid ((c && d) = (!b && (xs.take (m + 1)).all (tB t))) := by
                  show _ = _
                  rw [unhide HS, HA.out, Bool.and_assoc]
                clear hcell2 hx hd HS HA
                cases c
                · go_wp2_with fail
                  go_round
                  case rel => exact ⟨m + 1, false, by omega, by go_num, rfl, HA2⟩
                  case measure => simp [intOf]; omega
                · cases d
                  · go_wp2_with fail
                    go_round
                    case rel => exact ⟨m + 1, false, by omega, by go_num, rfl, HA2⟩
                    case measure => simp [intOf]; omega
                  · go_wp2_with fail
                    go_round
                    case rel => exact ⟨m + 1, true, by omega, by go_num, rfl, HA2⟩
                    case measure => simp [intOf]; omega
              · have HKP : Hid (okB g.1 t p = c) := by
                  show _ = _
                  have h := HA.out
                  rw [List.take_of_length_le (by omega)] at h
                  rw [unhide HOKP, ← h]
                have hln : g.1.length = es.length := (unhide HLN).symm
                have HPL : Hid (p < g.1.length) := by show _ < _; omega
                clear HA hln
                cases c
                · have HN2 : Hid (nxD g.1 t p z) := nxD_no HN.out HKP.out
                  clear HN HKP HOKP
                  go_wp2_with fail
                  go_roundw
                  case rel => exact ⟨p, z, (p : Int) - 1, by omega, by first | rfl | go_num, by omega, rfl, HN2, hqo6⟩
                  case measure => simp [intOf]
                · have HN2 : Hid (nxD g.1 t p (p : Int)) := nxD_yes (unhide HPL) HKP.out
                  clear HN HKP HOKP
                  go_wp2_with fail
                  go_roundw
                  case rel => exact ⟨p, (p : Int), (p : Int) - 1, by omega, by first | rfl | go_num, by omega, rfl, HN2, hqo6⟩
                  case measure => simp [intOf]
          · have hj0 : j = 0 := by omega
            rw [hj0] at HN
            rcases nxD_end HN.out with ⟨rfl, hnx⟩ | ⟨p, rfl, hpn, hnx⟩
            · have HNN : Hid (orE g = 1001 ∧ orL g = []) := by
                refine (unhide HC) ?_
                rw [← HR.out, show es.length - r.length = (es.length - r.length - 1) + 1 by omega]
                exact run_none hnx
              have HQW : Hid (Q w wr) := (unhide HHQ).trans hqo
              clear HN hnx HR hj0 hj hy hqo
              go_wp2_with fail
              go_ret2
              refine ⟨none, 0, ?_, ?_, unhide HQW⟩
              · rw [HNN.out.1, HNN.out.2]; rfl
              · rw [HNN.out.2]; exact World.ownsRow_nil _ _ _ _
            · have hpe : p < es.length := by have := unhide HLN; omega
              have bk := (unhide HBK).q hqo
              obtain ⟨b, hb⟩ : ∃ b, t[p]? = some b := ⟨_, List.getElem?_eq_getElem (by rw [unhide HTL]; exact hpe)⟩
              have c1 : wr.cell? ⟨T, p, none⟩ = some (.bool b) := bv_at bk hb
              have f1 : wr.frozen? ⟨T, p, none⟩ = false := bk.frz p
              have ho := own_q (unhide HOW) hqo
              have HB5 : Hid (Blk (wr.setCell ⟨T, p, none⟩ (.bool true)) T ((t.set p true).map Value.bool).toArray 4) := by
                have h := bk.set p (.bool true)
                rw [tv_bset] at h
                exact h
              have HO5 := hide (own_fr ho (Fr.set wr T p (.bool true)) (fun r hr => by have := (ho.lt r hr).1; omega))
              have HV5 := hide (((unhide HBU).q hqo).set p (.bool true))
              have HR6 : Hid (run g.1 (es.length - (r ++ [p]).length) (t.set p true) (r ++ [p]) = ordO g.1) := by
                show _ = _
                rw [← HR.out, show es.length - r.length = (es.length - (r ++ [p]).length) + 1 by simp; omega, run_some hnx]
              have hTw : T + 1 ≤ (wr.setCell ⟨T, p, none⟩ (.bool true)).heap.size := by have := (unhide HB5).hi; omega
              have hpI : (p : Int) < (es.length : Int) := by omega
              have hp0 : ¬ ((p : Int) < 0) := by omega
              have hp1 : decide ((p : Int) < 0) = false := decide_eq_false (by omega)
              have hyn : ¬ (0 ≤ y) := hy0
              clear HR HN hnx bk ho hb hqo hj0 hj HBK HOW HBU
              go_wp2_with (at_builtin; refine wpList_append_lies _ rfl _ _ 28 rfl (T + 1) 3 i0 (.int .i64 0) 1 8 Tryz.underlying28 hi hz0 hz1 hz2 rfl (by decide) _ _ _ rfl ((unhide HO5).alloc _) ⟨wr.heap.size, 0, none⟩ 1 1 [.int .i64 p] rfl rfl (news_at (by simp) #[.int .i64 p] _) (one_int _ _) (by decide) (by unfold maxLen; omega) (by omega) (le_alloc hTw _) (wr.heap.size + 1) (by simp) ?_)
              intro g7 cp7 w7 own7 grow7 or7 lt7
              have hoA := (unhide HO5).alloc (.cells #[.int .i64 p] 3)
              have bk7 : Blk w7 T ((t.set p true).map Value.bool).toArray 4 := ((unhide HB5).q ((Q.refl _).alloc _)).fr (Fr.grown grow7) (fun e => by have := (hoA.lt _ e).1; omega)
              have bu7 : But T w3 w7 := ((unhide HV5).q ((Q.refl _).alloc _)).grown grow7 hT3 (fun r hr => by have := (hoA.lt r hr).1; omega)
              have ow7 : OwnI w7 (T + 1) (some ⟨g7, 0, none⟩) cp7 (r ++ [p]) := OwnI.snoc own7
              clear own7 grow7 or7 lt7 hoA HB5 HO5 HV5
              go_wp2
              go_roundg go
              case rel =>
                refine ⟨t.set p true, r ++ [p], some ⟨g7, 0, none⟩, cp7, ?_, ?_, ?_, bk7, ow7, bu7, HR6⟩
                · simp; omega
                · simp
                · have := unhide HTL; simp; omega
              case measure => exact Nat.lt_succ_self _

end Go.Proofs.YtfadjppokbolhaaGreatDoor
