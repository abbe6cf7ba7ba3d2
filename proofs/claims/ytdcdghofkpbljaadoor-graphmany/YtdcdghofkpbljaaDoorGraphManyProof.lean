/- GraphMany, whole: more edges, more pools than may be are refused, outputs that stand twice are told, whatever the numbers; no conditions. -/
import Derived.Test.YtdcdghofkpbljaaDoorRows
import Derived.Test.YtdcdghofkpbljaaDoorCards
import Derived.Test.YtdcdghofkpbljaaDoorTie
import Derived.LaidMore
import Derived.Lay
import Derived.SevenTiedAt
import Derived.Stop.Joined
import Derived.ProofKit
import Derived.OpenShut
import Derived.ShutString
import Derived.ChangeOld
import Derived.Below
import Derived.SizedLaws
import Derived.Test.YtdcdghofkpbljaaDoorGfAwake
import Derived.Test.YtdcdghofkpbljaaDoorGfStep
import Derived.Test.YtdcdghofkpbljaaDoorBitPlain
import Derived.Test.YtdcdghofkpbljaaDoorStrOne
namespace Go.Proofs.YtdcdghofkpbljaaDoor
open Go.ChangeShapes Go.WideShapes Go.ChangeAt Go.RowKit

def gmN (i : Nat) : Tx := [111, UInt8.ofNat (97 + i % 16), UInt8.ofNat (97 + i / 16)]
def gmE (i : Nat) : Ed := ([gmN i], [], [], [], [120], false, [])
def gmP (i : Nat) : Po := ([112, UInt8.ofNat (97 + i)], 1)
def gmG (d : Nat) : Gh := ((List.range d).map gmE, [], [])
def gmQ (d : Nat) : Gh := ([], (List.range d).map gmP, [])
theorem gmG_may : ∀ d : Fin 32, gmB (gmG d) = decide (d.1 ≤ 16) ∧ ghzB (gmG d) = true := by decide +kernel
theorem gmQ_may : ∀ d : Fin 8, gmB (gmQ d) = decide (d.1 ≤ 4) ∧ ghzB (gmQ d) = true := by decide +kernel
def gtG : Gh := ([gvD0, gvD1, ([sBo, sBo], gvD2.2)], [(sTwo, 2)], [sLib])
def gtX (n m : Nat) : EdA := (([sBo, sBo], gvD2.2), (at0 m, 2), (at0 (n + 7), 1), (none, 0), (at0 (n + 8), 1))
theorem gt_says {w : World} {n m : Nat} (h : Gv w n ((gvEc n).setIfInBounds 14 (.slice (at0 m) 2 2)) gvPc) (hm : Blk w m #[.string ⟨sBo.toArray⟩, .string ⟨sBo.toArray⟩] 9) : Says w (gvV n) gtG :=
  (gr_three (x0 := gvX0 n) (x1 := gvX1 n) (x2 := gtX n m) [(sTwo, 2)] h.e rfl h.p rfl h.dd h.x0 h.x1 ⟨tvR hm _ rfl, h.x2.b, Or.inl rfl, h.x2.d⟩ (ghz_of (show ghzB gtG = true by decide +kernel))).says 3 1 1 (Nat.le_refl 1) (by decide)
def wTw (w : World) (n : Nat) : World := ((w.alloc (.cells #[.slice (at0 (n + 9)) 3 3, .slice (at0 (n + 10)) 1 1, .slice (at0 (n + 11)) 1 1] 27)).alloc (.cells #[.string ⟨#[98, 46, 111]⟩, .string ⟨#[98, 46, 111]⟩] 9)).setCell ⟨n + 9, 14, none⟩ (.slice (at0 (w.heap.size + 1)) 2 2)
theorem wTw_facts {w4 w : World} (q : Q w4 w) (h : Gv w w4.heap.size (gvEc w4.heap.size) gvPc) :
    Says (wTw w w4.heap.size) (gvV w4.heap.size) gtG ∧ Blk (wTw w w4.heap.size) w.heap.size #[.slice (at0 (w4.heap.size + 9)) 3 3, .slice (at0 (w4.heap.size + 10)) 1 1, .slice (at0 (w4.heap.size + 11)) 1 1] 27 ∧ Q w4 (wTw w w4.heap.size) := by
  have hh := h.hi
  have h1 := (h.q ((Q.refl w).alloc (.cells #[.slice (at0 (w4.heap.size + 9)) 3 3, .slice (at0 (w4.heap.size + 10)) 1 1, .slice (at0 (w4.heap.size + 11)) 1 1] 27))).q ((Q.refl _).alloc (.cells #[.string ⟨#[98, 46, 111]⟩, .string ⟨#[98, 46, 111]⟩] 9))
  have hb := (Blk.new w #[.slice (at0 (w4.heap.size + 9)) 3 3, .slice (at0 (w4.heap.size + 10)) 1 1, .slice (at0 (w4.heap.size + 11)) 1 1] 27).q ((Q.refl _).alloc (.cells #[.string ⟨#[98, 46, 111]⟩, .string ⟨#[98, 46, 111]⟩] 9))
  have hl := Blk.new (w.alloc (.cells #[.slice (at0 (w4.heap.size + 9)) 3 3, .slice (at0 (w4.heap.size + 10)) 1 1, .slice (at0 (w4.heap.size + 11)) 1 1] 27)) #[.string ⟨#[98, 46, 111]⟩, .string ⟨#[98, 46, 111]⟩] 9
  rw [size_alloc] at hl
  exact ⟨gt_says (m := w.heap.size + 1) (h1.setE 14 _) (hl.other (by omega) _ _), hb.other (by omega) _ _, ((q.alloc _).alloc _).setHi (by omega) _ _⟩

theorem and31 (n : Int) : bits .and .i64 n 31 = n % 32 := by
  show IntKind.i64.wrap ((BitVec.ofInt 64 n &&& BitVec.ofInt 64 31).toNat : Int) = _
  rw [BitVec.toNat_and, show (BitVec.ofInt 64 31).toNat = 2 ^ 5 - 1 from rfl, Nat.and_two_pow_sub_one_eq_mod, BitVec.toNat_ofInt, IntKind.wrap_i64]; omega
theorem and7' (n : Int) : bits .and .i64 n 7 = n % 8 := by
  show IntKind.i64.wrap ((BitVec.ofInt 64 n &&& BitVec.ofInt 64 7).toNat : Int) = _
  rw [BitVec.toNat_and, show (BitVec.ofInt 64 7).toNat = 2 ^ 3 - 1 from rfl, Nat.and_two_pow_sub_one_eq_mod, BitVec.toNat_ofInt, IntKind.wrap_i64]; omega

theorem own_of_blk {w : World} {g B n size : Nat} {cs : Array Value} {t : TypeId} {xs : List Value} (h : Blk w g cs t) (hx : cs = xs.toArray) (hn : xs.length = n * size) (hb : B ≤ g) (hm : n ≤ maxLen) : w.ownsRow B t size (.slice (some ⟨g, 0, none⟩) n n) n xs := by
  subst hx
  exact ⟨hn, Or.inr ⟨g, n, _, rfl, hb, h, Nat.le_refl _, hm, by simpa using hn, by rw [← hn]; simp⟩⟩
theorem EdR.qq' {w w' : World} {B : Nat} {x : EdA} (h : EdR w B x) (q : Q w w') : EdR w' B x := ⟨own_q h.a q, own_q h.b q, own_q h.c q, own_q h.d q⟩
theorem one_layO' (xs : List Po) : ∀ u ∈ lay pov xs, u.oneCell' = true := by
  intro u hu
  obtain ⟨y, _, hy⟩ := List.mem_flatMap.1 hu
  simp only [pov, List.mem_cons, List.not_mem_nil, or_false] at hy
  rcases hy with rfl | rfl <;> rfl
def gmY (n k : Nat) : EdA := (gmE k, (some ⟨n + 1 + 1, 0, none⟩, 1), (none, 0), (none, 0), (none, 0))
def gmL (n k : Nat) (p q : Int) (S : ByteArray) : List (Array Value × TypeId) := [(#[.int .u8 p], 5), (#[.int .u8 q], 5), (#[.string S], 9), ((ev (gmY n k)).toArray, 31)]
theorem gmL_facts (w : World) (k : Nat) (p q : Int) (S : ByteArray) (hS : S = ⟨(gmN k).toArray⟩) {B : Nat} (hB : B ≤ w.heap.size) : EdR (al w (gmL w.heap.size k p q S)) B (gmY w.heap.size k) ∧ SrcRow (al w (gmL w.heap.size k p q S)) 7 (some ⟨w.heap.size + 1 + 1 + 1, 0, none⟩) 1 (lay ev [gmY w.heap.size k]) ∧ Q w (al w (gmL w.heap.size k p q S)) := by
  have h := fun i x hx => al_blk (gmL w.heap.size k p q S) w i x hx
  refine ⟨⟨?_, World.ownsRow_nil _ _ _ _, World.ownsRow_nil _ _ _ _, World.ownsRow_nil _ _ _ _⟩, ?_, al_q _ _⟩
  · refine own_of_blk (h 2 _ rfl) ?_ rfl (by omega) (show 1 ≤ maxLen by decide)
    subst hS; rfl
  · exact SrcRow.row ev_len (by decide) (rowB ev_len (h 3 _ rfl) [gmY w.heap.size k] rfl)
def gmLp (p : Int) (S : ByteArray) : List (Array Value × TypeId) := [(#[.int .u8 p], 5), (#[.string S, .int .i64 1], 34)]
theorem gmLp_facts (w : World) (k : Nat) (p : Int) (S : ByteArray) (hS : S = ⟨(gmP k).1.toArray⟩) : SrcRow (al w (gmLp p S)) 2 (some ⟨w.heap.size + 1, 0, none⟩) 1 (lay pov [gmP k]) ∧ Q w (al w (gmLp p S)) := by
  have h := fun i x hx => al_blk (gmLp p S) w i x hx
  refine ⟨?_, al_q _ _⟩
  subst hS
  exact SrcRow.row pov_len (by decide) (rowB pov_len (h 1 _ rfl) [gmP k] rfl)
theorem gmP_eq {k : Nat} {c : UInt8} (hc : (c.toNat : Int) = 97 + k) : (⟨#[112]⟩ ++ ⟨#[c]⟩ : ByteArray) = ⟨(gmP k).1.toArray⟩ := by
  have e1 : c = UInt8.ofNat (97 + k) := by apply UInt8.toNat.inj; rw [UInt8.toNat_ofNat']; have := c.toNat_lt; omega
  subst e1
  exact of_bl (by rw [bl_app]; rfl)
theorem gmN_eq {k p q : Nat} {c c' : UInt8} (hp : k % 16 = p) (hq : k / 16 = q) (hc : (c.toNat : Int) = 97 + p) (hc' : (c'.toNat : Int) = 97 + q) : (⟨#[111]⟩ ++ ⟨#[c]⟩ ++ ⟨#[c']⟩ : ByteArray) = ⟨(gmN k).toArray⟩ := by
  have e1 : c = UInt8.ofNat (97 + k % 16) := by apply UInt8.toNat.inj; rw [UInt8.toNat_ofNat']; omega
  have e2 : c' = UInt8.ofNat (97 + k / 16) := by apply UInt8.toNat.inj; rw [UInt8.toNat_ofNat']; have := c'.toNat_lt; omega
  subst e1 e2
  exact of_bl (by rw [bl_app, bl_app]; rfl)

set_option maxRecDepth 20000 in
set_option maxHeartbeats 16000000 in
theorem graphMany_any (a : Int) (_ : (Lit.int .i64 a).wf = true) (b : Int) (_ : (Lit.int .i64 b).wf = true) (w : World) :
    Calls Tryd.prog 4 #[.int .i64 a, .int .i64 b] w fun e w' => e = .returned (.bool true) ∧ Q w w' := by
  obtain ⟨i0, hi, hz0, hz1, hz2⟩ : ∃ i0, Tryd.prog.info? 31 = some i0 ∧ i0.zero = some (.agg #[.slice none 0 0, .slice none 0 0, .slice none 0 0, .slice none 0 0, .string ByteArray.empty, .bool false, .string ByteArray.empty]) ∧ i0.size = 7 ∧ i0.bytes = 136 := ⟨_, rfl, rfl, rfl, rfl⟩
  obtain ⟨j0, ji, jz0, jz1, jz2⟩ : ∃ i0, Tryd.prog.info? 34 = some i0 ∧ i0.zero = some (.agg #[.string ByteArray.empty, .int .i64 0]) ∧ i0.size = 2 ∧ i0.bytes = 24 := ⟨_, rfl, rfl, rfl, rfl⟩
  have h31 := and31 a
  have h7 := and7' b
  obtain ⟨d, hd⟩ : ∃ d : Nat, a % 32 = (d : Int) := ⟨(a % 32).toNat, by omega⟩
  have hd32 : d < 32 := by omega
  obtain ⟨m, hm⟩ : ∃ m : Nat, b % 8 = (m : Int) := ⟨(b % 8).toNat, by omega⟩
  have hm8 : m < 8 := by omega
  rw [hd] at h31
  rw [hm] at h7
  clear hd hm
  go_enter Tryd.func4, Tryd.ntmps4
  go_wp2_with fail
  refine (gawake_any w).mono ?_
  rintro e w1 ⟨rfl, q1⟩
  have HB0 := hide (Blk.new w1 #[.slice none 0 0, .slice none 0 0, .slice none 0 0] 27)
  have qa := (Q.refl w1).alloc (.cells #[.slice none 0 0, .slice none 0 0, .slice none 0 0] 27)
  have hlt0 : w1.heap.size < (w1.alloc (.cells #[.slice none 0 0, .slice none 0 0, .slice none 0 0] 27)).heap.size := (unhide HB0).hi
  go_wp2_with fail
  generalize w1.alloc (.cells #[.slice none 0 0, .slice none 0 0, .slice none 0 0] 27) = wb at *
  go_loopw [7] (fun i wr => ∃ (k : Nat) (fs : List EdA) (ao : Option Addr) (cap : Nat), k ≤ d ∧ i = .int .i64 k ∧ fs.length ≤ k ∧ Blk wr w1.heap.size #[.slice ao fs.length cap, .slice none 0 0, .slice none 0 0] 27 ∧ wr.ownsRow wb.heap.size 31 7 (.slice ao fs.length cap) fs.length (lay ev fs) ∧ Q w1 wr ∧ wb.heap.size ≤ wr.heap.size ∧ Hid (fs.map Prod.fst = (List.range k).map gmE ∧ ∀ y ∈ fs, EdR wr wb.heap.size y)) (fun i _ => d - (intOf i).toNat)
  case atStart => exact ⟨0, [], none, 0, Nat.zero_le _, rfl, Nat.le_refl _, unhide HB0, World.ownsRow_nil _ _ _ _, qa, Nat.le_refl _, ⟨rfl, fun y hy => by cases hy⟩⟩
  case round =>
    obtain ⟨k, fs, ao, cap, hk, rfl, hfl, hblk, hown, hq, hbs, HY⟩ := hrel
    have HBK := hide hblk
    have x0 : wr.cell? ⟨w1.heap.size, 0, none⟩ = some (.slice ao fs.length cap) := hblk.cell 0 rfl
    clear hblk
    by_cases hlt : k < d
    · have h15 := and15 (k : Int)
      obtain ⟨p, hp⟩ : ∃ p : Nat, k % 16 = p := ⟨_, rfl⟩
      obtain ⟨q, hqq⟩ : ∃ q : Nat, k / 16 = q := ⟨_, rfl⟩
      rw [show (k : Int) % 16 = (p : Int) by omega] at h15
      have hs4 : (k : Int) / 2 ^ 4 = (q : Int) := by omega
      have hs4' : (k : Int) / 16 = (q : Int) := by omega
      have hp16 : p < 16 := by omega
      have hq2 : q < 2 := by omega
      obtain ⟨c, hcc, hcv⟩ := str_int (97 + (p : Int)) (by omega) (by omega)
      obtain ⟨c', hcc', hcv'⟩ := str_int (97 + (q : Int)) (by omega) (by omega)
      have hcv2 : ∀ ob, (convert 32 9 (.slice (some ⟨wr.heap.size + 1, 0, none⟩) 1 1)).run Tryd.prog ((wr.alloc ob).alloc (.cells #[.int .u8 (97 + (q : Int))] 5)) = .ok (.string ⟨#[c']⟩) ((wr.alloc ob).alloc (.cells #[.int .u8 (97 + (q : Int))] 5)) := fun ob => by
        have := hcv' (wr.alloc ob); rwa [size_alloc] at this
      clear hcv'
      have HST := hide (gmN_eq hp hqq hcc hcc')
      obtain ⟨ey, sy, qy⟩ := gmL_facts wr k (97 + (p : Int)) (97 + (q : Int)) _ (unhide HST) hbs
      have HEY := hide ey
      have HSY := hide sy
      have HOW := hide (own_q hown qy)
      have hqs : wb.heap.size ≤ (al wr (gmL wr.heap.size k (97 + (p : Int)) (97 + (q : Int)) (⟨#[111]⟩ ++ ⟨#[c]⟩ ++ ⟨#[c']⟩))).heap.size := Nat.le_trans hbs qy.size
      have HFS : Hid (∀ z ∈ fs ++ [gmY wr.heap.size k], EdR (al wr (gmL wr.heap.size k (97 + (p : Int)) (97 + (q : Int)) (⟨#[111]⟩ ++ ⟨#[c]⟩ ++ ⟨#[c']⟩))) wb.heap.size z) := by
        show ∀ z ∈ fs ++ [gmY wr.heap.size k], _
        intro z hz
        rcases List.mem_append.1 hz with h | h
        · exact (HY.out.2 z h).qq' qy
        · simp only [List.mem_cons, List.not_mem_nil, or_false] at h; rw [h]; exact unhide HEY
      have HMP : Hid ((fs ++ [gmY wr.heap.size k]).map Prod.fst = (List.range (k + 1)).map gmE) := by
        show _ = _
        rw [List.map_append, HY.out.1, List.range_succ, List.map_append]; rfl
      clear ey sy hown hcc hcc' hp hqq
      go_wp2_with (at_builtin; refine wpList_append_row rfl _ _ 23 rfl wb.heap.size 31 i0 (.agg #[.slice none 0 0, .slice none 0 0, .slice none 0 0, .slice none 0 0, .string ByteArray.empty, .bool false, .string ByteArray.empty]) 7 136 Tryd.underlying23 hi hz0 hz1 hz2 rfl (by decide) ao fs.length cap (lay ev fs) rfl (unhide HOW) (some ⟨wr.heap.size + 1 + 1 + 1, 0, none⟩) 1 1 (lay ev [gmY wr.heap.size k]) rfl (unhide HSY) (one_layE _) (by unfold maxLen; omega) (by omega) hqs ?_)
      intro ao3 cap3 w3 own3 grow3
      have q3 : Q w1 w3 := Below.grown (hq.trans qy) grow3 (Nat.le_trans (Nat.le_of_lt hlt0) hqs) (fun r hr => Nat.le_trans (Nat.le_of_lt hlt0) ((unhide HOW).lt r hr).1)
      have bG3 := ((unhide HBK).q qy).fr (Fr.grown grow3) (fun hx => ((unhide HBK).q qy).row (unhide HOW) (by decide) _ hx rfl)
      have HO3 : w3.ownsRow wb.heap.size 31 7 (.slice ao3 (fs ++ [gmY wr.heap.size k]).length cap3) (fs ++ [gmY wr.heap.size k]).length (lay ev (fs ++ [gmY wr.heap.size k])) := by
        rw [List.length_append, lay_app]; exact own3
      have HE3 : ∀ z ∈ fs ++ [gmY wr.heap.size k], EdR w3 wb.heap.size z := fun z hz => (HFS.out z hz).fr (Fr.grown grow3) (fun r hr hp => (HFS.out z hz).row (unhide HOW) (by decide) r hr hp)
      have hs3 : wb.heap.size ≤ w3.heap.size := Nat.le_trans hqs grow3.size
      have hl3 : (fs ++ [gmY wr.heap.size k]).length = fs.length + 1 := by simp
      have HB4 := hide (bG3.set 0 (.slice ao3 (fs.length + 1) cap3))
      have HO4 := hide (own_fr HO3 (Fr.set w3 w1.heap.size 0 (.slice ao3 (fs.length + 1) cap3)) (fun r hr => bG3.row HO3 (by decide) r hr))
      have HE4 : Hid (∀ z ∈ fs ++ [gmY wr.heap.size k], EdR (w3.setCell ⟨w1.heap.size, 0, none⟩ (.slice ao3 (fs.length + 1) cap3)) wb.heap.size z) := fun z hz => (HE3 z hz).fr (Fr.set _ _ _ _) (fun r hr => (HE3 z hz).blk bG3 (by decide) r hr)
      have q4 : Q w1 (w3.setCell ⟨w1.heap.size, 0, none⟩ (.slice ao3 (fs.length + 1) cap3)) := q3.setHi (Nat.le_refl _) 0 _
      have hs4 : wb.heap.size ≤ (w3.setCell ⟨w1.heap.size, 0, none⟩ (.slice ao3 (fs.length + 1) cap3)).heap.size := by simpa [World.setCell] using hs3
      have HL3 := hide hl3
      have frz3 := bG3.frz 0
      have cH3 : w3.cell? ⟨w1.heap.size, 0, none⟩ = some (.slice ao fs.length cap) := bG3.cell 0 rfl
      clear own3 grow3 HO3 HE3 HFS HOW HSY HEY HST q3 hs3 hqs qy hl3 bG3 HY
      go_wp2
      go_roundw
      case rel =>
        refine ⟨k + 1, fs ++ [gmY wr.heap.size k], ao3, cap3, by omega, by go_num, ?_, ?_, unhide HO4, q4, hs4, ⟨unhide HMP, unhide HE4⟩⟩
        · rw [unhide HL3]; omega
        · rw [unhide HL3]; exact unhide HB4
      case measure => simp [intOf]; omega
    · have HSG : Hid (Says wr (.agg #[.slice ao fs.length cap, .slice none 0 0, .slice none 0 0]) (gmG d)) := by
        obtain rfl : k = d := by omega
        have hz := (gmG_may ⟨k, hd32⟩).2
        have hr : GfR wr (gmG k) fs ao none none := ⟨RowG.own ev_len (by decide) hown, HY.out.1, Or.inl rfl, Or.inl rfl, fun z hz => (HY.out.2 z hz).rd, ghz_of hz⟩
        exact hr.says cap 0 0 (Nat.le_refl 0) (by decide)
      have HMG : Hid (gmB (gmG d) = decide (d ≤ 16)) := (gmG_may ⟨d, hd32⟩).1
      clear hown HY
      rename World => wz
      have HBP := hide (Blk.new wz #[.slice none 0 0, .slice none 0 0, .slice none 0 0] 27)
      have qp := (Q.refl wz).alloc (.cells #[.slice none 0 0, .slice none 0 0, .slice none 0 0] 27)
      have hltp : wz.heap.size < (wz.alloc (.cells #[.slice none 0 0, .slice none 0 0, .slice none 0 0] 27)).heap.size := (unhide HBP).hi
      have HQ1 := hide hq
      clear hq x0 hbs HB0 qa hlt0
      go_wp2_with fail
      clear hlt
      generalize wz.alloc (.cells #[.slice none 0 0, .slice none 0 0, .slice none 0 0] 27) = wp at *
      go_loopw [9] (fun i wr => ∃ (k : Nat) (ps : List Po) (po : Option Addr) (pc : Nat), k ≤ m ∧ i = .int .i64 k ∧ ps.length ≤ k ∧ Blk wr wz.heap.size #[.slice none 0 0, .slice po ps.length pc, .slice none 0 0] 27 ∧ wr.ownsRow wp.heap.size 34 2 (.slice po ps.length pc) ps.length (lay pov ps) ∧ Q wz wr ∧ wp.heap.size ≤ wr.heap.size ∧ Hid (ps = (List.range k).map gmP)) (fun i _ => m - (intOf i).toNat)
      case atStart => exact ⟨0, [], none, 0, Nat.zero_le _, rfl, Nat.le_refl _, unhide HBP, World.ownsRow_nil _ _ _ _, qp, Nat.le_refl _, rfl⟩
      case round =>
        obtain ⟨k, ps, po, pc, hk, rfl, hfl2, hblk, hown, hq, hbs, HY⟩ := hrel
        have HBK2 := hide hblk
        have x0 : wr.cell? ⟨wz.heap.size, 1, none⟩ = some (.slice po ps.length pc) := hblk.cell 1 rfl
        clear hblk
        by_cases hlt : k < m
        · obtain ⟨c, hcc, hcv⟩ := str_int (97 + (k : Int)) (by omega) (by omega)
          have HST := hide (gmP_eq hcc)
          obtain ⟨sy, qy⟩ := gmLp_facts wr k (97 + (k : Int)) _ (unhide HST)
          have HSY := hide sy
          have HOW := hide (own_q hown qy)
          have hqs : wp.heap.size ≤ (al wr (gmLp (97 + (k : Int)) (⟨#[112]⟩ ++ ⟨#[c]⟩))).heap.size := Nat.le_trans hbs qy.size
          have HMP : Hid (ps ++ [gmP k] = (List.range (k + 1)).map gmP) := by
            show _ = _
            rw [HY.out, List.range_succ, List.map_append]; rfl
          clear sy hown hcc
          go_wp2_with (at_builtin; refine wpList_append_row rfl _ _ 24 rfl wp.heap.size 34 j0 (.agg #[.string ByteArray.empty, .int .i64 0]) 2 24 Tryd.underlying24 ji jz0 jz1 jz2 rfl (by decide) po ps.length pc (lay pov ps) rfl (unhide HOW) (some ⟨wr.heap.size + 1, 0, none⟩) 1 1 (lay pov [gmP k]) rfl (unhide HSY) (one_layO' _) (by unfold maxLen; omega) (by omega) hqs ?_)
          intro ao3 cap3 w3 own3 grow3
          have q3 : Q wz w3 := Below.grown (hq.trans qy) grow3 (Nat.le_trans (Nat.le_of_lt hltp) hqs) (fun r hr => Nat.le_trans (Nat.le_of_lt hltp) ((unhide HOW).lt r hr).1)
          have bG3 := ((unhide HBK2).q qy).fr (Fr.grown grow3) (fun hx => ((unhide HBK2).q qy).row (unhide HOW) (by decide) _ hx rfl)
          have HO3 : w3.ownsRow wp.heap.size 34 2 (.slice ao3 (ps ++ [gmP k]).length cap3) (ps ++ [gmP k]).length (lay pov (ps ++ [gmP k])) := by
            rw [List.length_append, lay_app]; exact own3
          have hs3 : wp.heap.size ≤ w3.heap.size := Nat.le_trans hqs grow3.size
          have hl3 : (ps ++ [gmP k]).length = ps.length + 1 := by simp
          have HB4 := hide (bG3.set 1 (.slice ao3 (ps.length + 1) cap3))
          have HO4 := hide (own_fr HO3 (Fr.set w3 wz.heap.size 1 (.slice ao3 (ps.length + 1) cap3)) (fun r hr => bG3.row HO3 (by decide) r hr))
          have q4 : Q wz (w3.setCell ⟨wz.heap.size, 1, none⟩ (.slice ao3 (ps.length + 1) cap3)) := q3.setHi (Nat.le_refl _) 1 _
          have hs4 : wp.heap.size ≤ (w3.setCell ⟨wz.heap.size, 1, none⟩ (.slice ao3 (ps.length + 1) cap3)).heap.size := by simpa [World.setCell] using hs3
          have HL3 := hide hl3
          have frz3 := bG3.frz 1
          have cH3 : w3.cell? ⟨wz.heap.size, 1, none⟩ = some (.slice po ps.length pc) := bG3.cell 1 rfl
          clear own3 grow3 HO3 HOW HSY HST q3 hs3 hqs qy hl3 bG3 HY
          go_wp2
          go_roundw
          case rel =>
            refine ⟨k + 1, ps ++ [gmP k], ao3, cap3, by omega, by go_num, ?_, ?_, unhide HO4, q4, hs4, unhide HMP⟩
            · rw [unhide HL3]; omega
            · rw [unhide HL3]; exact unhide HB4
          case measure => simp [intOf]; omega
        · have HSP : Hid (Says wr (.agg #[.slice none 0 0, .slice po ps.length pc, .slice none 0 0]) (gmQ m)) := by
            obtain rfl : k = m := by omega
            have hz := (gmQ_may ⟨k, hm8⟩).2
            have hps := HY.out
            have hr : GfR wr (gmQ k) [] none po none := ⟨Or.inl rfl, rfl, by show RowO wr po ((List.range k).map gmP); rw [← hps]; exact RowG.own pov_len (by decide) hown, Or.inl rfl, (fun z hz => by cases hz), ghz_of hz⟩
            have hle := own_le hown
            have := hr.says 0 pc 0 (by show ((List.range k).map gmP).length ≤ pc; rw [← hps]; exact hle.1) hle.2.1
            rw [show (gmQ k).2.1.length = ps.length by rw [hps]; rfl] at this
            exact this
          have HMQ : Hid (gmB (gmQ m) = decide (m ≤ 4)) := (gmQ_may ⟨m, hm8⟩).1
          have HQ2 := hide hq
          clear hown HY hq x0 hbs HBP qp hltp
          rename World => wq
          go_wp2_with fail
          clear hlt
          refine (given_any wq).mono ?_
          rintro e w5 ⟨rfl, v5, q5⟩
          obtain ⟨st, bt, qt⟩ := wTw_facts q5 v5
          have ST := hide st
          have BT := hide bt
          have c5b : ∀ o1 o2, ((w5.alloc o1).alloc o2).frozen? ⟨wq.heap.size + 9, 14, none⟩ = false := fun o1 o2 => (v5.e.q (((Q.refl _).alloc o1).alloc o2)).frz 14
          have d5 : ∀ o1 o2, ((w5.alloc o1).alloc o2).cell? ⟨wq.heap.size + 9, 14, none⟩ = some (.slice (at0 (wq.heap.size + 6)) 1 1) := fun o1 o2 => (v5.e.q (((Q.refl _).alloc o1).alloc o2)).cell 14 rfl
          have y0 := bt.cell 0 rfl
          have y1 := bt.cell 1 rfl
          have y2 := bt.cell 2 rfl
          unfold wTw at y0 y1 y2
          clear v5 st bt
          go_wp2_with fail
          change Calls _ _ _ (wTw w5 wq.heap.size) _
          clear c5b d5 y0 y1 y2 q5
          have HBT := hide ((unhide HBK).q ((unhide HQ2).trans qt))
          have HBP2 := hide ((unhide HBK2).q qt)
          generalize wTw w5 wq.heap.size = w6 at *
          refine ((unhide ST).make w6 ⟨#[98, 46, 111]⟩ (Q.refl _)).mono ?_
          rintro e w7 ⟨rfl, q7⟩
          rw [show ckE gtG = 901 by kernel_rfl, show mkIs gtG (bl ⟨#[98, 46, 111]⟩) = false by kernel_rfl, show mkI gtG (bl ⟨#[98, 46, 111]⟩) = 0 by kernel_rfl]
          have H1 := hide ((unhide HSG).may w7 ((unhide HQ2).trans (qt.trans q7)))
          rw [HMG.out, show decide (d ≤ 16) = decide ((d : Int) ≤ 16) from decide_eq_decide.2 (by omega)] at H1
          have g0 := ((unhide HBT).q q7).cell 0 rfl
          have g1 := ((unhide HBT).q q7).cell 1 rfl
          have g2 := ((unhide HBT).q q7).cell 2 rfl
          go_wp2_with fail
          refine (unhide H1).mono ?_
          rintro e w8 ⟨rfl, q8⟩
          have q68 := q7.trans q8
          clear H1 g0 g1 g2 q7 q8
          have H2 := hide ((unhide HSP).may w8 (qt.trans q68))
          rw [HMQ.out, show decide (m ≤ 4) = decide ((m : Int) ≤ 4) from decide_eq_decide.2 (by omega)] at H2
          have g0 := ((unhide HBP2).q q68).cell 0 rfl
          have g1 := ((unhide HBP2).q q68).cell 1 rfl
          have g2 := ((unhide HBP2).q q68).cell 2 rfl
          have hb1 : (decide ((d : Int) ≤ 16) == decide ((d : Int) ≤ 16)) = true := by simp
          have hb2 : (decide ((m : Int) ≤ 4) == decide ((m : Int) ≤ 4)) = true := by simp
          go_wp2_with fail
          refine (unhide H2).mono ?_
          rintro e w9 ⟨rfl, q9⟩
          have q69 := q68.trans q9
          clear H2 g0 g1 g2 q68 q9
          have H3 := hide ((unhide ST).may w9 q69)
          rw [show gmB gtG = true by kernel_rfl] at H3
          have g0 := ((unhide BT).q q69).cell 0 rfl
          have g1 := ((unhide BT).q q69).cell 1 rfl
          have g2 := ((unhide BT).q q69).cell 2 rfl
          go_wp2_with fail
          refine (unhide H3).mono ?_
          rintro e w10 ⟨rfl, q10⟩
          have q610 := q69.trans q10
          clear H3 g0 g1 g2 q69 q10
          have H4 := hide ((unhide ST).ck w10 q610)
          rw [show ckE gtG = 901 by kernel_rfl] at H4
          have g0 := ((unhide BT).q q610).cell 0 rfl
          have g1 := ((unhide BT).q q610).cell 1 rfl
          have g2 := ((unhide BT).q q610).cell 2 rfl
          go_wp2_with fail
          refine (unhide H4).mono ?_
          rintro e w11 ⟨rfl, q11⟩
          go_wp2_with fail
          refine (num_any _ _).mono ?_
          rintro e w12 ⟨rfl, rfl⟩
          go_wp2_with fail
          refine (num_any _ _).mono ?_
          rintro e w13 ⟨rfl, rfl⟩
          go_wp2_with fail
          go_ret
          exact ⟨rfl, q1.trans ((unhide HQ1).trans ((unhide HQ2).trans (qt.trans (q610.trans q11))))⟩

set_option maxRecDepth 100000 in
theorem graphMany_lifted (os : Os) (started : os.Started) (H : Type) (enc : TypeId × Value → H) :
    ReturnsInHanded {} Tryd.checked os 4 .any (fun w args => (Rows.graphManySpec.pre enc Tryd.prog Tryd.f4 [] false w args ∧ laidMetH Tryd.prog Rows.graphManyRow.laid w) ∧ sizedMet enc Tryd.prog Tryd.f4 (OpenSpec.ofChange Rows.graphManySpec) false w args) (Rows.graphManySpec.post enc Tryd.prog Tryd.f4 false true false false) := by
  refine returnsInHanded_of_change_and (C := Tryd.checked) (X := fun w _ => laidMetH Tryd.prog Rows.graphManyRow.laid w) (fun _ _ _ hh h => h.of_heap hh) Tryd.own started (by kernel_rfl) Tryd.func4
    (ChangeSpec.witness_shaped (enc := enc) (C := Tryd.checked) (os := os) (X := fun w _ => laidMetH Tryd.prog Rows.graphManyRow.laid w) false (World.laidAll Tryd.prog os Rows.graphManyRow.laid) #[.int .i64 0, .int .i64 0] 8 (World.laidAll_os _ _ _)
      (World.shaped_of_ZipB (by kernel_rfl) (by kernel_rfl)) (by kernel_rfl) (by kernel_rfl) (by kernel_rfl)
      (by rw [MakeChecks.laidMetH_plain _ _ _ (by kernel_rfl)]; exact laidMet_laidAll _ (by kernel_rfl) (by kernel_rfl))) ?_
  intro W base args ds gs before hval0 hW _ hsz0 hL _
  have hval : ∀ (j : Nat) t v, Tryd.f4.params[j]? = some t → args[j]? = some v → Value.okWide Tryd.prog W .any base t v := hval0
  have hW' := hW
  obtain ⟨p, q, hA0, hV, rfl, hfz, hnd⟩ := hW
  have hA : DataW.TrodAll enc Tryd.prog W 0 (fun _ => true) true Tryd.f4.params.toList args.toList ds p := hA0
  rw [Tryd.params4] at hA hval
  obtain ⟨v0, vs0, d0, ds0, p0, q0, hargs, rfl, rfl, h0, r0⟩ := trodAll_cons hA
  obtain ⟨v1, vs1, d1, ds1, p1, q1, rfl, rfl, rfl, h1, r1⟩ := trodAll_cons r0
  obtain ⟨rfl, rfl, rfl⟩ := trodAll_nil r1
  obtain rfl : args = #[v0, v1] := by cases args; simp_all
  obtain ⟨rfl, rfl⟩ := trodVars_none hV
  obtain ⟨a0, rfl, rfl, rfl, w0⟩ := open_int Tryd.underlying3 (hval 0 3 v0 rfl rfl) h0
  obtain ⟨a1, rfl, rfl, rfl, w1⟩ := open_int Tryd.underlying3 (hval 1 3 v1 rfl rfl) h1
  clear hA0 hval0
  simp only [List.append_nil] at hW'
  refine (graphMany_any a0 w0 a1 w1 W).mono fun e W' ⟨he, bel⟩ => ?_
  subst he
  exact ⟨_, rfl, _, _, _, [], [], [], hW', trodAll_mk1 (shut_bool Tryd.underlying4 _), (trodAll_cons_mk (shut_int Tryd.underlying3 w0) (trodAll_cons_mk (shut_int Tryd.underlying3 w1) trodAll_mk0)), rfl, bel.frame _, fun h => by cases h⟩

theorem graphMany_holds : Rows.GraphManySaid :=
  OpenClaim.holds_of_wide 4 Tryd.f4 rfl rfl rfl rfl rfl rfl rfl ⟨rfl, rfl, rfl, rfl, rfl⟩ rfl rfl rfl rfl rfl (by kernel_rfl) Tryd.func4 (by kernel_rfl)
    (of_decide_eq_true (by kernel_rfl)) (by unfold Func.isWrapper; first | (rw [if_pos (by decide +kernel)]; kernel_rfl) | (rw [if_neg (by decide +kernel)]; exact ⟨rfl, rfl⟩))
    (fun os started H enc _ => graphMany_lifted os started H enc)
theorem graphMany_card : Rows.GraphManyCardSaid :=
  Claim7.holds_tied_plain_at .later [] [.data, .pinned] true (true, "34930c2335a0f5bc5a06bdbfd5f205e646aed1e26a5a50b32a028c5565e280cf") false graphMany_holds (fun _ h => by cases h) (by kernel_rfl) (fun _ h => by cases h) graphMany_row_tie rfl ⟨rfl, rfl⟩ (by kernel_rfl) rfl
    (fun f fn hf hfn => by
      obtain rfl : f = 4 := Option.some.inj ((show Tryd.prog.funcNamed Rows.graphManyRow.func = some 4 by kernel_rfl).symm.trans hf) |>.symm
      obtain rfl : fn = Tryd.f4 := (Option.some.inj (Tryd.func4.symm.trans hfn)).symm
      exact ⟨by kernel_rfl, fun j t ht => by
        rw [Tryd.params4] at ht
        have hm : t ∈ [3, 3] := by simpa using Array.mem_of_getElem? ht
        have hall : ([3, 3].all fun u => !Tryd.prog.wantsStandIn u) = true := by kernel_rfl
        exact (show Tryd.prog.wantsStandIn t = false by simpa using List.all_eq_true.1 hall t hm)⟩)
    (by kernel_rfl)
#print axioms graphMany_card

end Go.Proofs.YtdcdghofkpbljaaDoor
