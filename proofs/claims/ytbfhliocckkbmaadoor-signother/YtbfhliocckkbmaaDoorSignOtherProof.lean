/- SignOther, whole: what must only be there, and the pool, are not in a sign, for any edge, any names; no conditions. -/
import Derived.Test.YtbfhliocckkbmaaDoorRows
import Derived.Test.YtbfhliocckkbmaaDoorCards
import Derived.Test.YtbfhliocckkbmaaDoorTie
import Derived.LaidMore
import Derived.Lay
import Derived.SevenTiedAt
import Derived.Stop.Joined
import Derived.ProofKit
import Derived.OpenShut
import Derived.ShutString
import Derived.ChangeOld
import Derived.Below
import Derived.SizedLaws
import Derived.Test.YtbfhliocckkbmaaDoorSgOpen
import Derived.Test.YtbfhliocckkbmaaDoorGfCopy
import Derived.Test.YtbfhliocckkbmaaDoorBitPlain
import Derived.Deep.RegionHeld3
namespace Go.Proofs.YtbfhliocckkbmaaDoor
open Go.ChangeShapes Go.WideShapes Go.ChangeAt Go.RowKit

theorem src_new2 (w : World) (o : Obj) (cs : Array Value) (t : TypeId) (h : cs.size = 1 * 1) : SrcRow (((w.alloc o).alloc (.cells cs t)).drew) 1 (some ⟨w.heap.size + 1, 0, none⟩) 1 cs.toList := by
  have k := SrcRow.new (w.alloc o) cs t 1 h
  rw [size_alloc] at k
  exact k
theorem lt_three {m : Nat} (h : m < 3) : m = 0 ∨ m = 1 ∨ m = 2 := by omega
theorem txt_eq (a : ByteArray) : (a.toList == a.toList) = true := by simp
def soP (m : Nat) : Tx := if m = 0 then [113] else if m = 1 then [114, 47, 115] else [116, 46, 111]
def soNs (z : Ws) (k : Nat) : Ws := (z.take k).map fun x => soP (x.length % 3)
theorem soNs_zero (z : Ws) : soNs z 0 = [] := rfl
theorem soNs_succ {z : Ws} {k : Nat} {x : Tx} (h : z[k]? = some x) : soNs z (k + 1) = soNs z k ++ [soP (x.length % 3)] := by
  unfold soNs
  rw [List.take_add_one, h, List.map_append]; rfl
theorem soNs_len (z : Ws) (k : Nat) : (soNs z k).length ≤ k := by unfold soNs; rw [List.length_map]; exact List.length_take_le _ _
theorem soP_ok (m : Nat) : pthB (soP m) = true ∧ (soP m).length ≤ 3 := by
  unfold soP
  split
  · exact ⟨by decide +kernel, by decide⟩
  · split
    · exact ⟨by decide +kernel, by decide⟩
    · exact ⟨by decide +kernel, by decide⟩
theorem soNs_ok (z : Ws) {k : Nat} (hk : k ≤ 8) : ptsB (soNs z k) = true := by
  unfold ptsB
  rw [Bool.and_eq_true, decide_eq_true_iff]
  refine ⟨Nat.le_trans (soNs_len z k) hk, List.all_eq_true.2 fun x hx => ?_⟩
  unfold soNs at hx
  obtain ⟨y, _, rfl⟩ := List.mem_map.1 hx
  exact (soP_ok _).1
theorem soNs_z (z : Ws) {k : Nat} (hk : k ≤ 8) : WsZ (soNs z k) := by
  refine ⟨by have := soNs_len z k; omega, fun x hx => ?_⟩
  unfold soNs at hx
  obtain ⟨y, _, rfl⟩ := List.mem_map.1 hx
  have := (soP_ok (y.length % 3)).2
  unfold maxLen; omega
def soE (e : Ed) (L : Ws) (p : Tx) : Ed := (e.1, e.2.1, e.2.2.1, L, e.2.2.2.2.1, e.2.2.2.2.2.1, p)
def soY (x : EdA) (oo : Option Addr) (oc : Nat) (L : Ws) (p : Tx) : EdA := (soE x.1 L p, x.2.1, x.2.2.1, x.2.2.2.1, (oo, oc))
theorem so_ok {e : Ed} (h : edOk e = true) {L : Ws} (hL : ptsB L = true) {p : Tx} (hp : plB p = true) : edOk (soE e L p) = true ∧ sgL (soE e L p) = sgL e := by
  unfold edOk at h
  simp only [Bool.and_eq_true] at h
  obtain ⟨h0, h1, h2, h3, h4, h5, h6⟩ := h
  refine ⟨?_, rfl⟩
  unfold edOk soE
  simp only [Bool.and_eq_true]
  exact ⟨h0, h1, h2, h3, hL, h5, hp⟩
theorem so_z {e : Ed} (h : EdZ e) {L : Ws} (hL : WsZ L) {p : Tx} (hp : p.length ≤ maxLen) : EdZ (soE e L p) := ⟨h.a, h.b, h.c, hL, h.k, hp⟩
theorem soY_set3 (x : EdA) (oo ao : Option Addr) (oc cap : Nat) (L : Ws) (y : Tx) (p : Tx) : (ev (soY x oo oc L p)).toArray.setIfInBounds 3 (.slice ao (L.length + 1) cap) = (ev (soY x ao cap (L ++ [y]) p)).toArray := by
  have h : (L ++ [y]).length = L.length + 1 := by simp
  show _ = (#[x.v1, x.v2, x.v3, .slice ao (L ++ [y]).length cap, .string ⟨x.1.2.2.2.2.1.toArray⟩, .bool x.1.2.2.2.2.2.1, .string ⟨p.toArray⟩] : Array Value)
  rw [h]; rfl
theorem soY_set6 (x : EdA) (oo : Option Addr) (oc : Nat) (L : Ws) (p p' : Tx) : (ev (soY x oo oc L p)).toArray.setIfInBounds 6 (.string ⟨p'.toArray⟩) = (ev (soY x oo oc L p')).toArray := rfl
theorem EdR.q'' {w w' : World} {B : Nat} {x : EdA} (h : EdR w B x) (q : Q w w') : EdR w' B x := ⟨own_q h.a q, own_q h.b q, own_q h.c q, own_q h.d q⟩
def soOther : Tx := [111, 116, 104, 101, 114]

set_option maxRecDepth 20000 in
set_option maxHeartbeats 16000000 in
theorem signOther_any (W : World) (x : EdA) (hx : EdO W x) (no : Option Addr) (nn nc : Nat) (z : Ws) (hr0 : IsRowT W no nn nc z) (pb : Bool) :
    Calls Tryd.prog 5 #[edV' x, .slice no nn nc, .bool pb] W fun e w' => e = .returned (.bool true) ∧ Q W w' := by
  obtain ⟨s0, si, sz0, sz1, sz2⟩ : ∃ i0, Tryd.prog.info? 9 = some i0 ∧ i0.zero = some (.string ByteArray.empty) ∧ i0.size = 1 ∧ i0.bytes = 16 := ⟨_, rfl, rfl, rfl, rfl⟩
  obtain ⟨rfl, hcn, hreach, hrow, hzm⟩ := hr0
  have hz47 : z.length ≤ 140737488355328 := by unfold reachBytes at hreach; omega
  have b1 : Blk (bx1' W x) W.heap.size (ev x).toArray 24 := Blk.new W _ _
  have qb : Q W (bx1' W x) := (Q.refl W).alloc _
  have HB1 := hide (fun w2 (q : Q (bx1' W x) w2) => b1.q q)
  have HXO := hide (fun w2 (q : Q (bx1' W x) w2) => hx.q (qb.trans q))
  have HRW := hide (fun w2 (q : Q (bx1' W x) w2) => (RowG.q hrow (qb.trans q) : RowT w2 no z))
  have HZM := hide hzm
  clear b1 hrow hzm hreach hcn hx
  go_enter Tryd.func5, Tryd.ntmps5
  go_wp2_with fail
  change Calls _ _ _ (bx1' W x) _
  generalize bx1' W x = wb at *
  generalize hG : W.heap.size = G at HB1 ⊢
  refine (sawake_any _).mono ?_
  rintro e w1 ⟨rfl, q1⟩
  have x1 := unhide HB1 _ q1
  have c0 : w1.cell? ⟨G, 0, none⟩ = some x.v1 := x1.cell 0 rfl
  have c1 : w1.cell? ⟨G, 1, none⟩ = some x.v2 := x1.cell 1 rfl
  have c2 : w1.cell? ⟨G, 2, none⟩ = some x.v3 := x1.cell 2 rfl
  have c3 : w1.cell? ⟨G, 3, none⟩ = some x.v4 := x1.cell 3 rfl
  have c4 : w1.cell? ⟨G, 4, none⟩ = some (.string ⟨x.1.2.2.2.2.1.toArray⟩) := x1.cell 4 rfl
  have c5 : w1.cell? ⟨G, 5, none⟩ = some (.bool x.1.2.2.2.2.2.1) := x1.cell 5 rfl
  have c6 : w1.cell? ⟨G, 6, none⟩ = some (.string ⟨x.1.2.2.2.2.2.2.toArray⟩) := x1.cell 6 rfl
  have HO1 := hide (sgOf_any x w1 (unhide HXO _ q1).z.1 (unhide HXO _ q1).z.2 (unhide HXO _ q1).c')
  clear x1
  go_wp2_with fail
  refine (unhide HO1).mono ?_
  rintro e w2 ⟨rfl, q2⟩
  have qb2 := q1.trans q2
  have x2 := unhide HB1 _ qb2
  have d0 : w2.cell? ⟨G, 0, none⟩ = some x.v1 := x2.cell 0 rfl
  have d1 : w2.cell? ⟨G, 1, none⟩ = some x.v2 := x2.cell 1 rfl
  have d2 : w2.cell? ⟨G, 2, none⟩ = some x.v3 := x2.cell 2 rfl
  have d3 : w2.cell? ⟨G, 3, none⟩ = some x.v4 := x2.cell 3 rfl
  have d4 : w2.cell? ⟨G, 4, none⟩ = some (.string ⟨x.1.2.2.2.2.1.toArray⟩) := x2.cell 4 rfl
  have d5 : w2.cell? ⟨G, 5, none⟩ = some (.bool x.1.2.2.2.2.2.1) := x2.cell 5 rfl
  have d6 : w2.cell? ⟨G, 6, none⟩ = some (.string ⟨x.1.2.2.2.2.2.2.toArray⟩) := x2.cell 6 rfl
  have HCE := hide (copyE_any x w2 (unhide HXO _ qb2))
  clear c0 c1 c2 c3 c4 c5 c6 x2 HO1
  go_wp2_with fail
  refine (unhide HCE).mono ?_
  rintro e w3 ⟨y, rfl, hy1, hyr, q3⟩
  have qb3 := qb2.trans q3
  have HYR := hide hyr
  have HY1 := hide hy1
  have HYC := hide (EdR.c' hyr)
  have HXZ := hide (unhide HXO wb (Q.refl _)).z.2
  clear d0 d1 d2 d3 d4 d5 d6 HCE hyr hy1 HXO HB1
  go_wp2_with fail
  have hby : Blk (bx1' w3 (soY y none 0 [] y.1.2.2.2.2.2.2)) w3.heap.size (ev (soY y none 0 [] y.1.2.2.2.2.2.2)).toArray 24 := Blk.new _ _ _
  have q34 : Q w3 (bx1' w3 (soY y none 0 [] y.1.2.2.2.2.2.2)) := (Q.refl w3).alloc _
  have hs4 : (bx1' w3 (soY y none 0 [] y.1.2.2.2.2.2.2)).heap.size = w3.heap.size + 1 := size_alloc _ _
  change Code.wp _ _ _ _ (bx1' w3 (soY y none 0 [] y.1.2.2.2.2.2.2))
  generalize bx1' w3 (soY y none 0 [] y.1.2.2.2.2.2.2) = w4 at *
  obtain ⟨N, hN⟩ : ∃ N, w3.heap.size = N := ⟨_, rfl⟩
  have HQN : Hid (∀ wq, But N w4 wq → Q w3 wq ∧ Q wb wq) := fun wq hb => by
    have h : Q w3 wq := Below.trans q34 (hb.below (by omega) q34.size)
    exact ⟨h, qb3.trans h⟩
  have HN := hide hN
  rw [hN] at hby hs4 ⊢
  clear hN
  have HBY := hide hby
  clear hby
  go_loopw [10] (fun i wr => ∃ (k : Nat) (oo : Option Addr) (oc : Nat), k ≤ z.length ∧ k ≤ 8 ∧ i = .int .i64 k ∧ Blk wr N (ev (soY y oo oc (soNs z k) y.1.2.2.2.2.2.2)).toArray 24 ∧ OwnT wr (N + 1) oo oc (soNs z k) ∧ But N w4 wr) (fun i _ => 8 - (intOf i).toNat)
  case atStart => exact ⟨0, none, 0, Nat.zero_le _, Nat.zero_le _, rfl, unhide HBY, World.ownsRow_nil _ _ _ _, But.refl _ _⟩
  case round =>
    obtain ⟨k, oo, oc, hk, hk8, rfl, hbe, hoi, hbut⟩ := hrel
    by_cases hlt : k < z.length ∧ k < 8
    · obtain ⟨hl1, hl2⟩ := hlt
      obtain ⟨t, ht⟩ : ∃ t, z[k]? = some t := ⟨_, List.getElem?_eq_getElem hl1⟩
      have htm : t.length ≤ maxLen := unhide HZM t (List.mem_of_getElem? ht)
      rcases (unhide HRW) wr ((unhide HQN) wr hbut).2 with he | ⟨g2, o2, rfl, hg2, hcell2⟩
      · rw [he] at hl1; simp at hl1
      have cx : wr.cell? ⟨g2, o2 + k, none⟩ = some (.string ⟨t.toArray⟩) := by have := hcell2 k 0 t _ ht (by decide) rfl; simpa using this
      have cxa : ∀ ob, (wr.alloc ob).cell? ⟨g2, o2 + k, none⟩ = some (.string ⟨t.toArray⟩) := fun ob => (((Q.refl wr).alloc ob).cell (p := ⟨g2, o2 + k, none⟩) hg2).trans cx
      have cy : wr.cell? ⟨N, 3, none⟩ = some (.slice oo (soNs z k).length oc) := hbe.cell 3 rfl
      have cya : ∀ ob, (wr.alloc ob).cell? ⟨N, 3, none⟩ = some (.slice oo (soNs z k).length oc) := fun ob => (hbe.q ((Q.refl wr).alloc ob)).cell 3 rfl
      have cyb : ∀ o1 o2, ((wr.alloc o1).alloc o2).cell? ⟨N, 3, none⟩ = some (.slice oo (soNs z k).length oc) := fun o1 o2 => (hbe.q (((Q.refl wr).alloc o1).alloc o2)).cell 3 rfl
      have hsx : (⟨t.toArray⟩ : ByteArray).size = t.length := mk_size' t
      have hkI : (k : Int) < (z.length : Int) := by omega
      have hkI8 : (k : Int) < 8 := by omega
      have HL := hide (soNs_succ ht)
      have hLl := soNs_len z k
      have hfrz : wr.drew.frozen? ⟨N, 3, none⟩ = false := hbe.frz 3
      obtain ⟨m, hm⟩ : ∃ m, t.length % 3 = m := ⟨_, rfl⟩
      have hm3 : m < 3 := by omega
      rw [hm] at HL
      have hu : IntKind.u64.wrap ((⟨t.toArray⟩ : ByteArray).size : Int) = ((⟨t.toArray⟩ : ByteArray).size : Int) := by
        rw [hsx]; unfold maxLen at htm
        show (t.length : Int) % 18446744073709551616 = _; omega
      have hmod : IntKind.i64.wrap (((⟨t.toArray⟩ : ByteArray).size : Int).tmod 3) = (m : Int) := by
        rw [hsx, Int.tmod_eq_emod_of_nonneg (by omega), IntKind.wrap_i64]
        omega
      have hnw : N + 1 ≤ wr.heap.size := by have := hbe.hi; omega
      have HBE := hide hbe
      have HOI := hide hoi
      have HBU := hide hbut
      clear hbe hoi hbut hcell2 ht hm hsx
      generalize (⟨t.toArray⟩ : ByteArray) = xv at *
      obtain rfl | rfl | rfl := lt_three hm3
      · have hmod0 : IntKind.i64.wrap ((xv.size : Int).tmod 3) = 0 := hmod
        clear hmod
        go_upto_region 9 with fail
        go_region_law (refine step_row rfl (.tmp 34) (.tmp 46) 22 rfl (N + 1) 9 s0 _ 1 16 Tryd.underlying22 si sz0 sz1 sz2 rfl (by decide) oo (soNs z k).length oc (lay tv (soNs z k)) (by rfl) (own_q (unhide HOI) (((Q.refl wr).alloc _).alloc _).drew) (some ⟨wr.heap.size + 1, 0, none⟩) 1 1 [.string ⟨#[113]⟩] (by rfl) (src_new2 wr _ #[.string ⟨#[113]⟩] _ rfl) (one_str _) (by unfold maxLen; omega) (by omega) (le_alloc (le_alloc hnw _) _) ?_; intro ao5 cap5 w5 own5 grow5; have hb5 := (unhide HBE).grown (((Q.refl wr).alloc _).alloc _).drew grow5 (fun r hr => by have := ((unhide HOI).lt r hr).1; omega); have HB5 := hide hb5; have e5 : w5.cell? ⟨N, 3, none⟩ = some (.slice oo (soNs z k).length oc) := hb5.cell 3 rfl; have f5 := hb5.frz 3; clear hb5)
        all_goals (
          have ow5 : OwnT w5 (N + 1) ao5 cap5 (soNs z k ++ [[113]]) := by
            show World.ownsRow _ _ _ _ (.slice _ (soNs z k ++ [[113]]).length _) (soNs z k ++ [[113]]).length (lay tv (soNs z k ++ [[113]]))
            rw [lay_snoc, List.length_append]; exact own5
          have hb6 := (unhide HB5).set 3 (.slice ao5 ((soNs z k).length + 1) cap5)
          rw [soY_set3 _ _ _ _ _ _ [113]] at hb6
          have ho6 := own_fr ow5 (Fr.set w5 N 3 (.slice ao5 ((soNs z k).length + 1) cap5)) (fun r hr => by have := (ow5.lt r hr).1; omega)
          have hu6 := (((unhide HBU).q (((Q.refl wr).alloc _).alloc _).drew).grown grow5 (Nat.le_of_eq hs4) (fun r hr => ((unhide HOI).lt r hr).1)).set 3 (.slice ao5 ((soNs z k).length + 1) cap5)
          have HB6 : Hid (Blk (w5.setCell ⟨N, 3, none⟩ (.slice ao5 ((soNs z k).length + 1) cap5)) N (ev (soY y ao5 cap5 (soNs z (k + 1)) y.1.2.2.2.2.2.2)).toArray 24) := by
            show Blk _ _ _ _
            rw [unhide HL]; exact hb6
          have HO6 : Hid (OwnT (w5.setCell ⟨N, 3, none⟩ (.slice ao5 ((soNs z k).length + 1) cap5)) (N + 1) ao5 cap5 (soNs z (k + 1))) := by
            show OwnT _ _ _ _ _
            rw [unhide HL]; exact ho6
          have HU6 := hide hu6
          clear own5 grow5 ow5 hb6 ho6 hu6 HB5 e5 f5
          go_wp2
          go_roundw
          case rel => exact ⟨k + 1, ao5, cap5, by omega, by omega, by go_num, unhide HB6, unhide HO6, unhide HU6⟩
          case measure => simp [intOf]; omega)
      · have hmod0 : IntKind.i64.wrap ((xv.size : Int).tmod 3) = 1 := hmod
        clear hmod
        go_upto_region 9 with fail
        go_region_law (refine step_row rfl (.tmp 34) (.tmp 46) 22 rfl (N + 1) 9 s0 _ 1 16 Tryd.underlying22 si sz0 sz1 sz2 rfl (by decide) oo (soNs z k).length oc (lay tv (soNs z k)) (by rfl) (own_q (unhide HOI) (((Q.refl wr).alloc _).alloc _).drew) (some ⟨wr.heap.size + 1, 0, none⟩) 1 1 [.string ⟨#[114, 47, 115]⟩] (by rfl) (src_new2 wr _ #[.string ⟨#[114, 47, 115]⟩] _ rfl) (one_str _) (by unfold maxLen; omega) (by omega) (le_alloc (le_alloc hnw _) _) ?_; intro ao5 cap5 w5 own5 grow5; have hb5 := (unhide HBE).grown (((Q.refl wr).alloc _).alloc _).drew grow5 (fun r hr => by have := ((unhide HOI).lt r hr).1; omega); have HB5 := hide hb5; have e5 : w5.cell? ⟨N, 3, none⟩ = some (.slice oo (soNs z k).length oc) := hb5.cell 3 rfl; have f5 := hb5.frz 3; clear hb5)
        all_goals (
          have ow5 : OwnT w5 (N + 1) ao5 cap5 (soNs z k ++ [[114, 47, 115]]) := by
            show World.ownsRow _ _ _ _ (.slice _ (soNs z k ++ [[114, 47, 115]]).length _) (soNs z k ++ [[114, 47, 115]]).length (lay tv (soNs z k ++ [[114, 47, 115]]))
            rw [lay_snoc, List.length_append]; exact own5
          have hb6 := (unhide HB5).set 3 (.slice ao5 ((soNs z k).length + 1) cap5)
          rw [soY_set3 _ _ _ _ _ _ [114, 47, 115]] at hb6
          have ho6 := own_fr ow5 (Fr.set w5 N 3 (.slice ao5 ((soNs z k).length + 1) cap5)) (fun r hr => by have := (ow5.lt r hr).1; omega)
          have hu6 := (((unhide HBU).q (((Q.refl wr).alloc _).alloc _).drew).grown grow5 (Nat.le_of_eq hs4) (fun r hr => ((unhide HOI).lt r hr).1)).set 3 (.slice ao5 ((soNs z k).length + 1) cap5)
          have HB6 : Hid (Blk (w5.setCell ⟨N, 3, none⟩ (.slice ao5 ((soNs z k).length + 1) cap5)) N (ev (soY y ao5 cap5 (soNs z (k + 1)) y.1.2.2.2.2.2.2)).toArray 24) := by
            show Blk _ _ _ _
            rw [unhide HL]; exact hb6
          have HO6 : Hid (OwnT (w5.setCell ⟨N, 3, none⟩ (.slice ao5 ((soNs z k).length + 1) cap5)) (N + 1) ao5 cap5 (soNs z (k + 1))) := by
            show OwnT _ _ _ _ _
            rw [unhide HL]; exact ho6
          have HU6 := hide hu6
          clear own5 grow5 ow5 hb6 ho6 hu6 HB5 e5 f5
          go_wp2
          go_roundw
          case rel => exact ⟨k + 1, ao5, cap5, by omega, by omega, by go_num, unhide HB6, unhide HO6, unhide HU6⟩
          case measure => simp [intOf]; omega)
      · have hmod0 : IntKind.i64.wrap ((xv.size : Int).tmod 3) = 2 := hmod
        clear hmod
        go_upto_region 9 with fail
        go_region_law (refine step_row rfl (.tmp 34) (.tmp 46) 22 rfl (N + 1) 9 s0 _ 1 16 Tryd.underlying22 si sz0 sz1 sz2 rfl (by decide) oo (soNs z k).length oc (lay tv (soNs z k)) (by rfl) (own_q (unhide HOI) (((Q.refl wr).alloc _).alloc _).drew) (some ⟨wr.heap.size + 1, 0, none⟩) 1 1 [.string ⟨#[116, 46, 111]⟩] (by rfl) (src_new2 wr _ #[.string ⟨#[116, 46, 111]⟩] _ rfl) (one_str _) (by unfold maxLen; omega) (by omega) (le_alloc (le_alloc hnw _) _) ?_; intro ao5 cap5 w5 own5 grow5; have hb5 := (unhide HBE).grown (((Q.refl wr).alloc _).alloc _).drew grow5 (fun r hr => by have := ((unhide HOI).lt r hr).1; omega); have HB5 := hide hb5; have e5 : w5.cell? ⟨N, 3, none⟩ = some (.slice oo (soNs z k).length oc) := hb5.cell 3 rfl; have f5 := hb5.frz 3; clear hb5)
        all_goals (
          have ow5 : OwnT w5 (N + 1) ao5 cap5 (soNs z k ++ [[116, 46, 111]]) := by
            show World.ownsRow _ _ _ _ (.slice _ (soNs z k ++ [[116, 46, 111]]).length _) (soNs z k ++ [[116, 46, 111]]).length (lay tv (soNs z k ++ [[116, 46, 111]]))
            rw [lay_snoc, List.length_append]; exact own5
          have hb6 := (unhide HB5).set 3 (.slice ao5 ((soNs z k).length + 1) cap5)
          rw [soY_set3 _ _ _ _ _ _ [116, 46, 111]] at hb6
          have ho6 := own_fr ow5 (Fr.set w5 N 3 (.slice ao5 ((soNs z k).length + 1) cap5)) (fun r hr => by have := (ow5.lt r hr).1; omega)
          have hu6 := (((unhide HBU).q (((Q.refl wr).alloc _).alloc _).drew).grown grow5 (Nat.le_of_eq hs4) (fun r hr => ((unhide HOI).lt r hr).1)).set 3 (.slice ao5 ((soNs z k).length + 1) cap5)
          have HB6 : Hid (Blk (w5.setCell ⟨N, 3, none⟩ (.slice ao5 ((soNs z k).length + 1) cap5)) N (ev (soY y ao5 cap5 (soNs z (k + 1)) y.1.2.2.2.2.2.2)).toArray 24) := by
            show Blk _ _ _ _
            rw [unhide HL]; exact hb6
          have HO6 : Hid (OwnT (w5.setCell ⟨N, 3, none⟩ (.slice ao5 ((soNs z k).length + 1) cap5)) (N + 1) ao5 cap5 (soNs z (k + 1))) := by
            show OwnT _ _ _ _ _
            rw [unhide HL]; exact ho6
          have HU6 := hide hu6
          clear own5 grow5 ow5 hb6 ho6 hu6 HB5 e5 f5
          go_wp2
          go_roundw
          case rel => exact ⟨k + 1, ao5, cap5, by omega, by omega, by go_num, unhide HB6, unhide HO6, unhide HU6⟩
          case measure => simp [intOf]; omega)
    · have HK := hide hk8
      have hbe6 : wr.cell? ⟨N, 6, none⟩ = some (.string ⟨y.1.2.2.2.2.2.2.toArray⟩) := hbe.cell 6 rfl
      have hfz6 : wr.frozen? ⟨N, 6, none⟩ = false := hbe.frz 6
      have HBE := hide hbe
      have HOI := hide hoi
      have hqr := (unhide HQN) wr hbut
      have qW : Q W wr := qb.trans hqr.2
      have HQR := hide hqr.1
      have hsplit : ((k : Int) < (z.length : Int) ∧ ¬ ((k : Int) < 8)) ∨ ¬ ((k : Int) < (z.length : Int)) := by omega
      clear hbe hoi hbut hqr
      have HFIN : Hid (∀ (W' : World) (p : Tx), Fr (fun g => g = N) wr W' → p.length ≤ maxLen → Calls Tryd.prog 8 #[edV' (soY y oo oc (soNs z k) p)] W' fun e w' => e = .returned (.tuple #[.string ⟨(sgS (soE x.1 (soNs z k) p)).toArray⟩, .int .i64 (sgE (soE x.1 (soNs z k) p))]) ∧ Q W' w') := by
        intro W' p hf hp
        have hyr : EdR W' w2.heap.size y := EdR.fr (EdR.q'' (unhide HYR) (unhide HQR)) hf (fun r hr => by have := ((unhide HYR).lt r hr).2; have := HN.out; omega)
        have hrd : EdRd W' (soY y oo oc (soNs z k) p) := ⟨(EdR.rd hyr).a, (EdR.rd hyr).b, (EdR.rd hyr).c, OwnT.row (own_fr (unhide HOI) hf (fun r hr => by have := ((unhide HOI).lt r hr).1; omega))⟩
        have hz : EdZ (soY y oo oc (soNs z k) p).1 := by
          show EdZ (soE y.1 (soNs z k) p)
          rw [unhide HY1]; exact so_z (unhide HXZ) (soNs_z z (unhide HK)) hp
        have hc := unhide HYC
        have h := sgOf_any (soY y oo oc (soNs z k) p) W' hrd hz ⟨hc.a, hc.b, hc.c⟩
        rw [show (soY y oo oc (soNs z k) p).1 = soE x.1 (soNs z k) p by show soE y.1 _ _ = _; rw [unhide HY1]] at h
        exact h
      have F1 : Fr (fun g => g = N) wr (wr.setCell ⟨N, 6, none⟩ (.string ⟨#[]⟩)) := Fr.set wr N 6 _
      have B1 : Blk (wr.setCell ⟨N, 6, none⟩ (.string ⟨#[]⟩)) N (ev (soY y oo oc (soNs z k) [])).toArray 24 := (unhide HBE).set 6 _
      have F2 : Fr (fun g => g = N) wr ((wr.setCell ⟨N, 6, none⟩ (.string ⟨#[]⟩)).setCell ⟨N, 6, none⟩ (.string ⟨#[111, 116, 104, 101, 114]⟩)) := F1.trans (Fr.set _ N 6 _)
      have B2 : Blk ((wr.setCell ⟨N, 6, none⟩ (.string ⟨#[]⟩)).setCell ⟨N, 6, none⟩ (.string ⟨#[111, 116, 104, 101, 114]⟩)) N (ev (soY y oo oc (soNs z k) soOther)).toArray 24 := B1.set 6 _
      have HQF : Hid (∀ W', Fr (fun g => g = N) wr W' → Q W W') := by
        intro W' hf
        have h : Q w3 W' := Below.trans (unhide HQR) (hf.below (unhide HQR).size (fun g hg => by rw [hg, ← HN.out]; exact Nat.le_refl _))
        exact (qb.trans qb3).trans h
      have HF1 := hide F1
      have HF2 := hide F2
      have HB1 := hide B1
      have HB2 := hide B2
      clear F1 F2 B1 B2 HBE
      cases pb
      · rcases hsplit with ⟨g1, g2⟩ | g1
        all_goals (
          go_upto_region 13 with fail
          have HS := hide (unhide HFIN _ [] (unhide HF1) (Nat.zero_le _))
          have HQ := hide (unhide HQF _ (unhide HF1))
          generalize wr.setCell ⟨N, 6, none⟩ (.string ⟨#[]⟩) = wf at *
          have m0 : wf.cell? ⟨N, 0, none⟩ = some y.v1 := (unhide HB1).cell 0 rfl
          have m1 : wf.cell? ⟨N, 1, none⟩ = some y.v2 := (unhide HB1).cell 1 rfl
          have m2 : wf.cell? ⟨N, 2, none⟩ = some y.v3 := (unhide HB1).cell 2 rfl
          have m3 : wf.cell? ⟨N, 3, none⟩ = some (.slice oo (soNs z k).length oc) := (unhide HB1).cell 3 rfl
          have m4 : wf.cell? ⟨N, 4, none⟩ = some (.string ⟨y.1.2.2.2.2.1.toArray⟩) := (unhide HB1).cell 4 rfl
          have m5 : wf.cell? ⟨N, 5, none⟩ = some (.bool y.1.2.2.2.2.2.1) := (unhide HB1).cell 5 rfl
          have m6 : wf.cell? ⟨N, 6, none⟩ = some (.string ⟨[].toArray⟩) := (unhide HB1).cell 6 rfl
          cases hox : edOk x.1
          · obtain ⟨t1, t2⟩ := sg_no hox
            rw [t1, t2]
            clear t1 t2 hox
            generalize (⟨(sgS (soE x.1 (soNs z k) [])).toArray⟩ : ByteArray) = S2 at *
            generalize sgE (soE x.1 (soNs z k) []) = E2 at *
            go_wp2_with (first | (go_at_call 8; refine (unhide HS).mono ?_; rintro e wg ⟨rfl, qg⟩) | (go_at_call 10; refine (num_any _ _).mono ?_; rintro e wh ⟨rfl, rfl⟩))
            go_ret
            exact ⟨rfl, (unhide HQ).trans qg⟩
          · obtain ⟨t1, t2⟩ := sg_yes hox
            obtain ⟨k1, k2⟩ := so_ok hox (soNs_ok z (unhide HK)) (p := []) (by decide +kernel)
            obtain ⟨t3, t4⟩ := sg_yes k1
            rw [t3, k2, t4] at HS
            rw [t1, t2]
            clear t1 t2 t3 t4 k1 k2 hox
            generalize (⟨(sgL x.1).toArray⟩ : ByteArray) = S1 at *
            have n1 := txt_eq S1
            go_wp2_with (first | (go_at_call 8; refine (unhide HS).mono ?_; rintro e wg ⟨rfl, qg⟩) | (go_at_call 10; refine (num_any _ _).mono ?_; rintro e wh ⟨rfl, rfl⟩))
            go_ret
            exact ⟨rfl, (unhide HQ).trans qg⟩)
      · rcases hsplit with ⟨g1, g2⟩ | g1
        all_goals (
          go_upto_region 13 with fail
          have HS := hide (unhide HFIN _ soOther (unhide HF2) (by decide))
          have HQ := hide (unhide HQF _ (unhide HF2))
          generalize (wr.setCell ⟨N, 6, none⟩ (.string ⟨#[]⟩)).setCell ⟨N, 6, none⟩ (.string ⟨#[111, 116, 104, 101, 114]⟩) = wf at *
          have m0 : wf.cell? ⟨N, 0, none⟩ = some y.v1 := (unhide HB2).cell 0 rfl
          have m1 : wf.cell? ⟨N, 1, none⟩ = some y.v2 := (unhide HB2).cell 1 rfl
          have m2 : wf.cell? ⟨N, 2, none⟩ = some y.v3 := (unhide HB2).cell 2 rfl
          have m3 : wf.cell? ⟨N, 3, none⟩ = some (.slice oo (soNs z k).length oc) := (unhide HB2).cell 3 rfl
          have m4 : wf.cell? ⟨N, 4, none⟩ = some (.string ⟨y.1.2.2.2.2.1.toArray⟩) := (unhide HB2).cell 4 rfl
          have m5 : wf.cell? ⟨N, 5, none⟩ = some (.bool y.1.2.2.2.2.2.1) := (unhide HB2).cell 5 rfl
          have m6 : wf.cell? ⟨N, 6, none⟩ = some (.string ⟨soOther.toArray⟩) := (unhide HB2).cell 6 rfl
          cases hox : edOk x.1
          · obtain ⟨t1, t2⟩ := sg_no hox
            rw [t1, t2]
            clear t1 t2 hox
            generalize (⟨(sgS (soE x.1 (soNs z k) soOther)).toArray⟩ : ByteArray) = S2 at *
            generalize sgE (soE x.1 (soNs z k) soOther) = E2 at *
            go_wp2_with (first | (go_at_call 8; refine (unhide HS).mono ?_; rintro e wg ⟨rfl, qg⟩) | (go_at_call 10; refine (num_any _ _).mono ?_; rintro e wh ⟨rfl, rfl⟩))
            go_ret
            exact ⟨rfl, (unhide HQ).trans qg⟩
          · obtain ⟨t1, t2⟩ := sg_yes hox
            obtain ⟨k1, k2⟩ := so_ok hox (soNs_ok z (unhide HK)) (p := soOther) (by decide +kernel)
            obtain ⟨t3, t4⟩ := sg_yes k1
            rw [t3, k2, t4] at HS
            rw [t1, t2]
            clear t1 t2 t3 t4 k1 k2 hox
            generalize (⟨(sgL x.1).toArray⟩ : ByteArray) = S1 at *
            have n1 := txt_eq S1
            go_wp2_with (first | (go_at_call 8; refine (unhide HS).mono ?_; rintro e wg ⟨rfl, qg⟩) | (go_at_call 10; refine (num_any _ _).mono ?_; rintro e wh ⟨rfl, rfl⟩))
            go_ret
            exact ⟨rfl, (unhide HQ).trans qg⟩)

theorem Tryd.laidOut : laidOutB Tryd.prog = true := by kernel_rfl
set_option maxRecDepth 100000 in
theorem signOther_lifted (os : Os) (started : os.Started) (H : Type) (enc : TypeId × Value → H) :
    ReturnsInHanded {} Tryd.checked os 5 .any (fun w args => (Rows.signOtherSpec.pre enc Tryd.prog Tryd.f5 [] false w args ∧ laidMetH Tryd.prog Rows.signOtherRow.laid w) ∧ sizedMet enc Tryd.prog Tryd.f5 (OpenSpec.ofChange Rows.signOtherSpec) false w args) (Rows.signOtherSpec.post enc Tryd.prog Tryd.f5 false true false false) := by
  refine returnsInHanded_of_change_and (C := Tryd.checked) (X := fun w _ => laidMetH Tryd.prog Rows.signOtherRow.laid w) (fun _ _ _ hh h => h.of_heap hh) Tryd.own started (by kernel_rfl) Tryd.func5
    (ChangeSpec.witness_shaped (enc := enc) (C := Tryd.checked) (os := os) (X := fun w _ => laidMetH Tryd.prog Rows.signOtherRow.laid w) false (World.laidAll Tryd.prog os Rows.signOtherRow.laid) #[.agg #[.slice none 0 0, .slice none 0 0, .slice none 0 0, .slice none 0 0, .string ByteArray.empty, .bool false, .string ByteArray.empty], .slice none 0 0, .bool false] 8 (World.laidAll_os _ _ _)
      (World.shaped_of_ZipB (by kernel_rfl) (by kernel_rfl)) (by kernel_rfl) (by kernel_rfl) (by kernel_rfl)
      (by rw [MakeChecks.laidMetH_plain _ _ _ (by kernel_rfl)]; exact laidMet_laidAll _ (by kernel_rfl) (by kernel_rfl))) ?_
  intro W base args ds gs before hval0 hW _ hsz0 hL _
  have hval : ∀ (j : Nat) t v, Tryd.f5.params[j]? = some t → args[j]? = some v → Value.okWide Tryd.prog W .any base t v := hval0
  have hW' := hW
  obtain ⟨p, q, hA0, hV, rfl, hfz, hnd⟩ := hW
  have hA : DataW.TrodAll enc Tryd.prog W 0 (fun _ => true) true Tryd.f5.params.toList args.toList ds p := hA0
  rw [Tryd.params5] at hA hval
  rw [Tryd.params5] at hsz0
  obtain ⟨v0, vs0, d0, ds0, p0, q0, hargs, rfl, rfl, h0, r0⟩ := trodAll_cons hA
  obtain ⟨v1, vs1, d1, ds1, p1, q1, rfl, rfl, rfl, h1, r1⟩ := trodAll_cons r0
  obtain ⟨v2, vs2, d2, ds2, p2, q2, rfl, rfl, rfl, h2, r2⟩ := trodAll_cons r1
  obtain ⟨rfl, rfl, rfl⟩ := trodAll_nil r2
  obtain rfl : args = #[v0, v1, v2] := by cases args; simp_all
  obtain ⟨rfl, rfl⟩ := trodVars_none hV
  have k0 := h0
  have lt0 : ∀ x ∈ p0, x.block < W.heap.size := by obtain ⟨m, hm⟩ := k0; exact DataW.trod_lt m _ _ _ hm
  obtain ⟨x0, rfl, w0⟩ := Tryd.is_edgeV (hval 0 24 v0 rfl rfl) h0 (fun m hm => by simpa using List.all_eq_true.1 hsz0 m (DataW.weights_mem_each (j := 0) (t := 24) rfl rfl m hm))
  obtain ⟨a1, len1, cap1, rfl⟩ := okWide_slice Tryd.underlying22 (hval 1 22 v1 rfl rfl)
  have k1 := h1
  have lt1 : ∀ x ∈ p1, x.block < W.heap.size := by obtain ⟨m, hm⟩ := k1; exact DataW.trod_lt m _ _ _ hm
  obtain ⟨z1, w1⟩ : ∃ zs, IsRowT W a1 len1 cap1 zs := Tryd.is_rowT h1 (fun elems spare e => by subst e; exact sized_slice hsz0 (j := 1) (t := 22) rfl rfl Tryd.underlying22)
  obtain ⟨a2, rfl, rfl, rfl⟩ := open_bool Tryd.underlying4 (hval 2 4 v2 rfl rfl) h2
  clear hA0 hval0
  refine (signOther_any W x0 w0 a1 len1 cap1 z1 w1 a2).mono fun e W' ⟨he, bel⟩ => ?_
  subst he
  exact ⟨_, rfl, _, _, _, [], _, [], hW', trodAll_mk1 (shut_bool Tryd.underlying4 _), (trodAll_cons_mk (Below.trod Tryd.laidOut (by kernel_rfl) (of_decide_eq_true (by kernel_rfl)) k0 bel lt0) (trodAll_cons_mk (Below.trod Tryd.laidOut (by kernel_rfl) (of_decide_eq_true (by kernel_rfl)) k1 bel lt1) (trodAll_cons_mk (shut_bool Tryd.underlying4 a2) trodAll_mk0))), rfl, bel.frame _, fun h => by cases h⟩

theorem signOther_holds : Rows.SignOtherSaid :=
  OpenClaim.holds_of_wide 5 Tryd.f5 rfl rfl rfl rfl rfl rfl rfl ⟨rfl, rfl, rfl, rfl, rfl⟩ rfl rfl rfl rfl rfl (by kernel_rfl) Tryd.func5 (by kernel_rfl)
    (of_decide_eq_true (by kernel_rfl)) (by unfold Func.isWrapper; first | (rw [if_pos (by decide +kernel)]; kernel_rfl) | (rw [if_neg (by decide +kernel)]; exact ⟨rfl, rfl⟩))
    (fun os started H enc _ => signOther_lifted os started H enc)
theorem signOther_card : Rows.SignOtherCardSaid :=
  Claim7.holds_tied_plain_at .later [] [.data, .pinned] true (true, "d4e89a7e85c36141bb06b5297fcb65e899c755e51bbc01a6754520a1fa7ca3c1") false signOther_holds (fun _ h => by cases h) (by kernel_rfl) (fun _ h => by cases h) signOther_row_tie rfl ⟨rfl, rfl⟩ (by kernel_rfl) rfl
    (fun f fn hf hfn => by
      obtain rfl : f = 5 := Option.some.inj ((show Tryd.prog.funcNamed Rows.signOtherRow.func = some 5 by kernel_rfl).symm.trans hf) |>.symm
      obtain rfl : fn = Tryd.f5 := (Option.some.inj (Tryd.func5.symm.trans hfn)).symm
      exact ⟨by kernel_rfl, fun j t ht => by
        rw [Tryd.params5] at ht
        have hm : t ∈ [24, 22, 4] := by simpa using Array.mem_of_getElem? ht
        have hall : ([24, 22, 4].all fun u => !Tryd.prog.wantsStandIn u) = true := by kernel_rfl
        exact (show Tryd.prog.wantsStandIn t = false by simpa using List.all_eq_true.1 hall t hm)⟩)
    (by kernel_rfl)
#print axioms signOther_card

end Go.Proofs.YtbfhliocckkbmaaDoor
