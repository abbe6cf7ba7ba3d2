/- OrderPlain, whole: edges that need nobody stand as they are, whatever the number and the names; no conditions. -/
import Derived.Test.YtfadjppokbolhaaDoorRows
import Derived.Test.YtfadjppokbolhaaDoorCards
import Derived.Test.YtfadjppokbolhaaDoorTie
import Derived.LaidMore
import Derived.Lay
import Derived.SevenTiedAt
import Derived.Stop.Joined
import Derived.ProofKit
import Derived.OpenShut
import Derived.ShutString
import Derived.ChangeOld
import Derived.Below
import Derived.SizedLaws
import Derived.Test.YtfadjppokbolhaaDoorOrAwake
import Derived.Test.YtfadjppokbolhaaDoorOrPlPlain
import Derived.Test.YtfadjppokbolhaaDoorGfStep
import Derived.Test.YtfadjppokbolhaaDoorGfRPth
import Derived.Test.YtfadjppokbolhaaDoorWdOpen
import Derived.Test.YtfadjppokbolhaaDoorBitPlain
import Derived.Test.YtfadjppokbolhaaDoorStrOne
namespace Go.Proofs.YtfadjppokbolhaaDoor
open Go.ChangeShapes Go.WideShapes Go.ChangeAt Go.RowKit

theorem fld_graph (a b c : Option Addr) (n1 n2 n3 n4 n5 n6 : Nat) : ∀ w', (Instr.field 26 (.agg #[.slice a n1 n2, .slice b n3 n4, .slice c n5 n6]) 0).run Tryd.prog w' = .ok (.slice a n1 n2) w' := fun _ => by kernel_rfl
theorem EdR.q'' {w w' : World} {B : Nat} {x : EdA} (h : EdR w B x) (q : Q w w') : EdR w' B x := ⟨own_q h.a q, own_q h.b q, own_q h.c q, own_q h.d q⟩
theorem own_of_blk' {w : World} {g B n size : Nat} {cs : Array Value} {t : TypeId} {xs : List Value} (h : Blk w g cs t) (hx : cs = xs.toArray) (hn : xs.length = n * size) (hb : B ≤ g) (hm : n ≤ maxLen) : w.ownsRow B t size (.slice (some ⟨g, 0, none⟩) n n) n xs := by
  subst hx
  exact ⟨hn, Or.inr ⟨g, n, _, rfl, hb, h, Nat.le_refl _, hm, by simpa using hn, by rw [← hn]; simp⟩⟩
theorem ocN_eq {j : Nat} {c : UInt8} (h : (c.toNat : Int) = 97 + j) : (⟨#[111]⟩ ++ ⟨#[c]⟩ : ByteArray) = ⟨(ocN j).toArray⟩ := by
  have e : c = UInt8.ofNat (97 + j) := by apply UInt8.toNat.inj; rw [UInt8.toNat_ofNat']; have := c.toNat_lt; omega
  subst e
  exact of_bl (by rw [bl_app]; rfl)
theorem ghz_es {es : List Ed} (h : ∀ e ∈ es, EdZ e) (hl : es.length ≤ 4096) : GhZ (es, [], []) :=
  ⟨h, by show es.length ≤ _; omega, Nat.zero_le _, fun x hx => (by cases hx), wsz_of rfl⟩

def opY (n : Nat) (io : Option Addr) (ic : Nat) (L : Ws) (i : Nat) : EdA := (opE L i, (some ⟨n + 1, 0, none⟩, 1), (io, ic), (none, 0), (none, 0))
def opL (n : Nat) (p : Int) (S : ByteArray) : List (Array Value × TypeId) := [(#[.int .u8 p], 5), (#[.string S], 9), (#[.slice (some ⟨n + 1, 0, none⟩) 1 1, .slice none 0 0, .slice none 0 0, .slice none 0 0, .string ⟨#[120]⟩, .bool false, .string ⟨#[]⟩], 38)]
theorem opY_set (n : Nat) (io : Option Addr) (ic : Nat) (ao : Option Addr) (cap : Nat) (L : Ws) (x : Tx) (i : Nat) : (ev (opY n io ic L i)).toArray.setIfInBounds 1 (.slice ao (L.length + 1) cap) = (ev (opY n ao cap (L ++ [x]) i)).toArray := by
  have h : (L ++ [x]).length = L.length + 1 := by simp
  show _ = (#[.slice (some ⟨n + 1, 0, none⟩) 1 1, .slice ao (L ++ [x]).length cap, .slice none 0 0, .slice none 0 0, .string ⟨#[120]⟩, .bool false, .string ⟨#[]⟩] : Array Value)
  rw [h]; rfl
theorem al_size : ∀ (l : List (Array Value × TypeId)) (w : World), (al w l).heap.size = w.heap.size + l.length
  | [], w => rfl
  | x :: r, w => by
    show (al (w.alloc _) r).heap.size = _
    rw [al_size r, size_alloc, List.length_cons]; omega

set_option maxRecDepth 20000 in
set_option maxHeartbeats 16000000 in
theorem orderPlain_any (w : World) (a : Int) (_ : (Lit.int .i64 a).wf = true) (no : Option Addr) (nn nc : Nat) (z : Ws) (hr0 : IsRowT w no nn nc z) :
    Calls Tryd.prog 6 #[.int .i64 a, .slice no nn nc] w fun e w' => e = .returned (.bool true) ∧ Q w w' := by
  obtain ⟨i0, hi, hz0, hz1, hz2⟩ : ∃ i0, Tryd.prog.info? 38 = some i0 ∧ i0.zero = some (.agg #[.slice none 0 0, .slice none 0 0, .slice none 0 0, .slice none 0 0, .string ByteArray.empty, .bool false, .string ByteArray.empty]) ∧ i0.size = 7 ∧ i0.bytes = 136 := ⟨_, rfl, rfl, rfl, rfl⟩
  obtain ⟨j0, ji, jz0, jz1, jz2⟩ : ∃ i0, Tryd.prog.info? 3 = some i0 ∧ i0.zero = some (.int .i64 0) ∧ i0.size = 1 ∧ i0.bytes = 8 := ⟨_, rfl, rfl, rfl, rfl⟩
  obtain ⟨s0, si, sz0, sz1, sz2⟩ : ∃ i0, Tryd.prog.info? 9 = some i0 ∧ i0.zero = some (.string ByteArray.empty) ∧ i0.size = 1 ∧ i0.bytes = 16 := ⟨_, rfl, rfl, rfl, rfl⟩
  have h15 := and15 a
  obtain ⟨k, hk⟩ : ∃ d : Nat, a % 16 = (d : Int) := ⟨(a % 16).toNat, by omega⟩
  have hk16 : k < 16 := by omega
  rw [hk] at h15
  clear hk
  obtain ⟨rfl, hcn, hreach, hrow, hzm⟩ := hr0
  have hz47 : z.length ≤ 140737488355328 := by unfold reachBytes at hreach; omega
  have HRZ := hide hrow
  have HZM := hide hzm
  clear hrow hzm hreach hcn
  go_enter Tryd.func6, Tryd.ntmps6
  go_wp2_with fail
  refine (oawake_any w).mono ?_
  rintro e w1 ⟨rfl, q1⟩
  have HB0 := hide (Blk.new w1 #[.slice none 0 0, .slice none 0 0, .slice none 0 0] 26)
  have qa := (Q.refl w1).alloc (.cells #[.slice none 0 0, .slice none 0 0, .slice none 0 0] 26)
  have hlt0 : w1.heap.size < (w1.alloc (.cells #[.slice none 0 0, .slice none 0 0, .slice none 0 0] 26)).heap.size := (unhide HB0).hi
  go_wp2_with fail
  generalize w1.alloc (.cells #[.slice none 0 0, .slice none 0 0, .slice none 0 0] 26) = wb at *
  go_loopw [7, 8] (fun s i wr => ∃ (m : Nat) (fs : List EdA) (ao : Option Addr) (cap : Nat) (ns : List Nat) (bo : Option Addr) (bc : Nat), m ≤ k ∧ i = .int .i64 m ∧ fs.length ≤ m ∧ s = .slice bo ns.length bc ∧ ns.length ≤ m ∧ OwnI wr wb.heap.size bo bc ns ∧ Blk wr w1.heap.size #[.slice ao fs.length cap, .slice none 0 0, .slice none 0 0] 26 ∧ wr.ownsRow wb.heap.size 38 7 (.slice ao fs.length cap) fs.length (lay ev fs) ∧ Q w1 wr ∧ wb.heap.size ≤ wr.heap.size ∧ Hid (fs.map Prod.fst = opR (opNs z 8) m ∧ (∀ y ∈ fs, EdR wr wb.heap.size y) ∧ ns = List.range m)) (fun _ i _ => k - (intOf i).toNat)
  case atStart => exact ⟨0, [], none, 0, [], none, 0, Nat.zero_le _, rfl, Nat.le_refl _, rfl, Nat.le_refl _, World.ownsRow_nil _ _ _ _, unhide HB0, World.ownsRow_nil _ _ _ _, qa, Nat.le_refl _, ⟨rfl, fun y hy => (by cases hy), rfl⟩⟩
  case round =>
    obtain ⟨m, fs, ao, cap, ns, bo, bc, hm, rfl, hfl, rfl, hnl, hon, hblk, hown, hq, hbs, HY⟩ := hrel
    have HBK := hide hblk
    have HON := hide hon
    have HOW := hide hown
    clear hblk hon hown
    by_cases hlt : m < k
    · obtain ⟨c, hcc, hcv⟩ := str_int (97 + (m : Int)) (by omega) (by omega)
      have HCC := hide hcc
      clear hcc
      go_upto_region 10 with fail
      change Code.wp _ _ _ _ (al wr (opL wr.heap.size (97 + (m : Int)) (⟨#[111]⟩ ++ ⟨#[c]⟩)))
      have hal := fun i x hx => al_blk (opL wr.heap.size (97 + (m : Int)) (⟨#[111]⟩ ++ ⟨#[c]⟩)) wr i x hx
      have a1 := hal 1 _ rfl
      have a2 := hal 2 _ rfl
      have qc := al_q (opL wr.heap.size (97 + (m : Int)) (⟨#[111]⟩ ++ ⟨#[c]⟩)) wr
      have hsz := Nat.le_of_eq (al_size (opL wr.heap.size (97 + (m : Int)) (⟨#[111]⟩ ++ ⟨#[c]⟩)) wr)
      clear hal hcv
      generalize al wr (opL wr.heap.size (97 + (m : Int)) (⟨#[111]⟩ ++ ⟨#[c]⟩)) = wc at *
      have a1 : Blk wc (wr.heap.size + 1) #[.string ⟨(ocN m).toArray⟩] 9 := by rw [← ocN_eq (unhide HCC)]; exact a1
      have HA1 := hide a1
      have HA2 : Hid (Blk wc (wr.heap.size + 1 + 1) (ev (opY wr.heap.size none 0 (opNs z 0) m)).toArray 38) := a2
      have hsz : wc.heap.size ≤ wr.heap.size + 3 := hsz
      obtain ⟨n, hn⟩ : ∃ n, wr.heap.size = n := ⟨_, rfl⟩
      have HN := hide hn
      rw [hn] at HA1 HA2 hbs hsz ⊢
      clear a1 a2 hn
      have hq' := hq
      have HQN : Hid (∀ wq, But (n + 1 + 1) wc wq → Q w1 wq ∧ Q wr wq) := fun wq hb => by
        have h : Q wr wq := Below.trans qc (hb.below (by rw [HN.out]; omega) qc.size)
        exact ⟨hq.trans h, h⟩
      go_wp2_with fail
      go_loopw [10] (fun i wq => ∃ (j : Nat) (io : Option Addr) (ic : Nat), j ≤ z.length ∧ j ≤ 8 ∧ i = .int .i64 j ∧ Blk wq (n + 1 + 1) (ev (opY n io ic (opNs z j) m)).toArray 38 ∧ OwnT wq (n + 3) io ic (opNs z j) ∧ But (n + 1 + 1) wc wq) (fun i _ => 8 - (intOf i).toNat)
      case atStart => exact ⟨0, none, 0, Nat.zero_le _, Nat.zero_le _, rfl, unhide HA2, World.ownsRow_nil _ _ _ _, But.refl _ _⟩
      case round =>
        obtain ⟨j, io, ic, hj, hj8, rfl, hbe, hoi, hbut⟩ := hrel
        have qw1 : Q w1 wr := ((unhide HQN) wr hbut).1
        by_cases hlt2 : j < z.length ∧ j < 8
        · obtain ⟨hl1, hl2⟩ := hlt2
          obtain ⟨x, hx⟩ : ∃ x, z[j]? = some x := ⟨_, List.getElem?_eq_getElem hl1⟩
          have hxm : x.length ≤ maxLen := unhide HZM x (List.mem_of_getElem? hx)
          rcases (unhide HRZ).q (q1.trans qw1) with he | ⟨g2, o2, rfl, hg2, hcell2⟩
          · rw [he] at hl1; simp at hl1
          have cx : wr.cell? ⟨g2, o2 + j, none⟩ = some (.string ⟨x.toArray⟩) := by have := hcell2 j 0 x _ hx (by decide) rfl; simpa using this
          have HPM := hide (rpth_any ⟨x.toArray⟩ wr (by rw [mk_size']; exact hxm))
          rw [show bl (⟨x.toArray⟩ : ByteArray) = x from rfl] at HPM
          have hsx : (⟨x.toArray⟩ : ByteArray).size = x.length := mk_size' x
          have hjI : (j : Int) < (z.length : Int) := by omega
          have hjI8 : (j : Int) < 8 := by omega
          have HBE := hide hbe
          have HOI := hide hoi
          have HBU := hide hbut
          have HYS := hide (opNs_yes hx)
          have HNO := hide (opNs_no hx)
          clear hcell2 hx hbe hoi hbut
          by_cases hok : opB x = true
          · have HL : Hid (opNs z (j + 1) = opNs z j ++ [x]) := unhide HYS hok
            have hp : pthB x = true := by unfold opB at hok; rw [Bool.and_eq_true] at hok; exact hok.1
            rw [hp] at HPM
            have hcase : ((((x.length : Nat) : Int) != 2) = true) ∨ ∃ p y, x = [p, y] ∧ p ≠ 111 := by
              by_cases h2 : x.length = 2
              · right
                unfold opB at hok
                rw [hp, Bool.true_and, Bool.or_eq_true, decide_eq_true_iff, decide_eq_true_iff] at hok
                obtain _ | ⟨u, _ | ⟨v, _ | ⟨s, r⟩⟩⟩ := x
                · simp at h2
                · simp at h2
                · refine ⟨u, v, rfl, ?_⟩
                  rcases hok with h | h
                  · exact absurd rfl h
                  · simpa using h
                · simp at h2
              · left; simp; omega
            have hLl := opNs_len z j
            have HQA := hide ((unhide HQN) wr (unhide HBU)).2
            have hnw : n + 3 ≤ wr.heap.size := by have := (unhide HBE).hi; omega
            clear hok HYS HNO hp
            have HTV : Hid (tv x = [Value.string ⟨x.toArray⟩]) := rfl
            generalize hxv : (⟨x.toArray⟩ : ByteArray) = xv at *
            rcases hcase with hne | ⟨p, y, rfl, hpne⟩
            · rw [← hsx] at hne
              clear hxv hsx
              go_upto_region 14 with (go_at_call 14; refine (unhide HPM).mono ?_; rintro e w3 ⟨rfl, q3⟩; have cx3 := (q3.cell (p := ⟨g2, o2 + j, none⟩) hg2).trans cx)
              have hB3 : Blk w3 (n + 1 + 1) (ev (opY n io ic (opNs z j) m)).toArray 38 := (unhide HBE).q q3
              have HB3 := hide hB3
              have HO3 := hide (own_q (unhide HOI) q3)
              have HU3 := hide ((unhide HBU).q q3)
              have d3 : w3.cell? ⟨n + 1 + 1, 1, none⟩ = some (.slice io (opNs z j).length ic) := hB3.cell 1 rfl
              have d3a : ∀ ob, (w3.alloc ob).cell? ⟨n + 1 + 1, 1, none⟩ = some (.slice io (opNs z j).length ic) := fun ob => (hB3.q ((Q.refl w3).alloc ob)).cell 1 rfl
              have hn3 : n + 3 ≤ w3.heap.size := Nat.le_trans hnw q3.size
              clear hB3 HBE HOI HBU HPM
              go_region_law (refine step_row rfl (.tmp 62) (.tmp 67) 24 rfl (n + 3) 9 s0 _ 1 16 Tryd.underlying24 si sz0 sz1 sz2 rfl (by decide) io (opNs z j).length ic (lay tv (opNs z j)) (by rfl) (own_q (unhide HO3) ((Q.refl w3).drew.alloc _)) (some ⟨w3.drew.heap.size, 0, none⟩) 1 1 [.string xv] (by rfl) (SrcRow.new w3.drew #[.string xv] _ 1 rfl) (one_str _) (by unfold maxLen; omega) (by omega) (le_alloc hn3 _) ?_; intro ao5 cap5 w5 own5 grow5; have hb5 := (unhide HB3).grown ((Q.refl w3).drew.alloc _) grow5 (fun r hr => by have := ((unhide HO3).lt r hr).1; omega); have HB5 := hide hb5; have e5 : w5.cell? ⟨n + 1 + 1, 1, none⟩ = some (.slice io (opNs z j).length ic) := hb5.cell 1 rfl; have f5 := hb5.frz 1; clear hb5)
              all_goals (
                have ow5 : OwnT w5 (n + 3) ao5 cap5 (opNs z j ++ [x]) := by
                  show World.ownsRow _ _ _ _ (.slice _ (opNs z j ++ [x]).length _) (opNs z j ++ [x]).length (lay tv (opNs z j ++ [x]))
                  rw [lay_snoc, List.length_append, unhide HTV]; exact own5
                have hb6 := (unhide HB5).set 1 (.slice ao5 ((opNs z j).length + 1) cap5)
                rw [opY_set _ _ _ _ _ _ x, ← HL.out] at hb6
                have ho6 := own_fr ow5 (Fr.set w5 (n + 1 + 1) 1 (.slice ao5 ((opNs z j).length + 1) cap5)) (fun r hr => by have := (ow5.lt r hr).1; omega)
                have hu6 := (((unhide HU3).q ((Q.refl w3).drew.alloc _)).grown grow5 hsz (fun r hr => ((unhide HO3).lt r hr).1)).set 1 (.slice ao5 ((opNs z j).length + 1) cap5)
                have HB6 := hide hb6
                have HO6 : Hid (OwnT (w5.setCell ⟨n + 1 + 1, 1, none⟩ (.slice ao5 ((opNs z j).length + 1) cap5)) (n + 3) ao5 cap5 (opNs z (j + 1))) := by
                  show OwnT _ _ _ _ _
                  rw [HL.out]; exact ho6
                have HU6 := hide hu6
                clear own5 grow5 ow5 hb6 ho6 hu6 HB5 HB3 HO3 HU3 e5 f5 d3 d3a
                go_wp2
                go_roundw
                case rel => exact ⟨j + 1, ao5, cap5, by omega, by omega, by go_num, unhide HB6, unhide HO6, unhide HU6⟩
                case measure => simp [intOf]; omega)
            · subst hxv
              have hq0 : ((((⟨#[p, y]⟩ : ByteArray)[0]'(show 0 < 2 by decide)).toNat : Int) != 111) = true := by
                show ((p.toNat : Int) != 111) = true
                have : p.toNat ≠ 111 := fun h => hpne (UInt8.toNat.inj (by rw [h]; rfl))
                simp; omega
              clear hpne
              go_upto_region 14 with (go_at_call 14; refine (unhide HPM).mono ?_; rintro e w3 ⟨rfl, q3⟩; have cx3 := (q3.cell (p := ⟨g2, o2 + j, none⟩) hg2).trans cx)
              have hB3 : Blk w3 (n + 1 + 1) (ev (opY n io ic (opNs z j) m)).toArray 38 := (unhide HBE).q q3
              have HB3 := hide hB3
              have HO3 := hide (own_q (unhide HOI) q3)
              have HU3 := hide ((unhide HBU).q q3)
              have d3 : w3.cell? ⟨n + 1 + 1, 1, none⟩ = some (.slice io (opNs z j).length ic) := hB3.cell 1 rfl
              have d3a : ∀ ob, (w3.alloc ob).cell? ⟨n + 1 + 1, 1, none⟩ = some (.slice io (opNs z j).length ic) := fun ob => (hB3.q ((Q.refl w3).alloc ob)).cell 1 rfl
              have hn3 : n + 3 ≤ w3.heap.size := Nat.le_trans hnw q3.size
              clear hB3 HBE HOI HBU HPM
              go_region_law (refine step_row rfl (.tmp 62) (.tmp 67) 24 rfl (n + 3) 9 s0 _ 1 16 Tryd.underlying24 si sz0 sz1 sz2 rfl (by decide) io (opNs z j).length ic (lay tv (opNs z j)) (by rfl) (own_q (unhide HO3) ((Q.refl w3).drew.alloc _)) (some ⟨w3.drew.heap.size, 0, none⟩) 1 1 [.string ⟨#[p, y]⟩] (by rfl) (SrcRow.new w3.drew #[.string ⟨#[p, y]⟩] _ 1 rfl) (one_str _) (by unfold maxLen; omega) (by omega) (le_alloc hn3 _) ?_; intro ao5 cap5 w5 own5 grow5; have hb5 := (unhide HB3).grown ((Q.refl w3).drew.alloc _) grow5 (fun r hr => by have := ((unhide HO3).lt r hr).1; omega); have HB5 := hide hb5; have e5 : w5.cell? ⟨n + 1 + 1, 1, none⟩ = some (.slice io (opNs z j).length ic) := hb5.cell 1 rfl; have f5 := hb5.frz 1; clear hb5)
              all_goals (
                have ow5 : OwnT w5 (n + 3) ao5 cap5 (opNs z j ++ [[p, y]]) := by
                  show World.ownsRow _ _ _ _ (.slice _ (opNs z j ++ [[p, y]]).length _) (opNs z j ++ [[p, y]]).length (lay tv (opNs z j ++ [[p, y]]))
                  rw [lay_snoc, List.length_append, unhide HTV]; exact own5
                have hb6 := (unhide HB5).set 1 (.slice ao5 ((opNs z j).length + 1) cap5)
                rw [opY_set _ _ _ _ _ _ [p, y], ← HL.out] at hb6
                have ho6 := own_fr ow5 (Fr.set w5 (n + 1 + 1) 1 (.slice ao5 ((opNs z j).length + 1) cap5)) (fun r hr => by have := (ow5.lt r hr).1; omega)
                have hu6 := (((unhide HU3).q ((Q.refl w3).drew.alloc _)).grown grow5 hsz (fun r hr => ((unhide HO3).lt r hr).1)).set 1 (.slice ao5 ((opNs z j).length + 1) cap5)
                have HB6 := hide hb6
                have HO6 : Hid (OwnT (w5.setCell ⟨n + 1 + 1, 1, none⟩ (.slice ao5 ((opNs z j).length + 1) cap5)) (n + 3) ao5 cap5 (opNs z (j + 1))) := by
                  show OwnT _ _ _ _ _
                  rw [HL.out]; exact ho6
                have HU6 := hide hu6
                clear own5 grow5 ow5 hb6 ho6 hu6 HB5 HB3 HO3 HU3 e5 f5 d3 d3a
                go_wp2
                go_roundw
                case rel => exact ⟨j + 1, ao5, cap5, by omega, by omega, by go_num, unhide HB6, unhide HO6, unhide HU6⟩
                case measure => simp [intOf]; omega)
          · have hok2 : opB x = false := by simpa using hok
            have HL : Hid (opNs z (j + 1) = opNs z j) := unhide HNO hok2
            cases hp : pthB x
            · rw [hp] at HPM
              clear hok hok2 HYS HNO hp
              go_wp2_with (go_at_call 14; refine (unhide HPM).mono ?_; rintro e w3 ⟨rfl, q3⟩)
              go_roundw
              case rel => exact ⟨j + 1, io, ic, by omega, by omega, by go_num, by rw [HL.out]; exact (unhide HBE).q q3, by rw [HL.out]; exact own_q (unhide HOI) q3, (unhide HBU).q q3⟩
              case measure => simp [intOf]; omega
            · obtain ⟨y, rfl⟩ : ∃ y, x = [111, y] := by
                unfold opB at hok2
                rw [hp, Bool.true_and, Bool.or_eq_false_iff, decide_eq_false_iff_not, decide_eq_false_iff_not, Decidable.not_not, Decidable.not_not] at hok2
                obtain ⟨h1, h2⟩ := hok2
                obtain _ | ⟨u, _ | ⟨v, _ | ⟨s, r⟩⟩⟩ := x
                · simp at h1
                · simp at h1
                · simp at h2; exact ⟨v, by rw [h2]⟩
                · simp at h1
              rw [hp] at HPM
              clear hok hok2 HYS HNO hp
              go_wp2_with (go_at_call 14; refine (unhide HPM).mono ?_; rintro e w3 ⟨rfl, q3⟩; have cx3 := (q3.cell (p := ⟨g2, o2 + j, none⟩) hg2).trans cx)
              go_roundw
              case rel => exact ⟨j + 1, io, ic, by omega, by omega, by go_num, by rw [HL.out]; exact (unhide HBE).q q3, by rw [HL.out]; exact own_q (unhide HOI) q3, (unhide HBU).q q3⟩
              case measure => simp [intOf]; omega
        · have hend : opNs z j = opNs z 8 := by
            unfold opNs
            rcases Nat.lt_or_ge j z.length with h | h
            · rw [show j = 8 by omega]
            · rw [List.take_of_length_le h, List.take_of_length_le (by omega)]
          have hrel2 : Q w1 wr := qw1
          have hqr := ((unhide HQN) wr hbut).2
          rw [hend] at hbe hoi
          obtain ⟨Y, hY⟩ : ∃ Y, opY n io ic (opNs z 8) m = Y := ⟨_, rfl⟩
          have hY1 : Y.1 = opE (opNs z 8) m := by rw [← hY]; rfl
          have hER : EdR wr wb.heap.size Y := by
            rw [← hY]
            exact ⟨own_of_blk' ((unhide HA1).but hbut (by omega)) rfl rfl (by omega) (show 1 ≤ maxLen by decide), own_low hoi (by omega), World.ownsRow_nil _ _ _ _, World.ownsRow_nil _ _ _ _⟩
          rw [hY] at hbe
          have d0 := hbe.cell 0 rfl
          have d1 := hbe.cell 1 rfl
          have d2 := hbe.cell 2 rfl
          have d3 := hbe.cell 3 rfl
          have d4 := hbe.cell 4 rfl
          have d5 := hbe.cell 5 rfl
          have d6 := hbe.cell 6 rfl
          have x1 : wr.cell? ⟨w1.heap.size, 0, none⟩ = some (.slice ao fs.length cap) := ((unhide HBK).q hqr).cell 0 rfl
          have qy := hqr.alloc (.cells (ev Y).toArray 38)
          have HEY := hide (EdR.q'' hER ((Q.refl wr).alloc (.cells (ev Y).toArray 38)))
          have HSY := hide (SrcRow.row ev_len (by decide) (rowB ev_len (Blk.new wr (ev Y).toArray 38) [Y] rfl))
          have HOY := hide (own_q (unhide HOW) qy)
          have HNY := hide (own_q (unhide HON) qy)
          have hqs : wb.heap.size ≤ (wr.alloc (.cells (ev Y).toArray 38)).heap.size := by have := qy.size; rw [unhide HN] at this; omega
          have HFS : Hid (∀ z ∈ fs ++ [Y], EdR (wr.alloc (.cells (ev Y).toArray 38)) wb.heap.size z) := by
            show ∀ z ∈ fs ++ [Y], _
            intro z hz
            rcases List.mem_append.1 hz with h | h
            · exact (HY.out.2.1 z h).q'' qy
            · simp only [List.mem_cons, List.not_mem_nil, or_false] at h; rw [h]; exact unhide HEY
          have HMP : Hid ((fs ++ [Y]).map Prod.fst = opR (opNs z 8) (m + 1)) := by
            show _ = _
            rw [List.map_append, HY.out.1]
            unfold opR
            rw [List.range_succ, List.map_append]
            show _ ++ [Y.1] = _
            rw [hY1]; rfl
          have HMN : Hid (ns ++ [m] = List.range (m + 1)) := by
            show _ = _
            rw [HY.out.2.2, List.range_succ]
          have HBKY := hide ((unhide HBK).q qy)
          have qwy := hq'.trans qy
          have hsplit : ((j : Int) < (z.length : Int) ∧ ¬ ((j : Int) < 8)) ∨ ¬ ((j : Int) < (z.length : Int)) := by omega
          clear hbe hoi hend hER hY hY1 HOW HON HBK HEY
          rcases hsplit with ⟨g1, g2⟩ | g1
          all_goals (
            go_upto_region 16 with (at_builtin; refine wpList_append_row rfl _ _ 22 rfl wb.heap.size 38 i0 (.agg #[.slice none 0 0, .slice none 0 0, .slice none 0 0, .slice none 0 0, .string ByteArray.empty, .bool false, .string ByteArray.empty]) 7 136 Tryd.underlying22 hi hz0 hz1 hz2 rfl (by decide) ao fs.length cap (lay ev fs) rfl (unhide HOY) (some ⟨wr.heap.size, 0, none⟩) 1 1 (lay ev [Y]) rfl (unhide HSY) (one_layE _) (by unfold maxLen; omega) (by omega) hqs ?_)
            intro ao3 cap3 w3 own3 grow3
            have q3 : Q w1 w3 := Below.grown qwy grow3 (Nat.le_trans (Nat.le_of_lt hlt0) hqs) (fun r hr => Nat.le_trans (Nat.le_of_lt hlt0) ((unhide HOY).lt r hr).1)
            have bG3 := (unhide HBKY).fr (Fr.grown grow3) (fun hx => (unhide HBKY).row (unhide HOY) (by decide) _ hx rfl)
            have HO3 : w3.ownsRow wb.heap.size 38 7 (.slice ao3 (fs ++ [Y]).length cap3) (fs ++ [Y]).length (lay ev (fs ++ [Y])) := by
              rw [List.length_append, lay_app]; exact own3
            have HN3 : OwnI w3 wb.heap.size bo bc ns := own_fr (unhide HNY) (Fr.grown grow3) (fun r hr hp => own_ne (unhide HNY) (unhide HOY) (by decide) r hr hp)
            have HE3 : ∀ z ∈ fs ++ [Y], EdR w3 wb.heap.size z := fun z hz => (HFS.out z hz).fr (Fr.grown grow3) (fun r hr hp => (HFS.out z hz).row (unhide HOY) (by decide) r hr hp)
            have hs3 : wb.heap.size ≤ w3.heap.size := Nat.le_trans hqs grow3.size
            have hl3 : (fs ++ [Y]).length = fs.length + 1 := by simp
            have HB4 := hide (bG3.set 0 (.slice ao3 (fs.length + 1) cap3))
            have HO4 := hide (own_fr HO3 (Fr.set w3 w1.heap.size 0 (.slice ao3 (fs.length + 1) cap3)) (fun r hr => bG3.row HO3 (by decide) r hr))
            have HN4 := hide (own_fr HN3 (Fr.set w3 w1.heap.size 0 (.slice ao3 (fs.length + 1) cap3)) (fun r hr => bG3.row HN3 (by decide) r hr))
            have HE4 : Hid (∀ z ∈ fs ++ [Y], EdR (w3.setCell ⟨w1.heap.size, 0, none⟩ (.slice ao3 (fs.length + 1) cap3)) wb.heap.size z) := fun z hz => (HE3 z hz).fr (Fr.set _ _ _ _) (fun r hr => (HE3 z hz).blk bG3 (by decide) r hr)
            have q4 : Q w1 (w3.setCell ⟨w1.heap.size, 0, none⟩ (.slice ao3 (fs.length + 1) cap3)) := q3.setHi (Nat.le_refl _) 0 _
            have hs4 : wb.heap.size ≤ (w3.setCell ⟨w1.heap.size, 0, none⟩ (.slice ao3 (fs.length + 1) cap3)).heap.size := by simpa [World.setCell] using hs3
            have HL3 := hide hl3
            have frz3 := bG3.frz 0
            have cH3 : w3.cell? ⟨w1.heap.size, 0, none⟩ = some (.slice ao fs.length cap) := bG3.cell 0 rfl
            clear own3 grow3 HO3 HE3 HFS HOY HSY q3 hs3 hqs qwy qy hl3 bG3 HN3 HNY HBKY d0 d1 d2 d3 d4 d5 d6 x1
            go_upto_region 16 with fail
            generalize w3.setCell ⟨w1.heap.size, 0, none⟩ (.slice ao3 (fs.length + 1) cap3) = w4 at *
            clear frz3 cH3
            go_wp2_with (at_builtin; refine wpList_append_lies _ rfl _ _ 28 rfl wb.heap.size 3 j0 (.int .i64 0) 1 8 Tryd.underlying28 ji jz0 jz1 jz2 rfl (by decide) _ _ _ rfl ((unhide HN4).alloc _) ⟨w4.heap.size, 0, none⟩ 1 1 [.int .i64 m] rfl rfl (news_at (by simp) #[.int .i64 m] _) (one_int _ _) (by decide) (by unfold maxLen; omega) (by omega) (le_alloc hs4 _) (w4.heap.size + 1) (by simp) ?_)
            intro g7 cp7 w7 own7 grow7 or7 lt7
            have hoA := (unhide HN4).alloc (.cells #[.int .i64 m] 3)
            have q7 : Q w1 w7 := Below.grown (q4.alloc _) grow7 (le_alloc (Nat.le_trans (Nat.le_of_lt hlt0) hs4) _) (fun r hr => Nat.le_trans (Nat.le_of_lt hlt0) (hoA.lt r hr).1)
            have HB7 := hide (((unhide HB4).q ((Q.refl w4).alloc _)).fr (Fr.grown grow7) (fun hx => ((unhide HB4).q ((Q.refl w4).alloc _)).row hoA (by decide) _ hx rfl))
            have hO4a := own_q (unhide HO4) ((Q.refl w4).alloc (.cells #[.int .i64 m] 3))
            have HO7 := hide (own_fr hO4a (Fr.grown grow7) (fun r hr hp => own_ne hO4a hoA (by decide) r hr hp))
            have HE7 : Hid (∀ z ∈ fs ++ [Y], EdR w7 wb.heap.size z) := fun z hz => (((unhide HE4) z hz).q'' ((Q.refl w4).alloc (.cells #[.int .i64 m] 3))).fr (Fr.grown grow7) (fun r hr hp => (((unhide HE4) z hz).q'' ((Q.refl w4).alloc (.cells #[.int .i64 m] 3))).row hoA (by decide) r hr hp)
            have hs7 : wb.heap.size ≤ w7.heap.size := Nat.le_trans (le_alloc hs4 (.cells #[.int .i64 m] 3)) grow7.size
            have ow7 : Hid (OwnI w7 wb.heap.size (some ⟨g7, 0, none⟩) cp7 (ns ++ [m])) := OwnI.snoc own7
            clear own7 grow7 or7 lt7 hoA hO4a HN4 HO4 HE4 HB4
            go_wp2
            go_roundw
            case rel =>
              refine ⟨m + 1, fs ++ [Y], ao3, cap3, ns ++ [m], some ⟨g7, 0, none⟩, cp7, by omega, by go_num, ?_, ?_, ?_, unhide ow7, ?_, unhide HO7, q7, hs7, ⟨unhide HMP, unhide HE7, unhide HMN⟩⟩
              · rw [unhide HL3]; omega
              · simp
              · simp; omega
              · rw [unhide HL3]; exact unhide HB7
            case measure => simp [intOf]; omega)
    · have hmk : m = k := by omega
      have hfm : fs.map Prod.fst = opR (opNs z 8) k := by rw [HY.out.1, hmk]
      have hns : ns = List.range k := by rw [HY.out.2.2, hmk]
      have hez : ∀ e ∈ opR (opNs z 8) k, EdZ e := by
        intro e he
        unfold opR at he
        obtain ⟨i, hi, rfl⟩ := List.mem_map.1 he
        refine ⟨wsz_of ?_, ⟨?_, fun x hx => unhide HZM x (opNs_mem hx).2⟩, wsz_of rfl, wsz_of rfl, ?_, Nat.zero_le _⟩
        · show wszB [ocN i] = true
          unfold wszB ocN; rfl
        · show (opNs z 8).length ≤ _
          have := opNs_len z 8; omega
        · show 1 ≤ maxLen; decide
      have HSG : Hid (OSays wr (.agg #[.slice ao fs.length cap, .slice none 0 0, .slice none 0 0]) (opR (opNs z 8) k, [], [])) := by
        have hr : GfR wr (opR (opNs z 8) k, [], []) fs ao none none := ⟨RowG.own ev_len (by decide) (unhide HOW), hfm, Or.inl rfl, Or.inl rfl, fun z hz => (HY.out.2.1 z hz).rd, ghz_es hez (by rw [op_len]; omega)⟩
        exact hr.osays cap 0 0 (Nat.le_refl 0) (by decide)
      have H0 := hide ((unhide HSG).at (op_row (by omega) (Nat.le_refl 8)).1 (op_row (by omega) (Nat.le_refl 8)).2 wr (Q.refl _))
      have x0 : wr.cell? ⟨w1.heap.size, 0, none⟩ = some (.slice ao fs.length cap) := (unhide HBK).cell 0 rfl
      have x1 : wr.cell? ⟨w1.heap.size, 1, none⟩ = some (.slice none 0 0) := (unhide HBK).cell 1 rfl
      have x2 : wr.cell? ⟨w1.heap.size, 2, none⟩ = some (.slice none 0 0) := (unhide HBK).cell 2 rfl
      have HRN := hide (OwnI.row (unhide HON))
      have HNS := hide hns
      have HQ := hide hq
      clear hmk hfm hns hez HSG HY HOW HON HBK hq hbs hfl hnl
      go_wp2_with fail
      refine (unhide H0).mono ?_
      rintro e w5 ⟨ao5, cap5, rfl, own5, q5⟩
      have HSM : Hid (Calls Tryd.prog 13 #[.slice ao5 k cap5, .slice bo ns.length bc] w5 fun e w' => e = .returned (.bool true) ∧ Q w5 w') := by
        have h := sameI_any (List.range k) ns ao5 bo cap5 bc w5 (OwnI.row own5) ((unhide HRN).q q5) (by rw [List.length_range]; omega)
        rw [List.length_range, decide_eq_true (unhide HNS).symm] at h
        exact h
      have qw5 := (q1.trans (unhide HQ)).trans q5
      rw [List.length_range]
      clear H0 HRN own5 x0 x1 x2 q5 HQ
      have hfd := fun a b c => fld_graph a b c 3 3 1 1 1 1
      go_wp2_with (first | (go_at_call 9; refine (num_any _ _).mono ?_; rintro e w6 ⟨rfl, rfl⟩) | (go_at_call 13; refine (unhide HSM).mono ?_; rintro e w7 ⟨rfl, q7⟩) | (go_at_call 11; refine (given_any _).mono ?_; rintro e w8 ⟨rfl, _, q8⟩))
      go_ret
      exact ⟨rfl, (qw5.trans q7).trans q8⟩

theorem Tryd.laidOut : laidOutB Tryd.prog = true := by kernel_rfl
set_option maxRecDepth 100000 in
theorem orderPlain_lifted (os : Os) (started : os.Started) (H : Type) (enc : TypeId × Value → H) :
    ReturnsInHanded {} Tryd.checked os 6 .any (fun w args => (Rows.orderPlainSpec.pre enc Tryd.prog Tryd.f6 [] false w args ∧ laidMetH Tryd.prog Rows.orderPlainRow.laid w) ∧ sizedMet enc Tryd.prog Tryd.f6 (OpenSpec.ofChange Rows.orderPlainSpec) false w args) (Rows.orderPlainSpec.post enc Tryd.prog Tryd.f6 false true false false) := by
  refine returnsInHanded_of_change_and (C := Tryd.checked) (X := fun w _ => laidMetH Tryd.prog Rows.orderPlainRow.laid w) (fun _ _ _ hh h => h.of_heap hh) Tryd.own started (by kernel_rfl) Tryd.func6
    (ChangeSpec.witness_shaped (enc := enc) (C := Tryd.checked) (os := os) (X := fun w _ => laidMetH Tryd.prog Rows.orderPlainRow.laid w) false (World.laidAll Tryd.prog os Rows.orderPlainRow.laid) #[.int .i64 0, .slice none 0 0] 8 (World.laidAll_os _ _ _)
      (World.shaped_of_ZipB (by kernel_rfl) (by kernel_rfl)) (by kernel_rfl) (by kernel_rfl) (by kernel_rfl)
      (by rw [MakeChecks.laidMetH_plain _ _ _ (by kernel_rfl)]; exact laidMet_laidAll _ (by kernel_rfl) (by kernel_rfl))) ?_
  intro W base args ds gs before hval0 hW _ hsz0 hL _
  have hval : ∀ (j : Nat) t v, Tryd.f6.params[j]? = some t → args[j]? = some v → Value.okWide Tryd.prog W .any base t v := hval0
  have hW' := hW
  obtain ⟨p, q, hA0, hV, rfl, hfz, hnd⟩ := hW
  have hA : DataW.TrodAll enc Tryd.prog W 0 (fun _ => true) true Tryd.f6.params.toList args.toList ds p := hA0
  rw [Tryd.params6] at hA hval
  rw [Tryd.params6] at hsz0
  obtain ⟨v0, vs0, d0, ds0, p0, q0, hargs, rfl, rfl, h0, r0⟩ := trodAll_cons hA
  obtain ⟨v1, vs1, d1, ds1, p1, q1, rfl, rfl, rfl, h1, r1⟩ := trodAll_cons r0
  obtain ⟨rfl, rfl, rfl⟩ := trodAll_nil r1
  obtain rfl : args = #[v0, v1] := by cases args; simp_all
  obtain ⟨rfl, rfl⟩ := trodVars_none hV
  obtain ⟨a0, rfl, rfl, rfl, w0⟩ := open_int Tryd.underlying3 (hval 0 3 v0 rfl rfl) h0
  obtain ⟨a1, len1, cap1, rfl⟩ := okWide_slice Tryd.underlying24 (hval 1 24 v1 rfl rfl)
  have k1 := h1
  have lt1 : ∀ x ∈ p1, x.block < W.heap.size := by obtain ⟨m, hm⟩ := k1; exact DataW.trod_lt m _ _ _ hm
  obtain ⟨z1, w1⟩ : ∃ zs, IsRowT W a1 len1 cap1 zs := Tryd.is_rowT h1 (fun elems spare e => by subst e; exact sized_slice hsz0 (j := 1) (t := 24) rfl rfl Tryd.underlying24)
  clear hA0 hval0
  refine (orderPlain_any W a0 w0 a1 len1 cap1 z1 w1).mono fun e W' ⟨he, bel⟩ => ?_
  subst he
  exact ⟨_, rfl, _, _, _, [], _, [], hW', trodAll_mk1 (shut_bool Tryd.underlying4 _), (trodAll_cons_mk (shut_int Tryd.underlying3 w0) (trodAll_cons_mk (Below.trod Tryd.laidOut (by kernel_rfl) (of_decide_eq_true (by kernel_rfl)) k1 bel lt1) trodAll_mk0)), rfl, bel.frame _, fun h => by cases h⟩

theorem orderPlain_holds : Rows.OrderPlainSaid :=
  OpenClaim.holds_of_wide 6 Tryd.f6 rfl rfl rfl rfl rfl rfl rfl ⟨rfl, rfl, rfl, rfl, rfl⟩ rfl rfl rfl rfl rfl (by kernel_rfl) Tryd.func6 (by kernel_rfl)
    (of_decide_eq_true (by kernel_rfl)) (by unfold Func.isWrapper; first | (rw [if_pos (by decide +kernel)]; kernel_rfl) | (rw [if_neg (by decide +kernel)]; exact ⟨rfl, rfl⟩))
    (fun os started H enc _ => orderPlain_lifted os started H enc)
theorem orderPlain_card : Rows.OrderPlainCardSaid :=
  Claim7.holds_tied_plain_at .later [] [.data, .pinned] true (true, "543e068f81d2f4f0877a308eff9da4ecc968e2cc2313aa9e16d82eb0a95efa9c") false orderPlain_holds (fun _ h => by cases h) (by kernel_rfl) (fun _ h => by cases h) orderPlain_row_tie rfl ⟨rfl, rfl⟩ (by kernel_rfl) rfl
    (fun f fn hf hfn => by
      obtain rfl : f = 6 := Option.some.inj ((show Tryd.prog.funcNamed Rows.orderPlainRow.func = some 6 by kernel_rfl).symm.trans hf) |>.symm
      obtain rfl : fn = Tryd.f6 := (Option.some.inj (Tryd.func6.symm.trans hfn)).symm
      exact ⟨by kernel_rfl, fun j t ht => by
        rw [Tryd.params6] at ht
        have hm : t ∈ [3, 24] := by simpa using Array.mem_of_getElem? ht
        have hall : ([3, 24].all fun u => !Tryd.prog.wantsStandIn u) = true := by kernel_rfl
        exact (show Tryd.prog.wantsStandIn t = false by simpa using List.all_eq_true.1 hall t hm)⟩)
    (by kernel_rfl)
#print axioms orderPlain_card

end Go.Proofs.YtfadjppokbolhaaDoor
