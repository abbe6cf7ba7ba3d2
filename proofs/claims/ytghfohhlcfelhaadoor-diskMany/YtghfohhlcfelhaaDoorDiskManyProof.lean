/- DiskMany, whole: as many files as may be; one more is refused, one that is there is not, whatever the numbers; no conditions. -/
import Derived.Test.YtghfohhlcfelhaaDoorRows
import Derived.Test.YtghfohhlcfelhaaDoorCards
import Derived.Test.YtghfohhlcfelhaaDoorTie
import Derived.LaidMore
import Derived.Lay
import Derived.SevenTiedAt
import Derived.Stop.Joined
import Derived.ProofKit
import Derived.OpenShut
import Derived.ShutString
import Derived.ChangeOld
import Derived.Below
import Derived.SizedLaws
import Derived.Test.YtghfohhlcfelhaaDoorDkOther
import Derived.Test.YtghfohhlcfelhaaDoorDkMany
import Derived.Test.YtghfohhlcfelhaaDoorBitPlain
import Derived.Test.YtghfohhlcfelhaaDoorStrOne
namespace Go.Proofs.YtghfohhlcfelhaaDoor
open Go.ChangeShapes Go.WideShapes Go.ChangeAt Go.RowKit

theorem and255 (n : Int) : bits .and .i64 n 255 = n % 256 := by
  show IntKind.i64.wrap ((BitVec.ofInt 64 n &&& BitVec.ofInt 64 255).toNat : Int) = _
  rw [BitVec.toNat_and, show (BitVec.ofInt 64 255).toNat = 2 ^ 8 - 1 from rfl, Nat.and_two_pow_sub_one_eq_mod, BitVec.toNat_ofInt, IntKind.wrap_i64]; omega

set_option maxRecDepth 20000 in
set_option maxHeartbeats 16000000 in
theorem diskMany_any (at0' : Int) (_ : Lit.wf (.int .i64 at0') = true) (ct0 : Int) (_ : Lit.wf (.int .i64 ct0) = true) (w : World) :
    Calls Tryd.prog 5 #[.int .i64 at0', .int .i64 ct0] w fun e w' => e = .returned (.bool true) ∧ Q w w' := by
  have h63 := and63 at0'
  obtain ⟨kk, hkk⟩ : ∃ kk : Nat, at0' % 64 = (kk : Int) := ⟨(at0' % 64).toNat, by omega⟩
  have hk64 : kk < 64 := by omega
  rw [hkk] at h63
  have h255 := and255 ct0
  obtain ⟨ct, hct⟩ : ∃ ct : Int, ct = ct0 % 256 := ⟨_, rfl⟩
  rw [← hct] at h255
  have HCX : Hid (coOk ct = true) := by show _ = true; unfold coOk; rw [decide_eq_true (by omega), decide_eq_true (by omega)]; rfl
  clear hkk hct
  go_enter Tryd.func5, Tryd.ntmps5
  go_wp2_with fail
  refine (dkawake_any _).mono ?_
  rintro e w1 ⟨rfl, q1⟩
  have HB1 : Hid (Blk (w1.alloc (.cells #[.int .i64 0, .slice none 0 0] 24)) w1.heap.size #[.int .i64 0, .slice none 0 0] 24) := Blk.new w1 _ _
  have HQ2 := hide (q1.trans ((Q.refl w1).alloc (.cells #[.int .i64 0, .slice none 0 0] 24)))
  have HD0 := hide q1.size
  clear q1
  go_wp2_with fail
  generalize w1.alloc (.cells #[.int .i64 0, .slice none 0 0] 24) = wb at *
  generalize hD : w1.heap.size = D0 at *
  go_loopw [6] (fun i wr => ∃ (k : Nat) (fs : List Fl) (bo : Option Addr) (bcap : Nat), k ≤ 64 ∧ i = .int .i64 k ∧ Hid (DmI k fs) ∧ Hid (Blk wr D0 #[.int .i64 (k : Int), .slice bo fs.length bcap] 24) ∧ Hid (OwnK wr (D0 + 1) bo bcap fs) ∧ Hid (Q w wr)) (fun i _ => 64 - (intOf i).toNat)
  case atStart => exact ⟨0, [], none, 0, Nat.zero_le _, rfl, ⟨⟨by decide, by decide, by decide, fun f hf => by (cases hf), List.Pairwise.nil, List.Pairwise.nil⟩, rfl, fun j hj => absurd hj (Nat.not_lt_zero j), fun f hf => by (cases hf)⟩, unhide HB1, World.ownsRow_nil _ _ _ _, HQ2⟩
  case round =>
    obtain ⟨k, fs, bo, bcap, hk, rfl, HI, HB, HO, HQ⟩ := hrel
    by_cases hlt : k < 64
    · have h7 := and7 (k : Int)
      obtain ⟨p, hp⟩ : ∃ p : Nat, k % 8 = p := ⟨_, rfl⟩
      obtain ⟨q, hqq⟩ : ∃ q : Nat, k / 8 = q := ⟨_, rfl⟩
      rw [show (k : Int) % 8 = (p : Int) by omega] at h7
      have hs3 : (k : Int) / 2 ^ 3 = (q : Int) := by omega
      have hs3' : (k : Int) / 8 = (q : Int) := by omega
      have hp8 : p < 8 := by omega
      have hq8 : q < 8 := by omega
      obtain ⟨c, hcc, hcv⟩ := str_int (97 + (p : Int)) (by omega) (by omega)
      obtain ⟨c', hcc', hcv'⟩ := str_int (97 + (q : Int)) (by omega) (by omega)
      have hcv2 : ∀ ob, (convert 46 9 (.slice (some ⟨wr.heap.size + 1, 0, none⟩) 1 1)).run Tryd.prog ((wr.alloc ob).alloc (.cells #[.int .u8 (97 + (q : Int))] 5)) = .ok (.string ⟨#[c']⟩) ((wr.alloc ob).alloc (.cells #[.int .u8 (97 + (q : Int))] 5)) := fun ob => by
        have := hcv' (wr.alloc ob); rwa [size_alloc] at this
      clear hcv'
      have HV := hide (nmM_eq hp hqq hq8 hcc hcc')
      have hnx := (unhide HI).next hlt
      have HNX := hide hnx.2
      have HZ : Hid (FlZ fs) := fun f hf => by have := fl_len ((unhide HI).d.f f hf); unfold maxLen; omega
      have LO := hide (own_le (unhide HO))
      have HP := hide (fun w' (q : Q wr w') => put_lit (k : Int) fs bo bcap ⟨(nmM k).toArray⟩ (k : Int) w' ⟨show putC (k : Int) fs (nmM k) (k : Int) = (k : Int) + 1 by (unfold putC; rw [if_pos hnx.1]), show putF (k : Int) fs (nmM k) (k : Int) = putL fs (nmM k) (k : Int) ((k : Int) + 1) by (unfold putF; rw [if_pos hnx.1]), hnx.1, rfl⟩ ((OwnK.row (unhide HO)).q q) (unhide HZ) (unhide LO).1 (unhide LO).2.1 (by rw [mk_size']; show 3 ≤ 4096; decide))
      clear hnx hcc hcc' hp hqq
      generalize putL fs (nmM k) (k : Int) ((k : Int) + 1) = ps at *
      have b0 := (unhide HB).cell 0 rfl
      have b1 := (unhide HB).cell 1 rfl
      have k2 : (k : Int) < 64 := by omega
      have k0 : (0 : Int) ≤ (k : Int) := by omega
      go_wp2_with fail
      rw [unhide HV]
      refine (unhide HP _ (((Q.refl _).alloc _).alloc _)).mono ?_
      rintro e w2 ⟨po, pc, rfl, own2, q2⟩
      have q2' := (((Q.refl wr).alloc (.cells #[.int .u8 (97 + (p : Int))] 5)).alloc (.cells #[.int .u8 (97 + (q : Int))] 5)).trans q2
      have qa := (Q.refl w2).alloc (.cells #[.int .i64 ((k : Int) + 1), .slice po ps.length pc] 24)
      have dD := (unhide HB).q (q2'.trans qa)
      have d0 := dD.cell 0 rfl
      have d1 := dD.cell 1 rfl
      have e0 := dD.frz 0
      have e1 := dD.frz 1
      have HDD := hide (put2 dD (.int .i64 ((k : Int) + 1)) (.slice po ps.length pc))
      have HO7 := hide (own_low (own_q own2 qa) (B' := D0 + 1) (by have := (unhide HB).hi; simp; omega))
      have HQW := hide ((unhide HQ).trans (q2'.trans qa))
      have HE := hide (show ((k + 1 : Nat) : Int) = (k : Int) + 1 by omega)
      clear own2 q2 q2' qa dD b0 b1 HP
      go_wp2_with (go_at_call 17; refine (num_any _ _).mono ?_; rintro e w' ⟨rfl, hw'⟩; have hw2 := hw'.symm; clear hw'; subst hw2)
      go_roundw
      case rel =>
        refine ⟨k + 1, ps, po, pc, by omega, by go_num, HNX, ?_, hide (own_fr (unhide HO7) (unhide HDD).2 (fun k hk e => by have := ((unhide HO7).lt k hk).1; omega)), hide (Below.trans (unhide HQW) ((unhide HDD).2.below (unhide HQW).size (fun k hk => by rw [hk]; exact unhide HD0)))⟩
        show Blk _ _ _ _; rw [unhide HE]; exact (unhide HDD).1
      case measure => simp [intOf]; omega
    · obtain rfl : k = 64 := by omega
      have h7 := and7 (kk : Int)
      obtain ⟨p, hp⟩ : ∃ p : Nat, kk % 8 = p := ⟨_, rfl⟩
      obtain ⟨q, hqq⟩ : ∃ q : Nat, kk / 8 = q := ⟨_, rfl⟩
      rw [show (kk : Int) % 8 = (p : Int) by omega] at h7
      have hs3 : (kk : Int) / 2 ^ 3 = (q : Int) := by omega
      have hs3' : (kk : Int) / 8 = (q : Int) := by omega
      have hp8 : p < 8 := by omega
      have hq8 : q < 8 := by omega
      obtain ⟨c, hcc, hcv⟩ := str_int (97 + (p : Int)) (by omega) (by omega)
      obtain ⟨c', hcc', hcv'⟩ := str_int (97 + (q : Int)) (by omega) (by omega)
      have hcv2 : ∀ ob, (convert 46 9 (.slice (some ⟨wr.heap.size + 1, 0, none⟩) 1 1)).run Tryd.prog ((wr.alloc ob).alloc (.cells #[.int .u8 (97 + (q : Int))] 5)) = .ok (.string ⟨#[c']⟩) ((wr.alloc ob).alloc (.cells #[.int .u8 (97 + (q : Int))] 5)) := fun ob => by
        have := hcv' (wr.alloc ob); rwa [size_alloc] at this
      have HV := hide (nmM_eq hp hqq hq8 hcc hcc')
      clear hcv' hp hqq hcc hcc'
      have HFU := hide (dm_full (unhide HI))
      have hol := dm_old (unhide HI) hk64 (unhide HCX)
      have HOL := hide hol.1
      have HZP := hide hol.2.1
      have HFD : Hid (fdV 65 (putL fs (nmM kk) ct 65) (nmM kk) = (nmM kk, ct, 65) ∧ (fdF 65 (putL fs (nmM kk) ct 65) (nmM kk)).isSome = true) := by show _ ∧ _; unfold fdV; rw [hol.2.2]; exact ⟨rfl, rfl⟩
      have hre := dm_rem (unhide HI) hk64
      have HRE := hide hre.1
      have HZR := hide hre.2.1
      have HPG : Hid (putC 64 (remL fs (nmM kk)) [103] 1 = 65 ∧ putF 64 (remL fs (nmM kk)) [103] 1 = putL (remL fs (nmM kk)) [103] 1 65 ∧ putE 64 (remL fs (nmM kk)) [103] 1 = 0) := ⟨by unfold putC; rw [if_pos hre.2.2]; rfl, by unfold putF; rw [if_pos hre.2.2]; rfl, hre.2.2⟩
      have HLN := hide (unhide HI).n
      have HLP := hide hol.1.2.2.2
      have HLR := hide hre.1.2.2.2
      have HZ : Hid (FlZ fs) := fun f hf => by have := fl_len ((unhide HI).d.f f hf); unfold maxLen; omega
      have LO := hide (own_le (unhide HO))
      have HRR := hide (OwnK.row (unhide HO))
      clear hol hre
      generalize putL fs (nmM kk) ct 65 = ps at *
      generalize remL fs (nmM kk) = rs at *
      generalize putL rs [103] 1 65 = gs at *
      have heq := eqK
      have hgd := Tryd.guardK
      have HXS : Hid ((⟨#[102]⟩ ++ ⟨#[c]⟩ : ByteArray) ++ ⟨#[c']⟩ = ⟨(nmM kk).toArray⟩) := unhide HV
      have b0 : ∀ o1 o2, ((wr.alloc o1).alloc o2).cell? ⟨D0, 0, none⟩ = some (.int .i64 64) := fun o1 o2 => ((unhide HB).q (((Q.refl wr).alloc o1).alloc o2)).cell 0 rfl
      have b1 : ∀ o1 o2, ((wr.alloc o1).alloc o2).cell? ⟨D0, 1, none⟩ = some (.slice bo fs.length bcap) := fun o1 o2 => ((unhide HB).q (((Q.refl wr).alloc o1).alloc o2)).cell 1 rfl
      have qab := ((Q.refl wr).alloc (.cells #[.int .u8 (97 + (p : Int))] 5)).alloc (.cells #[.int .u8 (97 + (q : Int))] 5)
      replace HB : Hid (Blk _ D0 #[.int .i64 64, .slice bo fs.length bcap] 24) := (unhide HB).q qab
      replace HQ := hide ((unhide HQ).trans qab)
      replace HRR := hide ((unhide HRR).q qab)
      have HSZ : Hid ((⟨(nmM kk).toArray⟩ : ByteArray).size ≤ maxLen) := by show _ ≤ _; rw [mk_size']; show 3 ≤ maxLen; unfold maxLen; omega
      clear qab HI HO HV
      go_wp2_with fail
      rw [unhide HXS]
      clear HXS hcv hcv2 h7 hs3 hs3' b0 b1
      generalize (wr.alloc (.cells #[.int .u8 (97 + (p : Int))] 5)).alloc (.cells #[.int .u8 (97 + (q : Int))] 5) = v1 at *
      refine (put_lit 64 fs bo bcap ⟨#[103]⟩ 1 v1 ⟨(unhide HFU).1, (unhide HFU).2.1, (unhide HFU).2.2, rfl⟩ (unhide HRR) (unhide HZ) (unhide LO).1 (unhide LO).2.1 (by decide)).mono ?_
      rintro e w2 ⟨eo, ec, rfl, own2, q2⟩
      clear own2
      have qa := (Q.refl w2).alloc (.cells #[.int .i64 0, .slice eo 0 ec] 24)
      have HE : Hid (Blk (w2.alloc (.cells #[.int .i64 0, .slice eo 0 ec] 24)) w2.heap.size #[.int .i64 0, .slice eo 0 ec] 24) := Blk.new w2 _ _
      replace HQ := hide ((unhide HQ).trans (q2.trans qa))
      replace HB := hide ((unhide HB).q (q2.trans qa))
      replace HRR := hide ((unhide HRR).q (q2.trans qa))
      clear q2 qa
      generalize hgNE : w2.heap.size = NE at *
      have ld0 : (w2.alloc (.cells #[.int .i64 0, .slice eo 0 ec] 24)).cell? ⟨D0, 0, none⟩ = some (.int .i64 64) := (unhide HB).cell 0 rfl
      have ld1 : (w2.alloc (.cells #[.int .i64 0, .slice eo 0 ec] 24)).cell? ⟨D0, 1, none⟩ = some (.slice bo fs.length bcap) := (unhide HB).cell 1 rfl
      go_wp2_with fail
      generalize (w2.alloc (.cells #[.int .i64 0, .slice eo 0 ec] 24)) = vw2 at *
      clear ld0 ld1
      refine (put_any' 64 fs bo bcap ⟨(nmM kk).toArray⟩ ct vw2 ⟨(unhide HOL).1, (unhide HOL).2.1, (unhide HOL).2.2.1, rfl⟩ (unhide HRR) (unhide HZ) (unhide LO).1 (unhide LO).2.1 (unhide HSZ)).mono ?_
      rintro e w3 ⟨po, pc, rfl, own3, q3⟩
      have LP := hide (own_le own3)
      have HPR := hide (own3.row)
      clear own3
      have qa := (Q.refl w3).alloc (.cells #[.int .i64 65, .slice po ps.length pc] 24)
      have HA : Hid (Blk (w3.alloc (.cells #[.int .i64 65, .slice po ps.length pc] 24)) w3.heap.size #[.int .i64 65, .slice po ps.length pc] 24) := Blk.new w3 _ _
      replace HPR := hide ((unhide HPR).q qa)
      replace HQ := hide ((unhide HQ).trans (q3.trans qa))
      replace HB := hide ((unhide HB).q (q3.trans qa))
      replace HRR := hide ((unhide HRR).q (q3.trans qa))
      replace HE := hide ((unhide HE).q (q3.trans qa))
      clear q3 qa
      generalize hgNA : w3.heap.size = NA at *
      have ld0 : (w3.alloc (.cells #[.int .i64 65, .slice po ps.length pc] 24)).cell? ⟨NA, 0, none⟩ = some (.int .i64 65) := (unhide HA).cell 0 rfl
      have ld1 : (w3.alloc (.cells #[.int .i64 65, .slice po ps.length pc] 24)).cell? ⟨NA, 1, none⟩ = some (.slice po ps.length pc) := (unhide HA).cell 1 rfl
      go_wp2_with fail
      generalize (w3.alloc (.cells #[.int .i64 65, .slice po ps.length pc] 24)) = vw3 at *
      clear ld0 ld1
      refine (find_lit (t := ⟨(nmM kk).toArray⟩) (x := ct) (y := 65) 65 ps po pc ⟨(nmM kk).toArray⟩ vw3 (unhide HFD) rfl rfl rfl (unhide HPR) (unhide HZP) (unhide LP).1 (unhide LP).2.1).mono ?_
      rintro e w4 ⟨rfl, q4⟩
      have qa := (Q.refl w4).alloc (.cells #[.string ⟨(nmM kk).toArray⟩, .int .i64 ct, .int .i64 65] 34)
      have HY : Hid (Blk (w4.alloc (.cells #[.string ⟨(nmM kk).toArray⟩, .int .i64 ct, .int .i64 65] 34)) w4.heap.size #[.string ⟨(nmM kk).toArray⟩, .int .i64 ct, .int .i64 65] 34) := Blk.new w4 _ _
      replace HQ := hide ((unhide HQ).trans (q4.trans qa))
      replace HB := hide ((unhide HB).q (q4.trans qa))
      replace HRR := hide ((unhide HRR).q (q4.trans qa))
      replace HE := hide ((unhide HE).q (q4.trans qa))
      replace HPR := hide ((unhide HPR).q (q4.trans qa))
      replace HA := hide ((unhide HA).q (q4.trans qa))
      clear q4 qa
      generalize hgNY : w4.heap.size = NY at *
      have ld0 : (w4.alloc (.cells #[.string ⟨(nmM kk).toArray⟩, .int .i64 ct, .int .i64 65] 34)).cell? ⟨D0, 0, none⟩ = some (.int .i64 64) := (unhide HB).cell 0 rfl
      have ld1 : (w4.alloc (.cells #[.string ⟨(nmM kk).toArray⟩, .int .i64 ct, .int .i64 65] 34)).cell? ⟨D0, 1, none⟩ = some (.slice bo fs.length bcap) := (unhide HB).cell 1 rfl
      go_wp2_with fail
      generalize (w4.alloc (.cells #[.string ⟨(nmM kk).toArray⟩, .int .i64 ct, .int .i64 65] 34)) = vw4 at *
      clear ld0 ld1
      refine (rem_any' 64 fs bo bcap ⟨(nmM kk).toArray⟩ vw4 ⟨(unhide HRE).1, (unhide HRE).2.1, (unhide HRE).2.2.1, rfl⟩ (unhide HRR) (unhide HZ) (unhide LO).1 (unhide LO).2.1 (unhide HSZ)).mono ?_
      rintro e w5 ⟨ro, rc, rfl, own5, q5⟩
      have LR := hide (own_le own5)
      have HRW := hide (own5.row)
      clear own5
      have qa := (Q.refl w5).alloc (.cells #[.int .i64 64, .slice ro rs.length rc] 24)
      have HR : Hid (Blk (w5.alloc (.cells #[.int .i64 64, .slice ro rs.length rc] 24)) w5.heap.size #[.int .i64 64, .slice ro rs.length rc] 24) := Blk.new w5 _ _
      replace HRW := hide ((unhide HRW).q qa)
      replace HQ := hide ((unhide HQ).trans (q5.trans qa))
      replace HB := hide ((unhide HB).q (q5.trans qa))
      replace HRR := hide ((unhide HRR).q (q5.trans qa))
      replace HE := hide ((unhide HE).q (q5.trans qa))
      replace HPR := hide ((unhide HPR).q (q5.trans qa))
      replace HA := hide ((unhide HA).q (q5.trans qa))
      replace HY := hide ((unhide HY).q (q5.trans qa))
      clear q5 qa
      generalize hgNR : w5.heap.size = NR at *
      have ld0 : (w5.alloc (.cells #[.int .i64 64, .slice ro rs.length rc] 24)).cell? ⟨NR, 0, none⟩ = some (.int .i64 64) := (unhide HR).cell 0 rfl
      have ld1 : (w5.alloc (.cells #[.int .i64 64, .slice ro rs.length rc] 24)).cell? ⟨NR, 1, none⟩ = some (.slice ro rs.length rc) := (unhide HR).cell 1 rfl
      go_wp2_with fail
      generalize (w5.alloc (.cells #[.int .i64 64, .slice ro rs.length rc] 24)) = vw5 at *
      clear ld0 ld1
      refine (put_lit 64 rs ro rc ⟨#[103]⟩ 1 vw5 ⟨(unhide HPG).1, (unhide HPG).2.1, (unhide HPG).2.2, rfl⟩ (unhide HRW) (unhide HZR) (unhide LR).1 (unhide LR).2.1 (by decide)).mono ?_
      rintro e w6 ⟨ho, hc, rfl, own6, q6⟩
      clear own6
      have hlp : ((ps.length : Int) == 64) = true := by rw [unhide HLP]; rfl
      have hlr : ((rs.length : Int) == 63) = true := by rw [unhide HLR]; rfl
      have hxs : ((⟨(nmM kk).toArray⟩ : ByteArray).toList == (⟨(nmM kk).toArray⟩ : ByteArray).toList) = true := by simp
      have qa := (Q.refl w6).alloc (.cells #[.int .i64 65, .slice ho gs.length hc] 24)
      have HH : Hid (Blk (w6.alloc (.cells #[.int .i64 65, .slice ho gs.length hc] 24)) w6.heap.size #[.int .i64 65, .slice ho gs.length hc] 24) := Blk.new w6 _ _
      replace HQ := hide ((unhide HQ).trans (q6.trans qa))
      replace HB := hide ((unhide HB).q (q6.trans qa))
      replace HRR := hide ((unhide HRR).q (q6.trans qa))
      replace HE := hide ((unhide HE).q (q6.trans qa))
      replace HPR := hide ((unhide HPR).q (q6.trans qa))
      replace HA := hide ((unhide HA).q (q6.trans qa))
      replace HY := hide ((unhide HY).q (q6.trans qa))
      replace HRW := hide ((unhide HRW).q (q6.trans qa))
      replace HR := hide ((unhide HR).q (q6.trans qa))
      clear q6 qa
      generalize hgNH : w6.heap.size = NH at *
      have ld0 : (w6.alloc (.cells #[.int .i64 65, .slice ho gs.length hc] 24)).cell? ⟨NY, 0, none⟩ = some (.string ⟨(nmM kk).toArray⟩) := (unhide HY).cell 0 rfl
      have ld1 : (w6.alloc (.cells #[.int .i64 65, .slice ho gs.length hc] 24)).cell? ⟨NY, 1, none⟩ = some (.int .i64 ct) := (unhide HY).cell 1 rfl
      have ld2 : (w6.alloc (.cells #[.int .i64 65, .slice ho gs.length hc] 24)).cell? ⟨NY, 2, none⟩ = some (.int .i64 65) := (unhide HY).cell 2 rfl
      have ld3 : (w6.alloc (.cells #[.int .i64 65, .slice ho gs.length hc] 24)).cell? ⟨NA, 1, none⟩ = some (.slice po ps.length pc) := (unhide HA).cell 1 rfl
      have ld4 : (w6.alloc (.cells #[.int .i64 65, .slice ho gs.length hc] 24)).cell? ⟨NR, 0, none⟩ = some (.int .i64 64) := (unhide HR).cell 0 rfl
      have ld5 : (w6.alloc (.cells #[.int .i64 65, .slice ho gs.length hc] 24)).cell? ⟨NR, 1, none⟩ = some (.slice ro rs.length rc) := (unhide HR).cell 1 rfl
      go_wp2_with (go_at_call 17; refine (num_any _ _).mono ?_; rintro e w' ⟨rfl, hw'⟩; have hw2 := hw'.symm; clear hw'; subst hw2)
      generalize (w6.alloc (.cells #[.int .i64 65, .slice ho gs.length hc] 24)) = vw6 at *
      go_ret
      exact ⟨rfl, unhide HQ⟩

set_option maxRecDepth 100000 in
theorem diskMany_lifted (os : Os) (started : os.Started) (H : Type) (enc : TypeId × Value → H) :
    ReturnsInHanded {} Tryd.checked os 5 .any (fun w args => (Rows.diskManySpec.pre enc Tryd.prog Tryd.f5 [] false w args ∧ laidMetH Tryd.prog Rows.diskManyRow.laid w) ∧ sizedMet enc Tryd.prog Tryd.f5 (OpenSpec.ofChange Rows.diskManySpec) false w args) (Rows.diskManySpec.post enc Tryd.prog Tryd.f5 false true false false) := by
  refine returnsInHanded_of_change_and (C := Tryd.checked) (X := fun w _ => laidMetH Tryd.prog Rows.diskManyRow.laid w) (fun _ _ _ hh h => h.of_heap hh) Tryd.own started (by kernel_rfl) Tryd.func5
    (ChangeSpec.witness_shaped (enc := enc) (C := Tryd.checked) (os := os) (X := fun w _ => laidMetH Tryd.prog Rows.diskManyRow.laid w) false (World.laidAll Tryd.prog os Rows.diskManyRow.laid) #[.int .i64 0, .int .i64 0] 8 (World.laidAll_os _ _ _)
      (World.shaped_of_ZipB (by kernel_rfl) (by kernel_rfl)) (by kernel_rfl) (by kernel_rfl) (by kernel_rfl)
      (by rw [MakeChecks.laidMetH_plain _ _ _ (by kernel_rfl)]; exact laidMet_laidAll _ (by kernel_rfl) (by kernel_rfl))) ?_
  intro W base args ds gs before hval0 hW _ hsz0 hL _
  have hval : ∀ (j : Nat) t v, Tryd.f5.params[j]? = some t → args[j]? = some v → Value.okWide Tryd.prog W .any base t v := hval0
  have hW' := hW
  obtain ⟨p, q, hA0, hV, rfl, hfz, hnd⟩ := hW
  have hA : DataW.TrodAll enc Tryd.prog W 0 (fun _ => true) true Tryd.f5.params.toList args.toList ds p := hA0
  rw [Tryd.params5] at hA hval
  obtain ⟨v0, vs0, d0, ds0, p0, q0, hargs, rfl, rfl, h0, r0⟩ := trodAll_cons hA
  obtain ⟨v1, vs1, d1, ds1, p1, q1, rfl, rfl, rfl, h1, r1⟩ := trodAll_cons r0
  obtain ⟨rfl, rfl, rfl⟩ := trodAll_nil r1
  obtain rfl : args = #[v0, v1] := by cases args; simp_all
  obtain ⟨rfl, rfl⟩ := trodVars_none hV
  obtain ⟨a0, rfl, rfl, rfl, w0⟩ := open_int Tryd.underlying3 (hval 0 3 v0 rfl rfl) h0
  obtain ⟨a1, rfl, rfl, rfl, w1⟩ := open_int Tryd.underlying3 (hval 1 3 v1 rfl rfl) h1
  clear hA0 hval0
  simp only [List.append_nil] at hW'
  refine (diskMany_any a0 w0 a1 w1 W).mono fun e W' ⟨he, bel⟩ => ?_
  subst he
  exact ⟨_, rfl, _, _, _, [], [], [], hW', trodAll_mk1 (shut_bool Tryd.underlying4 _), (trodAll_cons_mk (shut_int Tryd.underlying3 w0) (trodAll_cons_mk (shut_int Tryd.underlying3 w1) trodAll_mk0)), rfl, bel.frame _, fun h => by cases h⟩

theorem diskMany_holds : Rows.DiskManySaid :=
  OpenClaim.holds_of_wide 5 Tryd.f5 rfl rfl rfl rfl rfl rfl rfl ⟨rfl, rfl, rfl, rfl, rfl⟩ rfl rfl rfl rfl rfl (by kernel_rfl) Tryd.func5 (by kernel_rfl)
    (of_decide_eq_true (by kernel_rfl)) (by unfold Func.isWrapper; first | (rw [if_pos (by decide +kernel)]; kernel_rfl) | (rw [if_neg (by decide +kernel)]; exact ⟨rfl, rfl⟩))
    (fun os started H enc _ => diskMany_lifted os started H enc)
theorem diskMany_card : Rows.DiskManyCardSaid :=
  Claim7.holds_tied_plain_at .later [] [.data, .pinned] true (true, "70ffd1132ee9d4383af659bd53c2ff836d5bbd12bc3d7956f63e20143a124f82") false diskMany_holds (fun _ h => by cases h) (by kernel_rfl) (fun _ h => by cases h) diskMany_row_tie rfl ⟨rfl, rfl⟩ (by kernel_rfl) rfl
    (fun f fn hf hfn => by
      obtain rfl : f = 5 := Option.some.inj ((show Tryd.prog.funcNamed Rows.diskManyRow.func = some 5 by kernel_rfl).symm.trans hf) |>.symm
      obtain rfl : fn = Tryd.f5 := (Option.some.inj (Tryd.func5.symm.trans hfn)).symm
      exact ⟨by kernel_rfl, fun j t ht => by
        rw [Tryd.params5] at ht
        have hm : t ∈ [3, 3] := by simpa using Array.mem_of_getElem? ht
        have hall : ([3, 3].all fun u => !Tryd.prog.wantsStandIn u) = true := by kernel_rfl
        exact (show Tryd.prog.wantsStandIn t = false by simpa using List.all_eq_true.1 hall t hm)⟩)
    (by kernel_rfl)
#print axioms diskMany_card
end Go.Proofs.YtghfohhlcfelhaaDoor
