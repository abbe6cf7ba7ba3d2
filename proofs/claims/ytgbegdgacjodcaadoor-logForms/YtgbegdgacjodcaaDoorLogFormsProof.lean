/- Logs that may not be are refused, too long ones too, whatever the numbers; no conditions. -/
import Derived.Test.YtgbegdgacjodcaaDoorRows
import Derived.Test.YtgbegdgacjodcaaDoorCards
import Derived.Test.YtgbegdgacjodcaaDoorTie
import Derived.LaidMore
import Derived.Lay
import Derived.SevenTiedAt
import Derived.Stop.Joined
import Derived.ProofKit
import Derived.OpenShut
import Derived.ShutString
import Derived.ChangeOld
import Derived.Below
import Derived.SizedLaws
import Derived.Test.YtgbegdgacjodcaaDoorLoAwake
import Derived.Test.YtgbegdgacjodcaaDoorLfAll
import Derived.Deep.Cut
namespace Go.Proofs.YtgbegdgacjodcaaDoor
open Go.ChangeShapes Go.WideShapes Go.ChangeAt Go.RowKit

set_option maxRecDepth 20000 in
set_option maxHeartbeats 16000000 in
theorem logForms_any (a : Int) (_ : Lit.wf (.int .i64 a) = true) (b : Int) (_ : Lit.wf (.int .i64 b) = true) (w : World) (hv : Vs w) :
    Calls Tryd.prog 4 #[.int .i64 a, .int .i64 b] w fun e w' => e = .returned (.bool true) ∧ Q w w' := by
  have h3 := and3 a
  have h63 := and63 b
  obtain ⟨r, hr⟩ : ∃ r : Nat, a % 4 = (r : Int) := ⟨(a % 4).toNat, by omega⟩
  obtain ⟨t, ht⟩ : ∃ t : Nat, b % 64 = (t : Int) := ⟨(b % 64).toNat, by omega⟩
  have hr4 : r < 4 := by omega
  have ht64 : t < 64 := by omega
  rw [hr] at h3
  rw [ht] at h63
  clear hr ht
  have HV := hide hv
  clear hv
  go_enter Tryd.func4, Tryd.ntmps4
  go_wp2_with fail
  refine (loawake_any _ (unhide HV)).mono ?_
  rintro e w1 ⟨rfl, q1⟩
  have HQ1 := hide q1
  clear q1
  have hmk := Tryd.mk_recs t ht64
  go_upto_region 6 with fail
  have hqa := (Q.refl w1).alloc (.cells #[.string ⟨#[97]⟩, .int .i64 1, .string ⟨#[120]⟩] 33)
  have hga := Blk.new w1 #[.string ⟨#[97]⟩, .int .i64 1, .string ⟨#[120]⟩] 33
  have hsz : (w1.alloc (.cells #[.string ⟨#[97]⟩, .int .i64 1, .string ⟨#[120]⟩] 33)).heap.size = w1.heap.size + 1 := size_alloc _ _
  generalize hwa : (w1.alloc (.cells #[.string ⟨#[97]⟩, .int .i64 1, .string ⟨#[120]⟩] 33)) = wa at *
  change Code.wp _ _ _ _ (wa.alloc (.cells (lay rv (lfZ t)).toArray 33))
  have hqb := (Q.refl wa).alloc (.cells (lay rv (lfZ t)).toArray 33)
  have hb := Blk.new wa (lay rv (lfZ t)).toArray 33
  have hgb := hga.q hqb
  rw [hsz] at hb
  have HQ2 := hide ((unhide HQ1).trans (hqa.trans hqb))
  have hl4 : (lfZ t).length = 4 := rfl
  obtain ⟨x, hx⟩ : ∃ x, (lfZ t)[r]? = some x := ⟨(lfZ t)[r]'(by omega), List.getElem?_eq_getElem (by omega)⟩
  have hcl : ∀ i v, i < 3 → (rv x)[i]? = some v → (wa.alloc (.cells (lay rv (lfZ t)).toArray 33)).cell? ⟨w1.heap.size + 1, r * 3 + i, none⟩ = some v := fun i v hi hv => hb.cell (r * 3 + i) (by rw [List.getElem?_toArray, lay_get rv_len (lfZ t) r i x hx hi]; exact hv)
  have c0 : (wa.alloc (.cells (lay rv (lfZ t)).toArray 33)).cell? ⟨w1.heap.size + 1, r * 3, none⟩ = some (.string ⟨x.1.toArray⟩) := hcl 0 _ (by decide) rfl
  have c1 : (wa.alloc (.cells (lay rv (lfZ t)).toArray 33)).cell? ⟨w1.heap.size + 1, r * 3 + 1, none⟩ = some (.int .i64 x.2.1) := hcl 1 _ (by decide) rfl
  have c2 : (wa.alloc (.cells (lay rv (lfZ t)).toArray 33)).cell? ⟨w1.heap.size + 1, r * 3 + 2, none⟩ = some (.string ⟨x.2.2.toArray⟩) := hcl 2 _ (by decide) rfl
  have g0 := hgb.cell 0 rfl
  have g1 := hgb.cell 1 rfl
  have g2 := hgb.cell 2 rfl
  have HG := hide hgb
  obtain ⟨hno, hxz⟩ := lfZ_no x (List.mem_of_getElem? hx)
  have HLF := hide (lf_bad hno hxz)
  clear hno hxz hb hqa hqb hcl hx hl4 hsz hga hgb hwa
  generalize (wa.alloc (.cells (lay rv (lfZ t)).toArray 33)) = wb at *
  have k0 : (0 : Int) ≤ (r : Int) := by omega
  have k1 : (r : Int) < 4 := by omega
  obtain ⟨x1, x2, x3⟩ := x
  dsimp only at c0 c1 c2
  have HROW : Hid (RowR (wb.alloc (.cells #[.string ⟨#[97]⟩, .int .i64 1, .string ⟨#[120]⟩, .string ⟨x1.toArray⟩, .int .i64 x2, .string ⟨x3.toArray⟩, .string ⟨#[97]⟩, .int .i64 1, .string ⟨#[120]⟩] 33)) (some ⟨wb.heap.size, 0, none⟩) [gR, (x1, x2, x3), gR]) := rowG_block rv_len _ _ _ _ rfl
  generalize hxx : ([gR, (x1, x2, x3), gR] : Rs) = xs at *
  have hx3 : xs.length = 3 := by rw [← hxx]; rfl
  clear hxx
  generalize (⟨x1.toArray⟩ : ByteArray) = y1 at *
  generalize (⟨x3.toArray⟩ : ByteArray) = y3 at *
  go_region
  clear c0 c1 c2 g0 g1 g2 k0 k1 h3 hr4
  have hqc := ((Q.refl wb).alloc (.cells #[.string ⟨#[97]⟩, .int .i64 1, .string ⟨#[120]⟩, .string y1, .int .i64 x2, .string y3, .string ⟨#[97]⟩, .int .i64 1, .string ⟨#[120]⟩] 33)).drew
  replace HROW := hide (RowG.q (unhide HROW) (Q.refl _).drew)
  replace HQ2 := hide ((unhide HQ2).trans hqc)
  replace HG := hide ((unhide HG).q hqc)
  clear hqc
  generalize (wb.alloc (.cells #[.string ⟨#[97]⟩, .int .i64 1, .string ⟨#[120]⟩, .string y1, .int .i64 x2, .string y3, .string ⟨#[97]⟩, .int .i64 1, .string ⟨#[120]⟩] 33)).drew = wc at *
  have HT : Hid (∀ u, Q wc u → Vs u → Calls Tryd.prog 7 #[.slice (some ⟨wb.heap.size, 0, none⟩) 3 3] u fun e w' => e = .returned (.tuple #[.string ⟨#[]⟩, .int .i64 1400]) ∧ Q u w') := fun u q hv => by
    have h := loText_any xs (some ⟨wb.heap.size, 0, none⟩) 3 u hv (RowG.q (unhide HROW) q) (unhide HLF).2.1 (by omega)
    rw [(unhide HLF).2.2.2.2, (unhide HLF).2.2.2.1, hx3] at h
    exact h
  have HL : Hid (∀ u, Q wc u → Calls Tryd.prog 11 #[.slice (some ⟨wb.heap.size, 0, none⟩) 3 3, .string ⟨#[97]⟩] u fun e w' => e = .returned (.tuple #[.agg #[.string ⟨#[]⟩, .int .i64 0, .string ⟨#[]⟩], .bool false]) ∧ Q u w') := fun u q => by
    have h := loLast_any xs ⟨#[97]⟩ (some ⟨wb.heap.size, 0, none⟩) 3 u (RowG.q (unhide HROW) q) (unhide HLF).2.1 (by omega)
    rw [show bl (⟨#[97]⟩ : ByteArray) = [97] from rfl, (lav_no (unhide HLF).2.2.1).1, (lav_no (unhide HLF).2.2.1).2, hx3] at h
    exact h
  have HC : Hid (∀ u, Q wc u → Calls Tryd.prog 12 #[.slice (some ⟨wb.heap.size, 0, none⟩) 3 3] u fun e w' => ∃ bo bl' bcap, e = .returned (.tuple #[.slice bo bl' bcap, .int .i64 1400]) ∧ Q u w') := fun u q => by
    have h := loCompact_any xs (some ⟨wb.heap.size, 0, none⟩) 3 u (RowG.q (unhide HROW) q) (unhide HLF).2.1 (by omega)
    rw [(unhide HLF).2.2.2.1, hx3] at h
    refine h.mono ?_
    rintro e w' ⟨bo, bcap, rfl, _, q2⟩
    exact ⟨bo, _, bcap, rfl, q2⟩
  have HM : Hid (∀ u, Q wc u → Calls Tryd.prog 13 #[.slice (some ⟨wb.heap.size, 0, none⟩) 3 3] u fun e w' => e = .returned (.bool false) ∧ Q u w') := fun u q => by
    have h := loMay_any xs (some ⟨wb.heap.size, 0, none⟩) 3 u (RowG.q (unhide HROW) q) (unhide HLF).2.1 (by omega)
    rw [(unhide HLF).1, hx3] at h
    exact h
  clear HLF HROW hx3
  generalize wb.heap.size = BB at *
  go_wp2_with fail
  refine (unhide HT _ (Q.refl _) ((unhide HV).q (unhide HQ2))).mono ?_
  rintro e w2 ⟨rfl, q2⟩
  have HQC := hide q2
  clear q2 HT
  go_wp2_with fail
  refine (unhide HL _ (unhide HQC)).mono ?_
  rintro e w3 ⟨rfl, q3⟩
  have q3' := q3.trans ((Q.refl w3).alloc (.cells #[.string ⟨#[]⟩, .int .i64 0, .string ⟨#[]⟩] 33))
  replace HQC := hide ((unhide HQC).trans q3')
  clear q3 q3' HL
  go_wp2_with fail
  refine (unhide HC _ (unhide HQC)).mono ?_
  rintro e w4 ⟨bo, bn, bcap, rfl, q4⟩
  replace HQC := hide ((unhide HQC).trans q4)
  clear q4 HC
  have HG4 := hide ((unhide HG).q (unhide HQC))
  clear HG
  obtain ⟨n, hn⟩ : ∃ n : Nat, 257 + t = n := ⟨_, rfl⟩
  have hn' : ((256 : Int) + (1 + (t : Int))) = (n : Int) := by omega
  rw [hn, hn'] at hmk
  have HN := hide hn'
  have hnm : n ≤ maxLen := by unfold maxLen; omega
  have hn320 : n ≤ 320 := by omega
  have hn257 : 257 ≤ n := by omega
  have HMN := hide (mn_new w4 n hnm)
  have HQ0 := hide ((Q.refl w4).alloc (.cells (lay rv (List.replicate n (([], 0, []) : Rc))).toArray 33))
  go_wp2_with fail
  clear hmk
  generalize (w4.alloc (.cells (lay rv (List.replicate n (([], 0, []) : Rc))).toArray 33)) = w5 at *
  have k4 := (unhide HMN).lt
  have hg4 : w1.heap.size < w4.heap.size := (unhide HG4).hi
  go_wp2_with fail
  go_loopw [16] (fun i wr => ∃ k : Nat, k ≤ n ∧ i = .int .i64 k ∧ Hid (OwnM wr w4.heap.size w4.heap.size n k) ∧ Hid (Q w4 wr)) (fun i _ => n - (intOf i).toNat)
  case atStart => exact ⟨0, Nat.zero_le _, rfl, HMN, HQ0⟩
  case round =>
    obtain ⟨k, hk, rfl, HO, HQ⟩ := hrel
    by_cases hlt : k < n
    · obtain ⟨⟨c0, c1, c2⟩, ⟨f0, f1, f2⟩, _⟩ := mn_cells (unhide HO) hlt
      have hG := (unhide HG4).q (unhide HQ)
      have g0 := hG.cell 0 rfl
      have g1 := hG.cell 1 rfl
      have g2 := hG.cell 2 rfl
      have HX := hide (mn_put (unhide HO) hlt)
      have HQX := hide ((((unhide HQ).setHi (k := w4.heap.size) (Nat.le_refl _) (k * 3) (.string ⟨#[97]⟩)).setHi (k := w4.heap.size) (Nat.le_refl _) (k * 3 + 1) (.int .i64 1)).setHi (k := w4.heap.size) (Nat.le_refl _) (k * 3 + 2) (.string ⟨#[120]⟩))
      clear hG
      have k2 : (k : Int) < (n : Int) := by omega
      have k0 : (0 : Int) ≤ (k : Int) := by omega
      go_wp2_with fail
      go_roundw
      case rel => exact ⟨k + 1, by omega, by go_num, HX, HQX⟩
      case measure => simp [intOf]; omega
    · have hkn : n = k := by omega
      subst hkn
      have hrow := mn_row (unhide HO)
      have hr256 : RowR wr (some ⟨w4.heap.size, 0, none⟩) (List.replicate 256 gR) := by
        have h := RowG.take hrow 256
        rwa [List.take_replicate, Nat.min_eq_left (by omega)] at h
      have hz : RsZ (List.replicate n gR) := fun r hr => by rw [(List.mem_replicate.1 hr).2]; exact gR_z
      have hz6 : RsZ (List.replicate 256 gR) := fun r hr => by rw [(List.mem_replicate.1 hr).2]; exact gR_z
      have hlg := mn_long (n := n) (by omega)
      have HT : Hid (∀ u, Q wr u → Vs u → Calls Tryd.prog 7 #[.slice (some ⟨w4.heap.size, 0, none⟩) n n] u fun e w' => e = .returned (.tuple #[.string ⟨#[]⟩, .int .i64 1400]) ∧ Q u w') := fun u q hv => by
        have h := loText_any (List.replicate n gR) (some ⟨w4.heap.size, 0, none⟩) n u hv (RowG.q hrow q) hz (by rw [List.length_replicate]; omega)
        rw [hlg.2.2, hlg.2.1, List.length_replicate] at h
        exact h
      have HM2 : Hid (∀ u, Q wr u → Calls Tryd.prog 13 #[.slice (some ⟨w4.heap.size, 0, none⟩) n n] u fun e w' => e = .returned (.bool false) ∧ Q u w') := fun u q => by
        have h := loMay_any (List.replicate n gR) (some ⟨w4.heap.size, 0, none⟩) n u (RowG.q hrow q) hz (by rw [List.length_replicate]; omega)
        rw [hlg.1, List.length_replicate] at h
        exact h
      have HM3 : Hid (∀ u, Q wr u → Calls Tryd.prog 13 #[.slice (some ⟨w4.heap.size, 0, none⟩) 256 n] u fun e w' => e = .returned (.bool true) ∧ Q u w') := fun u q => by
        have h := loMay_any (List.replicate 256 gR) (some ⟨w4.heap.size, 0, none⟩) n u (RowG.q hr256 q) hz6 (by rw [List.length_replicate]; omega)
        rw [mn_fit, List.length_replicate] at h
        exact h
      have HLD : Hid (∀ u, Vs u → Calls Tryd.prog 10 #[.string (mnT n)] u fun e w' => ∃ bo bcap, e = .returned (.slice bo 256 bcap) ∧ Q u w') := fun u hv => by
        have h := loLoad_any (mnT n) u hv (by rw [mnT_size]; omega)
        rw [mnT_load n (by omega), List.length_replicate] at h
        refine h.mono ?_
        rintro e w' ⟨bo, bcap, rfl, _, q2⟩
        exact ⟨bo, bcap, rfl, q2⟩
      have HQW := hide ((unhide HQ2).trans ((unhide HQC).trans (unhide HQ)))
      have HQB := hide ((unhide HQC).trans (unhide HQ))
      clear hrow hr256 hz hz6 hlg HO HQ HQ2 HQC HG4 hlt hk
      go_wp2_with fail
      refine (unhide HT _ (Q.refl _) ((unhide HV).q (unhide HQW))).mono ?_
      rintro e w6 ⟨rfl, q6⟩
      have HQ6 := hide q6
      clear q6 HT
      go_wp2_with fail
      go_loopw [19, 20] (fun s i wx => ∃ k : Nat, k ≤ n ∧ s = .string (mnT k) ∧ i = .int .i64 k ∧ wx = w6) (fun _ i _ => n - (intOf i).toNat)
      case atStart => exact ⟨0, Nat.zero_le _, rfl, rfl, rfl⟩
      case round =>
        obtain ⟨k, hk, rfl, rfl, rfl⟩ := hrel
        by_cases hlt : k < n
        · have hsz : (mnT k).size ≤ 2000 := by rw [mnT_size]; omega
          have HS := hide (mnT_succ k)
          have k2 : (k : Int) < (n : Int) := by omega
          have k0 : (0 : Int) ≤ (k : Int) := by omega
          go_wp2_with fail
          go_roundw
          case rel => exact ⟨k + 1, by omega, by rw [unhide HS], by go_num, trivial⟩
          case measure => simp [intOf]; omega
        · have hkn : n = k := by omega
          subst hkn
          have n0 : (256 : Int) ≤ (n : Int) := by omega
          have HU := hide (Q.refl wr)
          go_wp2_with (first
            | (go_at_call 8; refine (num_any _ _).mono ?_; rintro e w' ⟨rfl, hw'⟩; have hw2 := hw'.symm; clear hw'; subst hw2)
            | (go_at_call 10; refine (unhide HLD _ ((unhide HV).q ((unhide HQW).trans ((unhide HQ6).trans (unhide HU))))).mono ?_; rintro e u2 ⟨lo, lc, rfl, q2⟩; replace HU := hide ((unhide HU).trans q2); clear q2)
            | (go_at_call 13; (first | refine (unhide HM _ ((unhide HQB).trans ((unhide HQ6).trans (unhide HU)))).mono ?_ | refine (unhide HM2 _ ((unhide HQ6).trans (unhide HU))).mono ?_ | refine (unhide HM3 _ ((unhide HQ6).trans (unhide HU))).mono ?_); rintro e u1 ⟨rfl, q1⟩; replace HU := hide ((unhide HU).trans q1); clear q1))
          go_ret
          exact ⟨rfl, (unhide HQW).trans ((unhide HQ6).trans (unhide HU))⟩

set_option maxRecDepth 100000 in
theorem logForms_lifted (os : Os) (started : os.Started) (H : Type) (enc : TypeId × Value → H) :
    ReturnsInHanded {} Tryd.checked os 4 .any (fun w args => (Rows.logFormsSpec.pre enc Tryd.prog Tryd.f4 [] false w args ∧ laidMetH Tryd.prog Rows.logFormsRow.laid w) ∧ sizedMet enc Tryd.prog Tryd.f4 (OpenSpec.ofChange Rows.logFormsSpec) false w args) (Rows.logFormsSpec.post enc Tryd.prog Tryd.f4 false true false false) := by
  refine returnsInHanded_of_change_and (C := Tryd.checked) (X := fun w _ => laidMetH Tryd.prog Rows.logFormsRow.laid w) (fun _ _ _ hh h => h.of_heap hh) Tryd.own started (by kernel_rfl) Tryd.func4
    (ChangeSpec.witness_shaped (enc := enc) (C := Tryd.checked) (os := os) (X := fun w _ => laidMetH Tryd.prog Rows.logFormsRow.laid w) false (World.laidAll Tryd.prog os Rows.logFormsRow.laid) #[.int .i64 0, .int .i64 0] 8 (World.laidAll_os _ _ _)
      (World.shaped_of_ZipB (by kernel_rfl) (by kernel_rfl)) (by kernel_rfl) (by kernel_rfl) (by kernel_rfl)
      (by rw [MakeChecks.laidMetH_plain _ _ _ (by kernel_rfl)]; exact laidMet_laidAll _ (by kernel_rfl) (by kernel_rfl))) ?_
  intro W base args ds gs before hval0 hW _ hsz0 hL _
  have hval : ∀ (j : Nat) t v, Tryd.f4.params[j]? = some t → args[j]? = some v → Value.okWide Tryd.prog W .any base t v := hval0
  have hW' := hW
  obtain ⟨p, q, hA0, hV, rfl, hfz, hnd⟩ := hW
  have hA : DataW.TrodAll enc Tryd.prog W 0 (fun _ => true) true Tryd.f4.params.toList args.toList ds p := hA0
  rw [Tryd.params4] at hA hval
  obtain ⟨v0, vs0, d0, ds0, p0, q0, hargs, rfl, rfl, h0, r0⟩ := trodAll_cons hA
  obtain ⟨v1, vs1, d1, ds1, p1, q1, rfl, rfl, rfl, h1, r1⟩ := trodAll_cons r0
  obtain ⟨rfl, rfl, rfl⟩ := trodAll_nil r1
  obtain rfl : args = #[v0, v1] := by cases args; simp_all
  obtain ⟨rfl, rfl⟩ := trodVars_none hV
  obtain ⟨a0, rfl, rfl, rfl, w0⟩ := open_int Tryd.underlying3 (hval 0 3 v0 rfl rfl) h0
  obtain ⟨a1, rfl, rfl, rfl, w1⟩ := open_int Tryd.underlying3 (hval 1 3 v1 rfl rfl) h1
  clear hA0 hval0
  simp only [List.append_nil] at hW'
  refine (logForms_any a0 w0 a1 w1 W (vs_of_laid (laid := Rows.logFormsRow.laid) (by kernel_rfl) (by kernel_rfl) (by kernel_rfl) hL)).mono fun e W' ⟨he, bel⟩ => ?_
  subst he
  exact ⟨_, rfl, _, _, _, [], [], [], hW', trodAll_mk1 (shut_bool Tryd.underlying4 _), (trodAll_cons_mk (shut_int Tryd.underlying3 w0) (trodAll_cons_mk (shut_int Tryd.underlying3 w1) trodAll_mk0)), rfl, bel.frame _, fun h => by cases h⟩

theorem logForms_holds : Rows.LogFormsSaid :=
  OpenClaim.holds_of_wide 4 Tryd.f4 rfl rfl rfl rfl rfl rfl rfl ⟨rfl, rfl, rfl, rfl, rfl⟩ rfl rfl rfl rfl rfl (by kernel_rfl) Tryd.func4 (by kernel_rfl)
    (of_decide_eq_true (by kernel_rfl)) (by unfold Func.isWrapper; first | (rw [if_pos (by decide +kernel)]; kernel_rfl) | (rw [if_neg (by decide +kernel)]; exact ⟨rfl, rfl⟩))
    (fun os started H enc _ => logForms_lifted os started H enc)
theorem logForms_card : Rows.LogFormsCardSaid :=
  Claim7.holds_tied_plain_at .later [] [.data, .data, .data, .data, .sentinel, .sentinel, .pinned] true (true, "ccc20aa36e42e557f1d7cf2c5106c05d03d6dcfa28120e4e77c31c16c3dd47bd") true logForms_holds (fun _ h => by cases h) (by kernel_rfl) (fun _ h => by cases h) logForms_row_tie rfl ⟨rfl, rfl⟩ (by kernel_rfl) rfl
    (fun f fn hf hfn => by
      obtain rfl : f = 4 := Option.some.inj ((show Tryd.prog.funcNamed Rows.logFormsRow.func = some 4 by kernel_rfl).symm.trans hf) |>.symm
      obtain rfl : fn = Tryd.f4 := (Option.some.inj (Tryd.func4.symm.trans hfn)).symm
      exact ⟨by kernel_rfl, fun j t ht => by
        rw [Tryd.params4] at ht
        have hm : t ∈ [3, 3] := by simpa using Array.mem_of_getElem? ht
        have hall : ([3, 3].all fun u => !Tryd.prog.wantsStandIn u) = true := by kernel_rfl
        exact (show Tryd.prog.wantsStandIn t = false by simpa using List.all_eq_true.1 hall t hm)⟩)
    (by kernel_rfl)
#print axioms logForms_card

end Go.Proofs.YtgbegdgacjodcaaDoor
