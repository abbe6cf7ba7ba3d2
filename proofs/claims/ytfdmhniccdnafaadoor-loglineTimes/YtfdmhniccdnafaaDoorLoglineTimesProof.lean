/- Each time from 1 to 1048576 is told in its digits, and comes back: any number; no conditions. -/
import Derived.Test.YtfdmhniccdnafaaDoorRows
import Derived.Test.YtfdmhniccdnafaaDoorCards
import Derived.Test.YtfdmhniccdnafaaDoorTie
import Derived.LaidMore
import Derived.Lay
import Derived.SevenTiedAt
import Derived.Stop.Joined
import Derived.ProofKit
import Derived.OpenShut
import Derived.ShutString
import Derived.ChangeOld
import Derived.Below
import Derived.SizedLaws
import Derived.Test.YtfdmhniccdnafaaDoorLgOpen
import Derived.Test.YtfdmhniccdnafaaDoorBitPlain
import Derived.Test.YtfdmhniccdnafaaDoorLgTmPlain
namespace Go.Proofs.YtfdmhniccdnafaaDoor
open Go.ChangeShapes Go.WideShapes Go.ChangeAt Go.RowKit

set_option maxRecDepth 20000 in
set_option maxHeartbeats 8000000 in
theorem loglineTimes_any (a : Int) (_ : Lit.wf (.int .i64 a) = true) (w : World) (hv : Vs w) :
    Calls Tryd.prog 6 #[.int .i64 a] w fun e w' => e = .returned (.bool true) ∧ Q w w' := by
  obtain ⟨k, hk, hmod⟩ := umodC a 1048576 (by decide) (by decide)
  have hmod' : wrap64 ((IntKind.u64.wrap a).tmod 1048576) = (k : Int) := hmod
  clear hmod
  obtain ⟨t, ht⟩ : ∃ t : Int, t = 1 + (k : Int) := ⟨_, rfl⟩
  have htb : tmB1 t = true := by unfold tmB1; simp; omega
  have hok := tm_ok htb
  have hw1 : IntKind.i64.wrap (1 + (k : Int)) = t := by rw [IntKind.wrap_i64]; omega
  have H7 := hide lgawake_any
  have HV := hide hv
  have hz : (tmR t).1.length ≤ maxLen ∧ (tmR t).2.2.length ≤ maxLen := by unfold tmR maxLen; simp
  have hxl : (⟨(rcT (tmR t)).toArray⟩ : ByteArray).size = (dc t).length + 5 := by rw [mk_size', tm_len]
  have hn := dc_len t
  have H1 := hide (fun w (hv : Vs w) => lgPut_any (tmR t) w hv hz.1 hz.2)
  have H2 := hide (fun w (hv : Vs w) => lgGet_any ⟨(rcT (tmR t)).toArray⟩ w hv (by omega))
  rw [show bl (⟨(rcT (tmR t)).toArray⟩ : ByteArray) = rcT (tmR t) from rfl] at H2
  rw [(lg_yes hok).1, (lg_yes hok).2] at H1
  rw [show gtR (rcT (tmR t)) = tmR t by unfold gtR; rw [gt_line hok]; rfl, show gtE (rcT (tmR t)) = 0 by unfold gtE; rw [gt_line hok]; rfl] at H2
  have HRV : Hid (rcV (tmR t) = .agg #[.string ⟨#[111]⟩, .int .i64 t, .string ⟨#[120]⟩]) := rfl
  rw [unhide HRV] at H1 H2
  have hb0 : bl (⟨(rcT (tmR t)).toArray⟩ : ByteArray) = rcT (tmR t) := rfl
  have h2 := tm_two t
  have h3 := tm_three t
  have h4 := tm_head htb
  have HAT := hide (fun k h => tm_at (t := t) (k := k) h)
  have HVL := hide (tm_vl htb)
  have HDG := hide (tm_dig t)
  clear HRV hv hz htb hok
  rw [← hb0] at h2 h3 h4 HAT
  generalize (⟨(rcT (tmR t)).toArray⟩ : ByteArray) = xt at *
  generalize hD : dc t = D at *
  obtain ⟨n, hn'⟩ : ∃ n, D.length = n := ⟨_, rfl⟩
  rw [hn'] at hn hxl h3
  clear hb0
  have e2 : ((xt.extract 0 2).toList == [111, 9]) = true := by rw [bl_toList, bl_extract]; simp [h2]
  have e3 : ((xt.extract (n + 2) xt.size).toList == [9, 120, 10]) = true := by
    rw [bl_toList, bl_extract, List.take_of_length_le (by rw [bl_size]; exact Nat.le_refl _), h3]; rfl
  have l2 : 2 < xt.size := by omega
  have e4 : ((xt[2].toNat : Int) == 48) = false := by
    rw [bl_getElem xt 2 l2] at h4
    exact beq_eq_false_iff_ne.2 fun e => h4 (congrArg some (UInt8.toNat_inj.1 (by show _ = 48; omega)))
  have l6 : (6 : Int) ≤ (xt.size : Int) := by omega
  have HXL := hide hxl
  have HN := hide hn'
  have s3 : ((xt.size : Int) - 3).toNat = n + 2 := by omega
  have s3' : (xt.size : Int) - 3 = ((n + 2 : Nat) : Int) := by omega
  have HTT := hide ht
  clear h2 h3 h4 hxl hn' hk ht
  go_enter Tryd.func6, Tryd.ntmps6
  go_wp2_with fail
  refine (unhide H7 _ (unhide HV)).mono ?_
  rintro e w1 ⟨rfl, q1⟩
  have HQ1 := hide q1
  clear q1
  go_wp2_with fail
  refine (unhide H1 _ ((unhide HV).q (unhide HQ1))).mono ?_
  rintro e w2 ⟨rfl, q2⟩
  have HQ2 := hide ((unhide HQ1).trans q2)
  clear q2
  go_wp2_with fail
  refine (unhide H2 _ ((unhide HV).q (unhide HQ2))).mono ?_
  rintro e w3 ⟨rfl, q3⟩
  have HQ3 := hide ((unhide HQ2).trans (q3.trans (bxR_q w3 ⟨#[111]⟩ t ⟨#[120]⟩)))
  obtain ⟨c0, c1, c2⟩ := bxR_at (w := w3) (x := ⟨#[111]⟩) (t := t) (y := ⟨#[120]⟩) (Q.refl _)
  unfold bxR at c0 c1 c2 HQ3
  clear q3
  go_wp2_with (go_at_call 11; refine (num_any _ _).mono ?_; rintro e w4 ⟨rfl, rfl⟩)
  go_loop [8, 9] (fun x i => ∃ j : Nat, 2 ≤ j ∧ j ≤ n + 2 ∧ x = .int .i64 (vlD (D.take (j - 2))) ∧ i = .int .i64 j) (fun _ i => n + 2 - (intOf i).toNat)
  case atStart => exact ⟨2, Nat.le_refl _, by omega, rfl, rfl⟩
  case round =>
    obtain ⟨j, hj2, hj, rfl, rfl⟩ := hrel
    by_cases hlt : j < n + 2
    · have lj : j < xt.size := by have := unhide HXL; omega
      have hlD : j - 2 < D.length := by have := unhide HN; omega
      have hat := unhide HAT (j - 2) hlD
      rw [show j - 2 + 2 = j by omega, bl_getElem xt j lj] at hat
      have hx := Option.some.inj hat
      have hdg := unhide HDG D[j - 2] (List.getElem_mem hlD)
      rw [← hx] at hdg
      have HS : Hid (vlD (D.take (j + 1 - 2)) = 10 * vlD (D.take (j - 2)) + ((xt[j].toNat : Int) - 48)) := by
        show _ = _
        rw [show j + 1 - 2 = j - 2 + 1 by omega, List.take_add_one, List.getElem?_eq_getElem hlD, hx]
        exact vlD_snoc _ _
      have hvb := vlD_le (D.take (j - 2)) 8 (fun c hc => unhide HDG c (List.mem_of_mem_take hc)) (by rw [List.length_take]; omega) (Nat.le_refl _)
      generalize vlD (D.take (j - 2)) = v at HS hvb
      obtain ⟨v0, v1⟩ := hvb
      have g1 : (48 : Int) ≤ (xt[j].toNat : Int) := by omega
      have g2 : (xt[j].toNat : Int) ≤ 57 := by omega
      have k0 : (0 : Int) ≤ (j : Int) := by omega
      have k1 : (j : Int) < (xt.size : Int) := by omega
      have k2 : (j : Int) < ((n + 2 : Nat) : Int) := by omega
      have e5 : IntKind.u8.wrap ((xt[j].toNat : Int) - 48) = (xt[j].toNat : Int) - 48 := by rw [IntKind.wrap_u8]; omega
      have e6 : IntKind.i64.wrap (10 * v) = 10 * v := by rw [IntKind.wrap_i64]; omega
      have e7 : IntKind.i64.wrap (10 * v + ((xt[j].toNat : Int) - 48)) = 10 * v + ((xt[j].toNat : Int) - 48) := by rw [IntKind.wrap_i64]; omega
      clear hat hx hdg hlD
      go_wp2_with fail
      go_round
      case rel => exact ⟨j + 1, by omega, by omega, by rw [unhide HS], by go_num⟩
      case measure => simp [intOf]; omega
    · obtain rfl : j = n + 2 := by omega
      have HE : Hid (vlD (D.take n) = t) := by
        show _ = _
        rw [List.take_of_length_le (by rw [unhide HN]; omega)]; exact unhide HVL
      go_wp2_with fail
      go_ret
      exact ⟨ret_bool (by rw [unhide HE]; simp), unhide HQ3⟩

set_option maxRecDepth 100000 in
theorem loglineTimes_lifted (os : Os) (started : os.Started) (H : Type) (enc : TypeId × Value → H) :
    ReturnsInHanded {} Tryd.checked os 6 .any (fun w args => (Rows.loglineTimesSpec.pre enc Tryd.prog Tryd.f6 [] false w args ∧ laidMetH Tryd.prog Rows.loglineTimesRow.laid w) ∧ sizedMet enc Tryd.prog Tryd.f6 (OpenSpec.ofChange Rows.loglineTimesSpec) false w args) (Rows.loglineTimesSpec.post enc Tryd.prog Tryd.f6 false true false false) := by
  refine returnsInHanded_of_change_and (C := Tryd.checked) (X := fun w _ => laidMetH Tryd.prog Rows.loglineTimesRow.laid w) (fun _ _ _ hh h => h.of_heap hh) Tryd.own started (by kernel_rfl) Tryd.func6
    (ChangeSpec.witness_shaped (enc := enc) (C := Tryd.checked) (os := os) (X := fun w _ => laidMetH Tryd.prog Rows.loglineTimesRow.laid w) false (World.laidAll Tryd.prog os Rows.loglineTimesRow.laid) #[.int .i64 0] 8 (World.laidAll_os _ _ _)
      (World.shaped_of_ZipB (by kernel_rfl) (by kernel_rfl)) (by kernel_rfl) (by kernel_rfl) (by kernel_rfl)
      (by rw [MakeChecks.laidMetH_plain _ _ _ (by kernel_rfl)]; exact laidMet_laidAll _ (by kernel_rfl) (by kernel_rfl))) ?_
  intro W base args ds gs before hval0 hW _ hsz0 hL _
  have hval : ∀ (j : Nat) t v, Tryd.f6.params[j]? = some t → args[j]? = some v → Value.okWide Tryd.prog W .any base t v := hval0
  have hW' := hW
  obtain ⟨p, q, hA0, hV, rfl, hfz, hnd⟩ := hW
  have hA : DataW.TrodAll enc Tryd.prog W 0 (fun _ => true) true Tryd.f6.params.toList args.toList ds p := hA0
  rw [Tryd.params6] at hA hval
  obtain ⟨v0, vs0, d0, ds0, p0, q0, hargs, rfl, rfl, h0, r0⟩ := trodAll_cons hA
  obtain ⟨rfl, rfl, rfl⟩ := trodAll_nil r0
  obtain rfl : args = #[v0] := by cases args; simp_all
  obtain ⟨rfl, rfl⟩ := trodVars_none hV
  obtain ⟨a0, rfl, rfl, rfl, w0⟩ := open_int Tryd.underlying3 (hval 0 3 v0 rfl rfl) h0
  clear hA0 hval0
  simp only [List.append_nil] at hW'
  refine (loglineTimes_any a0 w0 W (vs_of_laid (laid := Rows.loglineTimesRow.laid) (by kernel_rfl) (by kernel_rfl) (by kernel_rfl) hL)).mono fun e W' ⟨he, bel⟩ => ?_
  subst he
  exact ⟨_, rfl, _, _, _, [], [], [], hW', trodAll_mk1 (shut_bool Tryd.underlying4 _), (trodAll_cons_mk (shut_int Tryd.underlying3 w0) trodAll_mk0), rfl, bel.frame _, fun h => by cases h⟩

theorem loglineTimes_holds : Rows.LoglineTimesSaid :=
  OpenClaim.holds_of_wide 6 Tryd.f6 rfl rfl rfl rfl rfl rfl rfl ⟨rfl, rfl, rfl, rfl, rfl⟩ rfl rfl rfl rfl rfl (by kernel_rfl) Tryd.func6 (by kernel_rfl)
    (of_decide_eq_true (by kernel_rfl)) (by unfold Func.isWrapper; first | (rw [if_pos (by decide +kernel)]; kernel_rfl) | (rw [if_neg (by decide +kernel)]; exact ⟨rfl, rfl⟩))
    (fun os started H enc _ => loglineTimes_lifted os started H enc)
theorem loglineTimes_card : Rows.LoglineTimesCardSaid :=
  Claim7.holds_tied_plain_at .later [] [.data, .data, .data, .data, .sentinel, .sentinel, .pinned] true (true, "7165f7ac17c046a90c7350451bbd4585325d87011bf465bafcde6f6fdd1da4da") true loglineTimes_holds (fun _ h => by cases h) (by kernel_rfl) (fun _ h => by cases h) loglineTimes_row_tie rfl ⟨rfl, rfl⟩ (by kernel_rfl) rfl
    (fun f fn hf hfn => by
      obtain rfl : f = 6 := Option.some.inj ((show Tryd.prog.funcNamed Rows.loglineTimesRow.func = some 6 by kernel_rfl).symm.trans hf) |>.symm
      obtain rfl : fn = Tryd.f6 := (Option.some.inj (Tryd.func6.symm.trans hfn)).symm
      exact ⟨by kernel_rfl, fun j t ht => by
        rw [Tryd.params6] at ht
        have hm : t ∈ [3] := by simpa using Array.mem_of_getElem? ht
        have hall : ([3].all fun u => !Tryd.prog.wantsStandIn u) = true := by kernel_rfl
        exact (show Tryd.prog.wantsStandIn t = false by simpa using List.all_eq_true.1 hall t hm)⟩)
    (by kernel_rfl)
#print axioms loglineTimes_card

end Go.Proofs.YtfdmhniccdnafaaDoor
