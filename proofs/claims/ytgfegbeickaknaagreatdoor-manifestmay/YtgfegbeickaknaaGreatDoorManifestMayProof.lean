/- The statement that what is parsed may be a graph holds for all texts; no conditions. -/
import Derived.Test.YtgfegbeickaknaaGreatDoorRows
import Derived.Test.YtgfegbeickaknaaGreatDoorCards
import Derived.Test.YtgfegbeickaknaaGreatDoorTie
import Derived.LaidMore
import Derived.Lay
import Derived.SevenTiedAt
import Derived.Stop.Joined
import Derived.ProofKit
import Derived.OpenShut
import Derived.ShutString
import Derived.ChangeOld
import Derived.Below
import Derived.SizedLaws
import Derived.Test.YtgfegbeickaknaaGreatDoorMfAwake
import Derived.Test.YtgfegbeickaknaaGreatDoorMfMayWalk
import Derived.Test.YtgfegbeickaknaaGreatDoorMfTab
namespace Go.Proofs.YtgfegbeickaknaaGreatDoor
open Go.ChangeShapes Go.WideShapes Go.ChangeAt Go.RowKit
open Go.ChangeMaps (open_string shut_string)

set_option maxRecDepth 20000 in
set_option maxHeartbeats 4000000 in
theorem manifestMay_any (s : ByteArray) (hs : s.size ≤ maxLen) (w : World) (htab : TabB w.heap.size w) :
    Calls Tryz.prog 8 #[.string s] w fun e w' => e = .returned (.bool true) ∧ Q w w' := by
  have HT := hide htab
  clear htab
  cases hm : mfL (bl s) with
  | error n =>
    have HM := hide hm
    have hn := mf_err hm
    clear hm
    rcases hn with rfl | rfl
    · go_enter Tryz.func8, Tryz.ntmps8
      go_wp2_with fail
      refine (mfawake_any _ (unhide HT)).mono ?_
      rintro e w1 ⟨rfl, q1⟩
      go_wp2_with fail
      refine (parse_bad s _ ((unhide HT).q q1) hs (unhide HM)).mono ?_
      rintro e w2 ⟨eo, po, dd, ec, pc, dc, rfl, q2⟩
      have q12 := q1.trans q2
      clear q1 q2
      go_wp2_with (go_at_call 12; refine (num_any _ _).mono ?_; rintro e w' ⟨rfl, rfl⟩)
      refine (same0_any eo po dd ec pc dc _).mono ?_
      rintro e w3 ⟨rfl, q3⟩
      go_wp2_with (go_at_call 12; refine (num_any _ _).mono ?_; rintro e w' ⟨rfl, rfl⟩)
      go_ret
      exact ⟨rfl, q12.trans (((Q.refl _).alloc _).trans q3)⟩
    · go_enter Tryz.func8, Tryz.ntmps8
      go_wp2_with fail
      refine (mfawake_any _ (unhide HT)).mono ?_
      rintro e w1 ⟨rfl, q1⟩
      go_wp2_with fail
      refine (parse_bad s _ ((unhide HT).q q1) hs (unhide HM)).mono ?_
      rintro e w2 ⟨eo, po, dd, ec, pc, dc, rfl, q2⟩
      have q12 := q1.trans q2
      clear q1 q2
      go_wp2_with (go_at_call 12; refine (num_any _ _).mono ?_; rintro e w' ⟨rfl, rfl⟩)
      refine (same0_any eo po dd ec pc dc _).mono ?_
      rintro e w3 ⟨rfl, q3⟩
      go_wp2_with (go_at_call 12; refine (num_any _ _).mono ?_; rintro e w' ⟨rfl, rfl⟩)
      go_ret
      exact ⟨rfl, q12.trans (((Q.refl _).alloc _).trans q3)⟩
  | ok g =>
    have HM := hide hm
    clear hm
    go_enter Tryz.func8, Tryz.ntmps8
    go_wp2_with fail
    refine (mfawake_any _ (unhide HT)).mono ?_
    rintro e w1 ⟨rfl, q1⟩
    go_wp2_with fail
    refine (parse_gr s _ ((unhide HT).q q1) hs (mf_of (unhide HM))).mono ?_
    rintro e w2 ⟨es, eo, po, dd, ec, pc, dc, rfl, hr, q2⟩
    have HR := hide hr
    have q12 := q1.trans q2
    clear q1 q2 hr
    go_wp2_with (go_at_call 12; refine (num_any _ _).mono ?_; rintro e w' ⟨rfl, rfl⟩)
    refine (graphMay_ok g es eo po dd ec pc dc _ ((unhide HR).q' ((Q.refl _).alloc _)) (mf_may (unhide HM))).mono ?_
    rintro e w3 ⟨rfl, q3⟩
    go_wp2_with fail
    go_ret
    exact ⟨rfl, q12.trans (((Q.refl _).alloc _).trans q3)⟩

set_option maxRecDepth 100000 in
theorem manifestMay_lifted (os : Os) (started : os.Started) (H : Type) (enc : TypeId × Value → H) :
    ReturnsInHanded {} Tryz.checked os 8 .any (fun w args => (Rows.manifestMaySpec.pre enc Tryz.prog Tryz.f8 [] false w args ∧ laidMetH Tryz.prog Rows.manifestMayRow.laid w) ∧ sizedMet enc Tryz.prog Tryz.f8 (OpenSpec.ofChange Rows.manifestMaySpec) false w args) (Rows.manifestMaySpec.post enc Tryz.prog Tryz.f8 false true false false) := by
  refine returnsInHanded_of_change_and (C := Tryz.checked) (X := fun w _ => laidMetH Tryz.prog Rows.manifestMayRow.laid w) (fun _ _ _ hh h => h.of_heap hh) Tryz.own started (by kernel_rfl) Tryz.func8
    (ChangeSpec.witness_shaped (enc := enc) (C := Tryz.checked) (os := os) (X := fun w _ => laidMetH Tryz.prog Rows.manifestMayRow.laid w) false (World.laidAll Tryz.prog os Rows.manifestMayRow.laid) #[.string ByteArray.empty] 8 (World.laidAll_os _ _ _)
      (World.shaped_of_ZipB (by kernel_rfl) (by kernel_rfl)) (by kernel_rfl) (by kernel_rfl) (by kernel_rfl)
      (by rw [MakeChecks.laidMetH_plain _ _ _ (by kernel_rfl)]; exact laidMet_laidAll _ (by kernel_rfl) (by kernel_rfl))) ?_
  intro W base args ds gs before hval0 hW _ hsz0 hL _
  have hval : ∀ (j : Nat) t v, Tryz.f8.params[j]? = some t → args[j]? = some v → Value.okWide Tryz.prog W .any base t v := hval0
  have hW' := hW
  obtain ⟨p, q, hA0, hV, rfl, hfz, hnd⟩ := hW
  have hA : DataW.TrodAll enc Tryz.prog W 0 (fun _ => true) true Tryz.f8.params.toList args.toList ds p := hA0
  rw [Tryz.params8] at hA hval
  obtain ⟨v0, vs0, d0, ds0, p0, q0, hargs, rfl, rfl, h0, r0⟩ := trodAll_cons hA
  obtain ⟨rfl, rfl, rfl⟩ := trodAll_nil r0
  obtain rfl : args = #[v0] := by cases args; simp_all
  obtain ⟨rfl, rfl⟩ := trodVars_none hV
  obtain ⟨a0, rfl, rfl, rfl, w0⟩ := open_string Tryz.underlying9 (hval 0 9 v0 rfl rfl) h0
  clear hA0 hval0
  simp only [List.append_nil] at hW'
  refine (manifestMay_any a0 w0 W (tab_of_laid (laid := Rows.manifestMayRow.laid) (by kernel_rfl) hL)).mono fun e W' ⟨he, bel⟩ => ?_
  subst he
  exact ⟨_, rfl, _, _, _, [], [], [], hW', trodAll_mk1 (shut_bool Tryz.underlying4 _), (trodAll_cons_mk (shut_string Tryz.underlying9 w0) trodAll_mk0), rfl, bel.frame _, fun h => by cases h⟩

theorem manifestMay_holds : Rows.ManifestMaySaid :=
  OpenClaim.holds_of_wide 8 Tryz.f8 rfl rfl rfl rfl rfl rfl rfl ⟨rfl, rfl, rfl, rfl, rfl⟩ rfl rfl rfl rfl rfl (by kernel_rfl) Tryz.func8 (by kernel_rfl)
    (of_decide_eq_true (by kernel_rfl)) (by unfold Func.isWrapper; first | (rw [if_pos (by decide +kernel)]; kernel_rfl) | (rw [if_neg (by decide +kernel)]; exact ⟨rfl, rfl⟩))
    (fun os started H enc _ => manifestMay_lifted os started H enc)
theorem manifestMay_card : Rows.ManifestMayCardSaid :=
  Claim7.holds_tied_plain_at .later [] [.data, .listed, .data, .pinned] true (true, "8dec6f50e5afba32322cf8ec189691581cdc57b45edadbf051f5816f0efe4019") false manifestMay_holds (fun _ h => by cases h) (by kernel_rfl) (fun _ h => by cases h) manifestMay_row_tie rfl ⟨rfl, rfl⟩ (by kernel_rfl) rfl
    (fun f fn hf hfn => by
      obtain rfl : f = 8 := Option.some.inj ((show Tryz.prog.funcNamed Rows.manifestMayRow.func = some 8 by kernel_rfl).symm.trans hf) |>.symm
      obtain rfl : fn = Tryz.f8 := (Option.some.inj (Tryz.func8.symm.trans hfn)).symm
      exact ⟨by kernel_rfl, fun j t ht => by
        rw [Tryz.params8] at ht
        have hm : t ∈ [9] := by simpa using Array.mem_of_getElem? ht
        have hall : ([9].all fun u => !Tryz.prog.wantsStandIn u) = true := by kernel_rfl
        exact (show Tryz.prog.wantsStandIn t = false by simpa using List.all_eq_true.1 hall t hm)⟩)
    (by kernel_rfl)
#print axioms manifestMay_card
end Go.Proofs.YtgfegbeickaknaaGreatDoor
