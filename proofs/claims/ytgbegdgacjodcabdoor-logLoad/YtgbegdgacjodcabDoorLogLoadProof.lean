/- What is loaded of any text is a log that may be, and is told again as the text begins; no conditions. -/
import Derived.Test.YtgbegdgacjodcabDoorRows
import Derived.Test.YtgbegdgacjodcabDoorCards
import Derived.Test.YtgbegdgacjodcabDoorTie
import Derived.LaidMore
import Derived.Lay
import Derived.SevenTiedAt
import Derived.Stop.Joined
import Derived.ProofKit
import Derived.OpenShut
import Derived.ShutString
import Derived.ChangeOld
import Derived.Below
import Derived.SizedLaws
import Derived.Test.YtgbegdgacjodcabDoorLoAwake
import Derived.Test.YtgbegdgacjodcabDoorLoFit
namespace Go.Proofs.YtgbegdgacjodcabDoor
open Go.ChangeShapes Go.WideShapes Go.ChangeAt Go.RowKit
open Go.ChangeMaps (open_string shut_string)

set_option maxRecDepth 20000 in
set_option maxHeartbeats 8000000 in
theorem logLoad_any (s : ByteArray) (hs : s.size ≤ reachBytes) (w : World) (hv : Vs w) :
    Calls Tryd.prog 4 #[.string s] w fun e w' => e = .returned (.bool true) ∧ Q w w' := by
  have hs' : s.size ≤ 140737488355328 := by unfold reachBytes at hs; omega
  have HV := hide hv
  have HA := hide (loawake_any w hv)
  have HL := hide (fun u (hv : Vs u) => loLoad_any s u hv hs')
  have hok := ldL_may (bl s)
  have HZ := hide (ld_fit (bl s))
  have HN := hide (ld_small (bl s))
  obtain ⟨x, hx⟩ := ld_pre 256 (bl s)
  obtain ⟨z1, z2⟩ := pre_cut (T := loL (ldL (bl s))) hx
  have HT := hide (lo_yes hok)
  clear hx hv hs
  generalize ldL (bl s) = L at HL hok HZ HN HT z1 z2
  have HOK := hide hok
  have HTX := hide (fun u ao cap (hv : Vs u) (hr : RowR u ao L) => loText_any L ao cap u hv hr HZ.out (by have := HN.out; omega))
  have HM := hide (fun u ao cap (hr : RowR u ao L) => loMay_any L ao cap u hr HZ.out (by have := HN.out; omega))
  rw [HT.out.1, HT.out.2] at HTX
  rw [hok] at HM
  generalize (⟨(loL L).toArray⟩ : ByteArray) = xt at HTX z1 z2
  have z1' : (xt.size : Int) ≤ (s.size : Int) := by omega
  have z0 : (0 : Int) ≤ (xt.size : Int) := Int.natCast_nonneg _
  have z3 : ((s.extract 0 xt.size).toList == xt.toList) = true := by rw [z2]; simp
  clear z1 z2 hok HT HOK
  go_enter Tryd.func4, Tryd.ntmps4
  go_wp2_with fail
  refine (unhide HA).mono ?_
  rintro e w1 ⟨rfl, q1⟩
  have HQ := hide q1
  clear q1
  go_wp2_with fail
  refine (unhide HL _ (HV.out.q (unhide HQ))).mono ?_
  rintro e w2 ⟨lo, lc, rfl, own, q2⟩
  replace HQ := hide ((unhide HQ).trans q2)
  have HR := hide (OwnR.row own)
  clear q2 own
  go_wp2_with fail
  refine (unhide HTX _ _ _ (HV.out.q (unhide HQ)) HR.out).mono ?_
  rintro e w3 ⟨rfl, q3⟩
  replace HQ := hide ((unhide HQ).trans q3)
  replace HR := hide (RowG.q (unhide HR) q3)
  clear q3
  go_wp2_with (go_at_call 10; refine (num_any _ _).mono ?_; rintro e w' ⟨rfl, hw'⟩; have hw2 := hw'.symm; clear hw'; subst hw2)
  refine (unhide HM _ _ _ HR.out).mono ?_
  rintro e w4 ⟨rfl, q4⟩
  go_wp2_with fail
  go_ret
  exact ⟨rfl, (unhide HQ).trans q4⟩

set_option maxRecDepth 100000 in
theorem logLoad_lifted (os : Os) (started : os.Started) (H : Type) (enc : TypeId × Value → H) :
    ReturnsInHanded {} Tryd.checked os 4 .any (fun w args => (Rows.logLoadSpec.pre enc Tryd.prog Tryd.f4 [] false w args ∧ laidMetH Tryd.prog Rows.logLoadRow.laid w) ∧ sizedMet enc Tryd.prog Tryd.f4 (OpenSpec.ofChange Rows.logLoadSpec) false w args) (Rows.logLoadSpec.post enc Tryd.prog Tryd.f4 false true false false) := by
  refine returnsInHanded_of_change_and (C := Tryd.checked) (X := fun w _ => laidMetH Tryd.prog Rows.logLoadRow.laid w) (fun _ _ _ hh h => h.of_heap hh) Tryd.own started (by kernel_rfl) Tryd.func4
    (ChangeSpec.witness_shaped (enc := enc) (C := Tryd.checked) (os := os) (X := fun w _ => laidMetH Tryd.prog Rows.logLoadRow.laid w) false (World.laidAll Tryd.prog os Rows.logLoadRow.laid) #[.string ByteArray.empty] 8 (World.laidAll_os _ _ _)
      (World.shaped_of_ZipB (by kernel_rfl) (by kernel_rfl)) (by kernel_rfl) (by kernel_rfl) (by kernel_rfl)
      (by rw [MakeChecks.laidMetH_plain _ _ _ (by kernel_rfl)]; exact laidMet_laidAll _ (by kernel_rfl) (by kernel_rfl))) ?_
  intro W base args ds gs before hval0 hW _ hsz0 hL _
  have hval : ∀ (j : Nat) t v, Tryd.f4.params[j]? = some t → args[j]? = some v → Value.okWide Tryd.prog W .any base t v := hval0
  have hW' := hW
  obtain ⟨p, q, hA0, hV, rfl, hfz, hnd⟩ := hW
  have hA : DataW.TrodAll enc Tryd.prog W 0 (fun _ => true) true Tryd.f4.params.toList args.toList ds p := hA0
  rw [Tryd.params4] at hA hval
  rw [Tryd.params4] at hsz0
  obtain ⟨v0, vs0, d0, ds0, p0, q0, hargs, rfl, rfl, h0, r0⟩ := trodAll_cons hA
  obtain ⟨rfl, rfl, rfl⟩ := trodAll_nil r0
  obtain rfl : args = #[v0] := by cases args; simp_all
  obtain ⟨rfl, rfl⟩ := trodVars_none hV
  obtain ⟨a0, rfl, rfl, rfl, w0⟩ := open_string Tryd.underlying9 (hval 0 9 v0 rfl rfl) h0
  have y0 : a0.size ≤ reachBytes := by have h := sized_string hsz0 (j := 0) (t := 9) rfl rfl; first | exact Nat.le_trans (Nat.le_of_eq (bl_size _).symm) h | (rw [bl_toList, bl_size] at h; exact h)
  clear hA0 hval0
  simp only [List.append_nil] at hW'
  refine (logLoad_any a0 y0 W (vs_of_laid (laid := Rows.logLoadRow.laid) (by kernel_rfl) (by kernel_rfl) (by kernel_rfl) hL)).mono fun e W' ⟨he, bel⟩ => ?_
  subst he
  exact ⟨_, rfl, _, _, _, [], [], [], hW', trodAll_mk1 (shut_bool Tryd.underlying4 _), (trodAll_cons_mk (shut_string Tryd.underlying9 w0) trodAll_mk0), rfl, bel.frame _, fun h => by cases h⟩

theorem logLoad_holds : Rows.LogLoadSaid :=
  OpenClaim.holds_of_wide 4 Tryd.f4 rfl rfl rfl rfl rfl rfl rfl ⟨rfl, rfl, rfl, rfl, rfl⟩ rfl rfl rfl rfl rfl (by kernel_rfl) Tryd.func4 (by kernel_rfl)
    (of_decide_eq_true (by kernel_rfl)) (by unfold Func.isWrapper; first | (rw [if_pos (by decide +kernel)]; kernel_rfl) | (rw [if_neg (by decide +kernel)]; exact ⟨rfl, rfl⟩))
    (fun os started H enc _ => logLoad_lifted os started H enc)
theorem logLoad_card : Rows.LogLoadCardSaid :=
  Claim7.holds_tied_plain_at .later [] [.data, .data, .data, .data, .sentinel, .sentinel, .pinned] true (true, "24e60f6f5039ff5b6a9b2c6abd0a24dc39ea0c97356618e69ae056e6fdc7bf21") true logLoad_holds (fun _ h => by cases h) (by kernel_rfl) (fun _ h => by cases h) logLoad_row_tie rfl ⟨rfl, rfl⟩ (by kernel_rfl) rfl
    (fun f fn hf hfn => by
      obtain rfl : f = 4 := Option.some.inj ((show Tryd.prog.funcNamed Rows.logLoadRow.func = some 4 by kernel_rfl).symm.trans hf) |>.symm
      obtain rfl : fn = Tryd.f4 := (Option.some.inj (Tryd.func4.symm.trans hfn)).symm
      exact ⟨by kernel_rfl, fun j t ht => by
        rw [Tryd.params4] at ht
        have hm : t ∈ [9] := by simpa using Array.mem_of_getElem? ht
        have hall : ([9].all fun u => !Tryd.prog.wantsStandIn u) = true := by kernel_rfl
        exact (show Tryd.prog.wantsStandIn t = false by simpa using List.all_eq_true.1 hall t hm)⟩)
    (by kernel_rfl)
#print axioms logLoad_card

end Go.Proofs.YtgbegdgacjodcabDoor
