/- The statement on lines holds for every text: package lines' Cut answers what the document's own answer says, in memory of its own; no conditions. -/
import Derived.Test.YthchjdegilhepaaDoorRows
import Derived.Test.YthchjdegilhepaaDoorCards
import Derived.Test.YthchjdegilhepaaDoorTie
import Derived.LaidMore
import Derived.Lay
import Derived.SevenTiedAt
import Derived.Stop.Joined
import Derived.ProofKit
import Derived.OpenShut
import Derived.ShutString
import Derived.ChangeOld
import Derived.Below
import Derived.SizedLaws
import Derived.Test.YthchjdegilhepaaDoorLnRef
import Derived.Test.YthchjdegilhepaaDoorLnAwake
namespace Go.Proofs.YthchjdegilhepaaDoor
open Go.ChangeShapes Go.WideShapes Go.ChangeAt Go.RowKit
open Go.ChangeMaps (open_string shut_string)

set_option maxHeartbeats 2000000 in
theorem lineses_any (s : ByteArray) (hs : s.size ≤ maxLen) (w : World) :
    Calls Tryd.prog 3 #[.string s] w fun e w' => e = .returned (.bool true) ∧ Q w w' := by
  obtain ⟨hl, hm⟩ := lnS_len (bl s)
  have HC := hide (cutl_any s)
  have HR := hide (rlines_any s)
  unfold CutSays at HC HR
  generalize lnS (bl s) = ps at *
  generalize lnE (bl s) = n at *
  have hn1 : (n == n) = true := by simp
  have hn2 : (n != n) = false := by simp
  go_enter Tryd.func3, Tryd.ntmps3
  go_wp2_with fail
  refine ((unhide HC) _ hs).mono ?_
  rintro e w1 ⟨ao, cap, rfl, hown, q1⟩
  go_wp2_with fail
  refine ((unhide HR) _ hs).mono ?_
  rintro e w2 ⟨bo, bcap, rfl, hown2, q2⟩
  have HO := hide (own_q hown q2)
  have HO2 := hide hown2
  clear hown hown2
  go_wp2_with fail
  refine (sameL_any ao bo cap bcap ps ps _ (OwnL.row (unhide HO)) (OwnL.row (unhide HO2)) (by omega)).mono ?_
  rintro e w3 ⟨rfl, q3⟩
  rw [decide_eq_true (rfl : ps = ps)]
  go_wp2_with fail
  refine (num_any _ _).mono ?_
  rintro e w3' ⟨rfl, rfl⟩
  go_wp2_with fail
  refine (spoilL_any ao cap w.heap.size ps _ (own_q (unhide HO) q3) (by omega) hm).mono ?_
  rintro e w4 ⟨rfl, q4⟩
  have q5 : Q w w4 := Below.trans (q1.trans (q2.trans q3)) q4
  clear q1 q2 q3 q4 HO HO2
  go_wp2_with fail
  refine (lnawake_any _).mono ?_
  rintro e w6 ⟨rfl, q6⟩
  go_wp2_with fail
  go_ret
  exact ⟨rfl, q5.trans q6⟩

set_option maxRecDepth 100000 in
theorem lineses_lifted (os : Os) (started : os.Started) (H : Type) (enc : TypeId × Value → H) :
    ReturnsInHanded {} Tryd.checked os 3 .any (fun w args => (Rows.linesesSpec.pre enc Tryd.prog Tryd.f3 [] false w args ∧ laidMetH Tryd.prog Rows.linesesRow.laid w) ∧ sizedMet enc Tryd.prog Tryd.f3 (OpenSpec.ofChange Rows.linesesSpec) false w args) (Rows.linesesSpec.post enc Tryd.prog Tryd.f3 false true false false) := by
  refine returnsInHanded_of_change_and (C := Tryd.checked) (X := fun w _ => laidMetH Tryd.prog Rows.linesesRow.laid w) (fun _ _ _ hh h => h.of_heap hh) Tryd.own started (by kernel_rfl) Tryd.func3
    (ChangeSpec.witness_shaped (enc := enc) (C := Tryd.checked) (os := os) (X := fun w _ => laidMetH Tryd.prog Rows.linesesRow.laid w) false (World.laidAll Tryd.prog os Rows.linesesRow.laid) #[.string ByteArray.empty] 8 (World.laidAll_os _ _ _)
      (World.shaped_of_ZipB (by kernel_rfl) (by kernel_rfl)) (by kernel_rfl) (by kernel_rfl) (by kernel_rfl)
      (by rw [MakeChecks.laidMetH_plain _ _ _ (by kernel_rfl)]; exact laidMet_laidAll _ (by kernel_rfl) (by kernel_rfl))) ?_
  intro W base args ds gs before hval0 hW _ hsz0 hL _
  have hval : ∀ (j : Nat) t v, Tryd.f3.params[j]? = some t → args[j]? = some v → Value.okWide Tryd.prog W .any base t v := hval0
  have hW' := hW
  obtain ⟨p, q, hA0, hV, rfl, hfz, hnd⟩ := hW
  have hA : DataW.TrodAll enc Tryd.prog W 0 (fun _ => true) true Tryd.f3.params.toList args.toList ds p := hA0
  rw [Tryd.params3] at hA hval
  obtain ⟨v0, vs0, d0, ds0, p0, q0, hargs, rfl, rfl, h0, r0⟩ := trodAll_cons hA
  obtain ⟨rfl, rfl, rfl⟩ := trodAll_nil r0
  obtain rfl : args = #[v0] := by cases args; simp_all
  obtain ⟨rfl, rfl⟩ := trodVars_none hV
  obtain ⟨a0, rfl, rfl, rfl, w0⟩ := open_string Tryd.underlying9 (hval 0 9 v0 rfl rfl) h0
  clear hA0 hval0
  simp only [List.append_nil] at hW'
  refine (lineses_any a0 w0 W).mono fun e W' ⟨he, bel⟩ => ?_
  subst he
  exact ⟨_, rfl, _, _, _, [], [], [], hW', trodAll_mk1 (shut_bool Tryd.underlying4 _), (trodAll_cons_mk (shut_string Tryd.underlying9 w0) trodAll_mk0), rfl, bel.frame _, fun h => by cases h⟩

theorem lineses_holds : Rows.LinesesSaid :=
  OpenClaim.holds_of_wide 3 Tryd.f3 rfl rfl rfl rfl rfl rfl rfl ⟨rfl, rfl, rfl, rfl, rfl⟩ rfl rfl rfl rfl rfl (by kernel_rfl) Tryd.func3 (by kernel_rfl)
    (of_decide_eq_true (by kernel_rfl)) (by unfold Func.isWrapper; first | (rw [if_pos (by decide +kernel)]; kernel_rfl) | (rw [if_neg (by decide +kernel)]; exact ⟨rfl, rfl⟩))
    (fun os started H enc _ => lineses_lifted os started H enc)
theorem lineses_card : Rows.LinesesCardSaid :=
  Claim7.holds_tied_plain_at .later [] [.data, .pinned] true (true, "be002fb75483f9dd850ebf38b52f8a9eb6525c7705505c172b325be768154826") false lineses_holds (fun _ h => by cases h) (by kernel_rfl) (fun _ h => by cases h) lineses_row_tie rfl ⟨rfl, rfl⟩ (by kernel_rfl) rfl
    (fun f fn hf hfn => by
      obtain rfl : f = 3 := Option.some.inj ((show Tryd.prog.funcNamed Rows.linesesRow.func = some 3 by kernel_rfl).symm.trans hf) |>.symm
      obtain rfl : fn = Tryd.f3 := (Option.some.inj (Tryd.func3.symm.trans hfn)).symm
      exact ⟨by kernel_rfl, fun j t ht => by
        rw [Tryd.params3] at ht
        have hm : t ∈ [9] := by simpa using Array.mem_of_getElem? ht
        have hall : ([9].all fun u => !Tryd.prog.wantsStandIn u) = true := by kernel_rfl
        exact (show Tryd.prog.wantsStandIn t = false by simpa using List.all_eq_true.1 hall t hm)⟩)
    (by kernel_rfl)
#print axioms lineses_card
end Go.Proofs.YthchjdegilhepaaDoor
