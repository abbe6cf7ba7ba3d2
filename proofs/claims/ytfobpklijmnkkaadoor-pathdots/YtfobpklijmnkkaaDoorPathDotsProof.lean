/- The statement on points that turn nothing holds for every text and number; no conditions. -/
import Derived.Test.YtfobpklijmnkkaaDoorRows
import Derived.Test.YtfobpklijmnkkaaDoorCards
import Derived.Test.YtfobpklijmnkkaaDoorTie
import Derived.LaidMore
import Derived.Lay
import Derived.SevenTiedAt
import Derived.Stop.Joined
import Derived.ProofKit
import Derived.OpenShut
import Derived.ShutString
import Derived.ChangeOld
import Derived.Below
import Derived.Test.YtfobpklijmnkkaaDoorPtAwake
import Derived.Test.YtfobpklijmnkkaaDoorBitPlain
namespace Go.Proofs.YtfobpklijmnkkaaDoor
open Go.ChangeShapes Go.WideShapes Go.ChangeAt Go.RowKit
open Go.ChangeMaps (open_string shut_string)

set_option maxHeartbeats 2000000 in
theorem pathDots_any (s : ByteArray) (hs : s.size ≤ maxLen) (which : Int) (_ : (Lit.int .i64 which).wf = true) (w : World) :
    Calls Tryd.prog 6 #[.string s, .int .i64 which] w fun e w' => e = .returned (.bool true) ∧ Q w w' := by
  rcases clean_cases (bl s) with ⟨_, e1, e2⟩ | ⟨a, hc, e1, e2, e3, e4, hl⟩
  · have E1 := hide e1
    have E2 := hide e2
    clear e1 e2
    go_enter Tryd.func6, Tryd.ntmps6
    go_wp2_with fail
    refine (pawake_any _).mono ?_
    rintro e w1 ⟨rfl, q1⟩
    go_wp2_with fail
    refine (clean_of s _ hs ⟨unhide E1, unhide E2⟩).mono ?_
    rintro e w2 ⟨rfl, q2⟩
    go_wp2_with fail
    refine (num_any _ _).mono ?_
    rintro e w2' ⟨rfl, rfl⟩
    go_wp2_with fail
    go_ret
    exact ⟨rfl, q1.trans q2⟩
  have E1 := hide e1
  have E2 := hide e2
  have E3 := hide e3
  have E4 := hide e4
  clear e1 e2 e3 e4
  have hsz : (⟨a.toArray⟩ : ByteArray).size = a.length := by simp [ByteArray.size]
  have hb : (a == a) = true := by simp
  by_cases h9 : 9 < a.length
  · have hem : a.isEmpty = false := by
      cases a with
      | nil => simp at h9
      | cons x y => rfl
    go_enter Tryd.func6, Tryd.ntmps6
    go_wp2_with fail
    refine (pawake_any _).mono ?_
    rintro e w1 ⟨rfl, q1⟩
    go_wp2_with fail
    refine (clean_of s _ hs ⟨unhide E1, unhide E2⟩).mono ?_
    rintro e w2 ⟨rfl, q2⟩
    go_wp2_with fail
    refine (num_any _ _).mono ?_
    rintro e w2' ⟨rfl, rfl⟩
    go_wp2_with fail
    go_ret
    exact ⟨rfl, q1.trans q2⟩
  have D := hide (dots hc (by omega))
  obtain ⟨k, hk6, hk⟩ := umod which 6 (by decide) (by decide)
  clear hc
  have hk' : wrap64 ((IntKind.u64.wrap which).tmod 6) = (k : Int) := hk
  clear hk
  rcases (by omega : k = 0 ∨ k = 1 ∨ k = 2 ∨ k = 3 ∨ k = 4 ∨ k = 5) with rfl | rfl | rfl | rfl | rfl | rfl
  all_goals
    go_enter Tryd.func6, Tryd.ntmps6
    go_wp2_with fail
    refine (pawake_any _).mono ?_
    rintro e w1 ⟨rfl, q1⟩
    go_wp2_with fail
    refine (clean_of s _ hs ⟨unhide E1, unhide E2⟩).mono ?_
    rintro e w2 ⟨rfl, q2⟩
    go_wp2_with fail
    refine (num_any _ _).mono ?_
    rintro e w2' ⟨rfl, rfl⟩
    go_wp2_with fail
    refine (clean_of (a := a) (n := 0) _ _ (by unfold maxLen; rw [← bl_size, bl_app, bl_mk, List.length_append]; simp [bl]; omega) (by rw [bl_app]; first | exact clean_of_cleanL (unhide D).1 | exact clean_of_cleanL (unhide D).2.1 | exact clean_of_cleanL (unhide D).2.2.1 | exact clean_of_cleanL (unhide D).2.2.2.1 | exact clean_of_cleanL (unhide D).2.2.2.2.1 | exact clean_of_cleanL (unhide D).2.2.2.2.2)).mono ?_
    rintro e w3 ⟨rfl, q3⟩
    go_wp2_with fail
    refine (num_any _ _).mono ?_
    rintro e w3' ⟨rfl, rfl⟩
    go_wp2_with fail
    go_ret
    exact ⟨rfl, q1.trans (q2.trans (((Q.refl _).alloc _).trans q3))⟩

set_option maxRecDepth 100000 in
theorem pathDots_lifted (os : Os) (started : os.Started) (H : Type) (enc : TypeId × Value → H) :
    ReturnsInHanded {} Tryd.checked os 6 .any (fun w args => (Rows.pathDotsSpec.pre enc Tryd.prog Tryd.f6 [] false w args ∧ laidMetH Tryd.prog Rows.pathDotsRow.laid w) ∧ sizedMet enc Tryd.prog Tryd.f6 (OpenSpec.ofChange Rows.pathDotsSpec) false w args) (Rows.pathDotsSpec.post enc Tryd.prog Tryd.f6 false true false false) := by
  refine returnsInHanded_of_change_and (C := Tryd.checked) (X := fun w _ => laidMetH Tryd.prog Rows.pathDotsRow.laid w) (fun _ _ _ hh h => h.of_heap hh) Tryd.own started (by kernel_rfl) Tryd.func6
    (ChangeSpec.witness_shaped (enc := enc) (C := Tryd.checked) (os := os) (X := fun w _ => laidMetH Tryd.prog Rows.pathDotsRow.laid w) false (World.laidAll Tryd.prog os Rows.pathDotsRow.laid) #[.string ByteArray.empty, .int .i64 0] 8 (World.laidAll_os _ _ _)
      (World.shaped_of_ZipB (by kernel_rfl) (by kernel_rfl)) (by kernel_rfl) (by kernel_rfl) (by kernel_rfl)
      (by rw [MakeChecks.laidMetH_plain _ _ _ (by kernel_rfl)]; exact laidMet_laidAll _ (by kernel_rfl) (by kernel_rfl))) ?_
  intro W base args ds gs before hval0 hW _ hsz0 hL _
  have hval : ∀ (j : Nat) t v, Tryd.f6.params[j]? = some t → args[j]? = some v → Value.okWide Tryd.prog W .any base t v := hval0
  have hW' := hW
  obtain ⟨p, q, hA0, hV, rfl, hfz, hnd⟩ := hW
  have hA : DataW.TrodAll enc Tryd.prog W 0 (fun _ => true) true Tryd.f6.params.toList args.toList ds p := hA0
  rw [Tryd.params6] at hA hval
  obtain ⟨v0, vs0, d0, ds0, p0, q0, hargs, rfl, rfl, h0, r0⟩ := trodAll_cons hA
  obtain ⟨v1, vs1, d1, ds1, p1, q1, rfl, rfl, rfl, h1, r1⟩ := trodAll_cons r0
  obtain ⟨rfl, rfl, rfl⟩ := trodAll_nil r1
  obtain rfl : args = #[v0, v1] := by cases args; simp_all
  obtain ⟨rfl, rfl⟩ := trodVars_none hV
  obtain ⟨a0, rfl, rfl, rfl, w0⟩ := open_string Tryd.underlying9 (hval 0 9 v0 rfl rfl) h0
  obtain ⟨a1, rfl, rfl, rfl, w1⟩ := open_int Tryd.underlying3 (hval 1 3 v1 rfl rfl) h1
  clear hA0 hval0
  simp only [List.append_nil] at hW'
  refine (pathDots_any a0 w0 a1 w1 W).mono fun e W' ⟨he, bel⟩ => ?_
  subst he
  exact ⟨_, rfl, _, _, _, [], [], [], hW', trodAll_mk1 (shut_bool Tryd.underlying4 _), (trodAll_cons_mk (shut_string Tryd.underlying9 w0) (trodAll_cons_mk (shut_int Tryd.underlying3 w1) trodAll_mk0)), rfl, bel.frame _, fun h => by cases h⟩

theorem pathDots_holds : Rows.PathDotsSaid :=
  OpenClaim.holds_of_wide 6 Tryd.f6 rfl rfl rfl rfl rfl rfl rfl ⟨rfl, rfl, rfl, rfl, rfl⟩ rfl rfl rfl rfl rfl (by kernel_rfl) Tryd.func6 (by kernel_rfl)
    (of_decide_eq_true (by kernel_rfl)) (by unfold Func.isWrapper; first | (rw [if_pos (by decide +kernel)]; kernel_rfl) | (rw [if_neg (by decide +kernel)]; exact ⟨rfl, rfl⟩))
    (fun os started H enc _ => pathDots_lifted os started H enc)
theorem pathDots_card : Rows.PathDotsCardSaid :=
  Claim7.holds_tied_plain_at .later [] [.data, .pinned] true (true, "3a7355ae6bc7581f9df2e84067cb8da87c5c2ed289003a33de32b3c4adb5adfa") false pathDots_holds (fun _ h => by cases h) (by kernel_rfl) (fun _ h => by cases h) pathDots_row_tie rfl ⟨rfl, rfl⟩ (by kernel_rfl) rfl
    (fun f fn hf hfn => by
      obtain rfl : f = 6 := Option.some.inj ((show Tryd.prog.funcNamed Rows.pathDotsRow.func = some 6 by kernel_rfl).symm.trans hf) |>.symm
      obtain rfl : fn = Tryd.f6 := (Option.some.inj (Tryd.func6.symm.trans hfn)).symm
      exact ⟨by kernel_rfl, fun j t ht => by
        rw [Tryd.params6] at ht
        have hm : t ∈ [9, 3] := by simpa using Array.mem_of_getElem? ht
        have hall : ([9, 3].all fun u => !Tryd.prog.wantsStandIn u) = true := by kernel_rfl
        exact (show Tryd.prog.wantsStandIn t = false by simpa using List.all_eq_true.1 hall t hm)⟩)
    (by kernel_rfl)
#print axioms pathDots_card
end Go.Proofs.YtfobpklijmnkkaaDoor
