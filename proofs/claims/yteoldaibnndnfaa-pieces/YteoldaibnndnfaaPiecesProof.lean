/- The statement on pieces holds for every text: package pieces' Cut answers what the document's own answer says, in memory of its own; no conditions. -/
import Derived.Test.YteoldaibnndnfaaRows
import Derived.ProofKit
import Derived.OpenShut
import Derived.ShutString
import Derived.ChangeOld
import Derived.Below
import Derived.SizedLaws
import Derived.Test.YteoldaibnndnfaaPcMore
import Derived.Test.YteoldaibnndnfaaPcRef
import Derived.Test.YteoldaibnndnfaaPcAwake
namespace Go.Proofs.Yteoldaibnndnfaa
open Go.ChangeShapes Go.WideShapes Go.ChangeAt Go.RowKit
open Go.ChangeMaps (open_string shut_string)

set_option maxHeartbeats 2000000 in
theorem pieces_any (s : ByteArray) (hs : s.size ≤ maxLen) (w : World) :
    Calls Try.prog 3 #[.string s] w fun e w' => e = .returned (.bool true) ∧ Q w w' := by
  obtain ⟨hl, hm⟩ := cutP_facts (bl s)
  have HC := hide (cut_any s)
  have HR := hide (rcut_any s)
  generalize cutP (bl s) = ps at *
  generalize cutE (bl s) = n at *
  have hn1 : (n == n) = true := by simp
  have hn2 : (n != n) = false := by simp
  go_enter Try.func3, Try.ntmps3
  go_wp2_with fail
  refine ((unhide HC) _ hs).mono ?_
  rintro e w1 ⟨ao, cap, rfl, hown, q1⟩
  go_wp2_with fail
  refine ((unhide HR) _ hs).mono ?_
  rintro e w2 ⟨bo, bcap, rfl, hown2, q2⟩
  have HO := hide (own_q hown q2)
  have HO2 := hide hown2
  clear hown hown2
  go_wp2_with fail
  refine (same_any ao bo cap bcap ps ps _ (OwnP.row (unhide HO)) (OwnP.row (unhide HO2)) (by omega)).mono ?_
  rintro e w3 ⟨rfl, q3⟩
  rw [decide_eq_true (rfl : ps = ps)]
  go_wp2_with fail
  refine (num_any _ _).mono ?_
  rintro e w3' ⟨rfl, rfl⟩
  go_wp2_with fail
  refine (spoil_any ao cap w.heap.size ps _ (own_q (unhide HO) q3) (by omega) (most_mono hm (by omega))).mono ?_
  rintro e w4 ⟨rfl, q4⟩
  have q5 : Q w w4 := Below.trans (q1.trans (q2.trans q3)) q4
  clear q1 q2 q3 q4 HO HO2
  go_wp2_with fail
  refine (pcawake_any _).mono ?_
  rintro e w6 ⟨rfl, q6⟩
  go_wp2_with fail
  go_ret
  exact ⟨rfl, q5.trans q6⟩

set_option maxRecDepth 100000 in
theorem pieces_lifted (os : Os) (started : os.Started) (H : Type) (enc : TypeId × Value → H) :
    ReturnsInHanded {} Try.checked os 3 .any (Rows.piecesSpec.pre6 enc Try.prog Try.f3 Rows.piecesRow.domain false) (Rows.piecesSpec.post enc Try.prog Try.f3 false true false false) := by
  refine returnsInHanded_of_change (C := Try.checked) Try.own started (by kernel_rfl) Try.func3
    (ChangeSpec.witness6 (enc := enc) (C := Try.checked) false ⟨#[], #[.string ByteArray.empty], []⟩ 8 (by kernel_rfl) (by kernel_rfl) (by kernel_rfl) (by kernel_rfl)) ?_
  intro W base args ds gs before hval0 hW hcnd _
  have hval : ∀ (j : Nat) t v, Try.f3.params[j]? = some t → args[j]? = some v → Value.okWide Try.prog W .any base t v := hval0
  have hW' := hW
  obtain ⟨p, q, hA0, hV, rfl, hfz, hnd⟩ := hW
  have hA : DataW.TrodAll enc Try.prog W 0 (fun _ => true) true Try.f3.params.toList args.toList ds p := hA0
  rw [Try.params3] at hA hval
  obtain ⟨v0, vs0, d0, ds0, p0, q0, hargs, rfl, rfl, h0, r0⟩ := trodAll_cons hA
  obtain ⟨rfl, rfl, rfl⟩ := trodAll_nil r0
  obtain rfl : args = #[v0] := by cases args; simp_all
  obtain ⟨rfl, rfl⟩ := trodVars_none hV
  obtain ⟨a0, rfl, rfl, rfl, w0⟩ := open_string Try.underlying9 (hval 0 9 v0 rfl rfl) h0
  clear hA0 hval0
  simp only [List.append_nil] at hW'
  refine (pieces_any a0 w0 W).mono fun e W' ⟨he, bel⟩ => ?_
  subst he
  exact ⟨_, rfl, _, _, _, [], [], [], hW', trodAll_mk1 (shut_bool Try.underlying4 _), (trodAll_cons_mk (shut_string Try.underlying9 w0) trodAll_mk0), rfl, bel.frame _, fun h => by cases h⟩

theorem pieces_holds : Rows.PiecesSaid :=
  OpenClaim.holds_of_wide 3 Try.f3 rfl rfl rfl rfl rfl rfl rfl ⟨rfl, rfl, rfl, rfl, rfl⟩ rfl rfl rfl rfl rfl (by kernel_rfl) Try.func3 (by kernel_rfl)
    (of_decide_eq_true (by kernel_rfl)) (by unfold Func.isWrapper; first | (rw [if_pos (by decide +kernel)]; kernel_rfl) | (rw [if_neg (by decide +kernel)]; exact ⟨rfl, rfl⟩))
    (fun os started H enc _ => pieces_lifted os started H enc)
#print axioms pieces_holds
end Go.Proofs.Yteoldaibnndnfaa
