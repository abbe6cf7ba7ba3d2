/- EvalForms: the fixed texts and scopes that are refused, and what is too long, are answered as the document says; no conditions. -/
import Derived.Test.YtdkbjbcchpenaaaRows
import Derived.ProofKit
import Derived.OpenShut
import Derived.ShutString
import Derived.ChangeOld
import Derived.Below
import Derived.SizedLaws
import Derived.Test.YtdkbjbcchpenaaaEvAwake
namespace Go.Proofs.Ytdkbjbcchpenaaa
open Go.ChangeShapes Go.WideShapes Go.ChangeAt Go.RowKit

def evB : List Bd := [(⟨#[97]⟩, ⟨#[]⟩), (⟨#[97]⟩, ⟨#[]⟩)]
def evH : List Bd := [(⟨#[97]⟩, ⟨(qs 129).toArray⟩)]
theorem evf1 : evS (bl ⟨#[36]⟩) [] [] = [] ∧ evE (bl ⟨#[36]⟩) [] [] = 500 := by decide +kernel
theorem evf2 : evS (bl ⟨#[120]⟩) evB [] = [] ∧ evE (bl ⟨#[120]⟩) evB [] = 500 := by decide +kernel
theorem evf3 : evS (bl ⟨#[120]⟩) [] evB = [] ∧ evE (bl ⟨#[120]⟩) [] evB = 500 := by decide +kernel
theorem evf4 : evS (bl ⟨#[36, 97, 36, 97]⟩) evH [] = [] ∧ evE (bl ⟨#[36, 97, 36, 97]⟩) evH [] = 501 := by decide +kernel
theorem evf5 : evS (bl ⟨#[36, 97]⟩) [] evH = qs 129 ∧ evE (bl ⟨#[36, 97]⟩) [] evH = 0 := by decide +kernel
theorem evf6 : evS (bl (⟨(qs 257).toArray⟩ ++ ⟨#[36]⟩)) evH [] = [] ∧ evE (bl (⟨(qs 257).toArray⟩ ++ ⟨#[36]⟩)) evH [] = 500 := by decide +kernel
theorem evf7 : (⟨(qs 257).toArray⟩ : ByteArray).extract 0 129 = ⟨(qs 129).toArray⟩ := by decide +kernel

set_option maxRecDepth 20000 in
set_option maxHeartbeats 4000000 in
theorem evalForms_any (w : World) :
    Calls Try.prog 4 #[] w fun e w' => e = .returned (.bool true) ∧ Q w w' := by
  have f1 : Fit evB := fit_of (by decide +kernel)
  have f2 : Fit evH := fit_of (by decide +kernel)
  have HM := hide (fun (n : Nat) (h : n ≤ 4096) => (show n ≤ maxLen by unfold maxLen; omega))
  have h257 : (⟨(qs 257).toArray⟩ : ByteArray).size = 257 := by rw [mk_size]; decide
  have HX := hide evf7
  have H6 := hide evf6
  have H5 := hide (of_lit (l := qs 129) (m := 0) ⟨#[36, 97]⟩ [] evH none · 0 1 · evf5)
  have HL := hide (long_any ·)
  have HHB := hide (fun w : World => read_block w #[.string ⟨#[97]⟩, .string ⟨(qs 129).toArray⟩] evH rfl f2 (by decide))
  have H4 := hide (of_lit ⟨#[36, 97, 36, 97]⟩ evH [] · none 1 0 · evf4)
  revert HX H6 HL h257 H5 HHB H4
  generalize (⟨(qs 257).toArray⟩ : ByteArray) = lg
  have hh : (⟨(qs 129).toArray⟩ : ByteArray).size = 129 := by rw [mk_size]; decide
  revert hh
  generalize (⟨(qs 129).toArray⟩ : ByteArray) = hf
  intro hh h257 HX H6 H5 HL HHB H4
  have hff : (hf.toList == hf.toList) = true := by simp
  go_enter Try.func4, Try.ntmps4
  go_wp2_with fail
  refine (evawake_any _).mono ?_
  rintro e w1 ⟨rfl, q1⟩
  have HB := hide (read_block w1 #[.string ⟨#[97]⟩, .string ⟨#[]⟩, .string ⟨#[97]⟩, .string ⟨#[]⟩] evB rfl f1 (by decide))
  have q2 := q1.alloc (.cells #[.string ⟨#[97]⟩, .string ⟨#[]⟩, .string ⟨#[97]⟩, .string ⟨#[]⟩] 34)
  go_wp2_with fail
  refine (of_lit _ [] [] none none 0 0 _ evf1 (unhide HM _ (by decide)) (read_none _) (read_none _)).mono ?_
  rintro e w3 ⟨rfl, q3⟩
  have HB3 := hide ((unhide HB).q q3)
  have hq3 := q2.trans q3
  clear HB q1 q2 q3
  go_wp2_with fail
  refine (of_lit _ evB [] _ none 2 0 _ evf2 (unhide HM _ (by decide)) (unhide HB3) (read_none _)).mono ?_
  rintro e w4 ⟨rfl, q4⟩
  have HB4 := hide ((unhide HB3).q q4)
  have hq4 := hq3.trans q4
  clear HB3 hq3 q4
  go_wp2_with fail
  refine (of_lit _ [] evB none _ 0 2 _ evf3 (unhide HM _ (by decide)) (read_none _) (unhide HB4)).mono ?_
  rintro e w5 ⟨rfl, q5⟩
  have hq5 := hq4.trans q5
  clear HB4 hq4 q5
  go_wp2_with fail
  refine (unhide HL _).mono ?_
  rintro e w6 ⟨rfl, rfl⟩
  go_wp2_with fail
  rw [unhide HX]
  have HH := hide (unhide HHB w6)
  have hq7 := hq5.alloc (.cells #[.string ⟨#[97]⟩, .string hf] 34)
  refine (unhide H4 _ _ (unhide HM _ (by decide)) (unhide HH) (read_none _)).mono ?_
  rintro e w8 ⟨rfl, q8⟩
  have HH8 := hide ((unhide HH).q q8)
  have hq8 := hq7.trans q8
  clear HH hq7 q8 hq5
  go_wp2_with fail
  refine (unhide H5 _ _ (unhide HM _ (by decide)) (read_none _) (unhide HH8)).mono ?_
  rintro e w9 ⟨rfl, q9⟩
  have HH9 := hide ((unhide HH8).q q9)
  have hq9 := hq8.trans q9
  clear HH8 hq8 q9
  go_wp2_with fail
  refine (unhide HL _).mono ?_
  rintro e w10 ⟨rfl, rfl⟩
  go_wp2_with fail
  refine (of_lit _ evH [] _ none 1 0 _ (unhide H6) (unhide HM _ (by rw [ByteArray.size_append, h257]; decide)) (unhide HH9) (read_none _)).mono ?_
  rintro e w11 ⟨rfl, q11⟩
  have hq11 := hq9.trans q11
  clear HH9 hq9 q11
  go_wp2_with (go_at_call 11; refine (num_any _ _).mono ?_; rintro e w' ⟨rfl, rfl⟩)
  go_ret
  exact ⟨rfl, hq11⟩

set_option maxRecDepth 100000 in
theorem evalForms_lifted (os : Os) (started : os.Started) (H : Type) (enc : TypeId × Value → H) :
    ReturnsInHanded {} Try.checked os 4 .any (Rows.evalFormsSpec.pre6 enc Try.prog Try.f4 Rows.evalFormsRow.domain false) (Rows.evalFormsSpec.post enc Try.prog Try.f4 false true false false) := by
  refine returnsInHanded_of_change (C := Try.checked) Try.own started (by kernel_rfl) Try.func4
    (ChangeSpec.witness6 (enc := enc) (C := Try.checked) false ⟨#[], #[], []⟩ 8 (by kernel_rfl) (by kernel_rfl) (by kernel_rfl) (by kernel_rfl)) ?_
  intro W base args ds gs before hval0 hW hcnd _
  have hval : ∀ (j : Nat) t v, Try.f4.params[j]? = some t → args[j]? = some v → Value.okWide Try.prog W .any base t v := hval0
  have hW' := hW
  obtain ⟨p, q, hA0, hV, rfl, hfz, hnd⟩ := hW
  have hA : DataW.TrodAll enc Try.prog W 0 (fun _ => true) true Try.f4.params.toList args.toList ds p := hA0
  rw [Try.params4] at hA hval
  obtain ⟨hargs, rfl, rfl⟩ := trodAll_nil hA
  obtain rfl : args = #[] := by cases args; simp_all
  obtain ⟨rfl, rfl⟩ := trodVars_none hV
  clear hA0 hval0
  simp only [List.append_nil] at hW'
  refine (evalForms_any  W).mono fun e W' ⟨he, bel⟩ => ?_
  subst he
  exact ⟨_, rfl, _, _, _, [], [], [], hW', trodAll_mk1 (shut_bool Try.underlying4 _), trodAll_mk0, rfl, bel.frame _, fun h => by cases h⟩

theorem evalForms_holds : Rows.EvalFormsSaid :=
  OpenClaim.holds_of_wide 4 Try.f4 rfl rfl rfl rfl rfl rfl rfl ⟨rfl, rfl, rfl, rfl, rfl⟩ rfl rfl rfl rfl rfl (by kernel_rfl) Try.func4 (by kernel_rfl)
    (of_decide_eq_true (by kernel_rfl)) (by unfold Func.isWrapper; first | (rw [if_pos (by decide +kernel)]; kernel_rfl) | (rw [if_neg (by decide +kernel)]; exact ⟨rfl, rfl⟩))
    (fun os started H enc _ => evalForms_lifted os started H enc)
#print axioms evalForms_holds
end Go.Proofs.Ytdkbjbcchpenaaa
