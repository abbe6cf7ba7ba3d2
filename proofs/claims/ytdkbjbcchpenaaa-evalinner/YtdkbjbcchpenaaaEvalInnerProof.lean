/- EvalInner: an inner variable that is not empty hides the outer one, whatever both texts are; no conditions but that the texts are no longer than a string can be. -/
import Derived.Test.YtdkbjbcchpenaaaRows
import Derived.ProofKit
import Derived.OpenShut
import Derived.ShutString
import Derived.ChangeOld
import Derived.Below
import Derived.SizedLaws
import Derived.Test.YtdkbjbcchpenaaaEvAwake
import Derived.Test.YtdkbjbcchpenaaaEvMore
namespace Go.Proofs.Ytdkbjbcchpenaaa
open Go.ChangeShapes Go.WideShapes Go.ChangeAt Go.RowKit
open Go.ChangeMaps (open_string shut_string)

theorem pl_100 {a : ByteArray} (h : (plainL (bl a) && decide ((0 : Int) ≤ (a.size : Int)) && decide ((a.size : Int) ≤ 100)) = true) : txB a = true ∧ a.size ≤ 100 := by
  have h2 := Bool.and_eq_true_iff.1 h
  have h3 := Bool.and_eq_true_iff.1 h2.1
  have h4 := of_decide_eq_true h2.2
  exact ⟨by unfold txB; rw [h3.1, decide_eq_true (by omega)]; rfl, by omega⟩
theorem fit_one {n a : ByteArray} (hn : n.size ≤ 16) (ha : a.size ≤ 100) : Fit [(n, a)] := by
  intro b hb
  simp at hb; subst hb
  unfold maxLen; simp only; omega

set_option maxRecDepth 20000 in
set_option maxHeartbeats 4000000 in
theorem evalInner_any (a : ByteArray) (ha : a.size ≤ maxLen) (b : ByteArray) (hb : b.size ≤ maxLen) (w : World) :
    Calls Try.prog 6 #[.string a, .string b] w fun e w' => e = .returned (.bool true) ∧ Q w w' := by
  have HPA := hide (rplain_any a 0 100 · ha)
  have HPB := hide (rplain_any b 0 100 · hb)
  cases h1 : (plainL (bl a) && decide ((0 : Int) ≤ (a.size : Int)) && decide ((a.size : Int) ≤ 100))
  · rw [h1] at HPA
    clear h1
    go_enter Try.func6, Try.ntmps6
    go_wp2_with fail
    refine (evawake_any _).mono ?_
    rintro e w1 ⟨rfl, q1⟩
    go_wp2_with fail
    refine (unhide HPA _).mono ?_
    rintro e w2 ⟨rfl, rfl⟩
    go_wp2_with fail
    go_ret
    exact ⟨rfl, q1⟩
  cases h2 : (plainL (bl b) && decide ((0 : Int) ≤ (b.size : Int)) && decide ((b.size : Int) ≤ 100))
  · rw [h1] at HPA
    rw [h2] at HPB
    clear h1 h2
    go_enter Try.func6, Try.ntmps6
    go_wp2_with fail
    refine (evawake_any _).mono ?_
    rintro e w1 ⟨rfl, q1⟩
    go_wp2_with fail
    refine (unhide HPA _).mono ?_
    rintro e w2 ⟨rfl, rfl⟩
    go_wp2_with fail
    refine (unhide HPB _).mono ?_
    rintro e w2 ⟨rfl, rfl⟩
    go_wp2_with fail
    go_ret
    exact ⟨rfl, q1⟩
  obtain ⟨ta, la⟩ := pl_100 h1
  obtain ⟨tb, lb⟩ := pl_100 h2
  rw [h1] at HPA
  rw [h2] at HPB
  have HM := hide (fun (n : Nat) (h : n ≤ 4096) => (show n ≤ maxLen by unfold maxLen; omega))
  have fva : Fit [(⟨#[118]⟩, a)] := fit_one (by decide) la
  have fvb : Fit [(⟨#[118]⟩, b)] := fit_one (by decide) lb
  have fwb : Fit [(⟨#[119]⟩, b)] := fit_one (by decide) lb
  have HI1 := hide (inner_one ta tb la lb)
  have HI2 := hide (inner_two ta tb la lb)
  have HV : Hid ((⟨#[60]⟩ : ByteArray) ++ (if bl a = [] then b else a) ++ ⟨#[62]⟩ = ⟨(60 :: ((if bl a = [] then bl b else bl a) ++ [62])).toArray⟩) := by
    show _ = _
    apply bl_inj
    rw [bl_app, bl_app, bl_mk]
    split <;> rfl
  have HW : Hid (a ++ b = ⟨(bl a ++ bl b).toArray⟩) := by
    show _ = _
    apply bl_inj
    rw [bl_app]; rfl
  have HC1 := hide (of_lit _ [(⟨#[118]⟩, a)] [(⟨#[118]⟩, b)] · · 1 1 · (unhide HI1) (unhide HM _ (by decide)))
  have HC2 := hide (of_lit _ [(⟨#[118]⟩, a)] [(⟨#[119]⟩, b)] · · 1 1 · (unhide HI2) (unhide HM _ (by decide)))
  revert HV HW HC1 HC2
  generalize (⟨(60 :: ((if bl a = [] then bl b else bl a) ++ [62])).toArray⟩ : ByteArray) = v1
  generalize (⟨(bl a ++ bl b).toArray⟩ : ByteArray) = v2
  intro HV HW HC1 HC2
  have HR1 := hide (fun w : World => (show Read _ _ _ _ ∧ Read _ _ _ _ from ⟨(read_block w #[.string ⟨#[118]⟩, .string a] [(⟨#[118]⟩, a)] rfl fva (by simp)).q ((Q.refl _).alloc (.cells #[.string ⟨#[118]⟩, .string b] 34)), read_next (w.alloc (.cells #[.string ⟨#[118]⟩, .string a] 34)) (w.heap.size + 1) (size_alloc _ _).symm #[.string ⟨#[118]⟩, .string b] [(⟨#[118]⟩, b)] rfl fvb (by simp)⟩))
  have HR2 := hide (fun w : World => (show Read _ _ _ _ ∧ Read _ _ _ _ from ⟨(read_block w #[.string ⟨#[118]⟩, .string a] [(⟨#[118]⟩, a)] rfl fva (by simp)).q ((Q.refl _).alloc (.cells #[.string ⟨#[119]⟩, .string b] 34)), read_next (w.alloc (.cells #[.string ⟨#[118]⟩, .string a] 34)) (w.heap.size + 1) (size_alloc _ _).symm #[.string ⟨#[119]⟩, .string b] [(⟨#[119]⟩, b)] rfl fwb (by simp)⟩))
  have e1 : (v1.toList == v1.toList) = true := by simp
  have e2 : (v2.toList == v2.toList) = true := by simp
  clear h1 h2 ta tb fva fvb fwb HI1 HI2
  by_cases h0 : bl a = []
  · have he : a.toList.isEmpty = true := by rw [bl_toList, h0]; rfl
    rw [if_pos h0] at HV
    clear h0
    go_enter Try.func6, Try.ntmps6
    go_wp2_with fail
    refine (evawake_any _).mono ?_
    rintro e w1 ⟨rfl, q1⟩
    go_wp2_with fail
    refine (unhide HPA _).mono ?_
    rintro e w2 ⟨rfl, rfl⟩
    go_wp2_with fail
    refine (unhide HPB _).mono ?_
    rintro e w2 ⟨rfl, rfl⟩
    have q2 := (q1.alloc (.cells #[.string ⟨#[118]⟩, .string a] 34)).alloc (.cells #[.string ⟨#[118]⟩, .string b] 34)
    have HA := hide (unhide HR1 w2)
    go_wp2_with fail
    refine (unhide HC1 _ _ _ (unhide HA).1 (unhide HA).2).mono ?_
    rintro e w3 ⟨rfl, q3⟩
    have q4 := (q2.trans q3)
    have q5 := (q4.alloc (.cells #[.string ⟨#[118]⟩, .string a] 34)).alloc (.cells #[.string ⟨#[119]⟩, .string b] 34)
    have HB := hide (unhide HR2 w3)
    clear HA q1 q2 q3 HR1 HR2
    go_wp2_with fail
    refine (unhide HC2 _ _ _ (unhide HB).1 (unhide HB).2).mono ?_
    rintro e w6 ⟨rfl, q6⟩
    have q7 := q5.trans q6
    have e3 := unhide HV
    have e4 := unhide HW
    clear HB q4 q5 q6
    go_wp2_with (go_at_call 11; refine (num_any _ _).mono ?_; rintro e w' ⟨rfl, rfl⟩)
    go_ret
    exact ⟨rfl, q7⟩
  · have he : a.toList.isEmpty = false := by rw [bl_toList]; simpa using h0
    rw [if_neg h0] at HV
    clear h0
    go_enter Try.func6, Try.ntmps6
    go_wp2_with fail
    refine (evawake_any _).mono ?_
    rintro e w1 ⟨rfl, q1⟩
    go_wp2_with fail
    refine (unhide HPA _).mono ?_
    rintro e w2 ⟨rfl, rfl⟩
    go_wp2_with fail
    refine (unhide HPB _).mono ?_
    rintro e w2 ⟨rfl, rfl⟩
    have q2 := (q1.alloc (.cells #[.string ⟨#[118]⟩, .string a] 34)).alloc (.cells #[.string ⟨#[118]⟩, .string b] 34)
    have HA := hide (unhide HR1 w2)
    go_wp2_with fail
    refine (unhide HC1 _ _ _ (unhide HA).1 (unhide HA).2).mono ?_
    rintro e w3 ⟨rfl, q3⟩
    have q4 := (q2.trans q3)
    have q5 := (q4.alloc (.cells #[.string ⟨#[118]⟩, .string a] 34)).alloc (.cells #[.string ⟨#[119]⟩, .string b] 34)
    have HB := hide (unhide HR2 w3)
    clear HA q1 q2 q3 HR1 HR2
    go_wp2_with fail
    refine (unhide HC2 _ _ _ (unhide HB).1 (unhide HB).2).mono ?_
    rintro e w6 ⟨rfl, q6⟩
    have q7 := q5.trans q6
    have e3 := unhide HV
    have e4 := unhide HW
    clear HB q4 q5 q6
    go_wp2_with (go_at_call 11; refine (num_any _ _).mono ?_; rintro e w' ⟨rfl, rfl⟩)
    go_ret
    exact ⟨rfl, q7⟩

set_option maxRecDepth 100000 in
theorem evalInner_lifted (os : Os) (started : os.Started) (H : Type) (enc : TypeId × Value → H) :
    ReturnsInHanded {} Try.checked os 6 .any (Rows.evalInnerSpec.pre6 enc Try.prog Try.f6 Rows.evalInnerRow.domain false) (Rows.evalInnerSpec.post enc Try.prog Try.f6 false true false false) := by
  refine returnsInHanded_of_change (C := Try.checked) Try.own started (by kernel_rfl) Try.func6
    (ChangeSpec.witness6 (enc := enc) (C := Try.checked) false ⟨#[], #[.string ByteArray.empty, .string ByteArray.empty], []⟩ 8 (by kernel_rfl) (by kernel_rfl) (by kernel_rfl) (by kernel_rfl)) ?_
  intro W base args ds gs before hval0 hW hcnd _
  have hval : ∀ (j : Nat) t v, Try.f6.params[j]? = some t → args[j]? = some v → Value.okWide Try.prog W .any base t v := hval0
  have hW' := hW
  obtain ⟨p, q, hA0, hV, rfl, hfz, hnd⟩ := hW
  have hA : DataW.TrodAll enc Try.prog W 0 (fun _ => true) true Try.f6.params.toList args.toList ds p := hA0
  rw [Try.params6] at hA hval
  obtain ⟨v0, vs0, d0, ds0, p0, q0, hargs, rfl, rfl, h0, r0⟩ := trodAll_cons hA
  obtain ⟨v1, vs1, d1, ds1, p1, q1, rfl, rfl, rfl, h1, r1⟩ := trodAll_cons r0
  obtain ⟨rfl, rfl, rfl⟩ := trodAll_nil r1
  obtain rfl : args = #[v0, v1] := by cases args; simp_all
  obtain ⟨rfl, rfl⟩ := trodVars_none hV
  obtain ⟨a0, rfl, rfl, rfl, w0⟩ := open_string Try.underlying9 (hval 0 9 v0 rfl rfl) h0
  obtain ⟨a1, rfl, rfl, rfl, w1⟩ := open_string Try.underlying9 (hval 1 9 v1 rfl rfl) h1
  clear hA0 hval0
  simp only [List.append_nil] at hW'
  refine (evalInner_any a0 w0 a1 w1 W).mono fun e W' ⟨he, bel⟩ => ?_
  subst he
  exact ⟨_, rfl, _, _, _, [], [], [], hW', trodAll_mk1 (shut_bool Try.underlying4 _), (trodAll_cons_mk (shut_string Try.underlying9 w0) (trodAll_cons_mk (shut_string Try.underlying9 w1) trodAll_mk0)), rfl, bel.frame _, fun h => by cases h⟩

theorem evalInner_holds : Rows.EvalInnerSaid :=
  OpenClaim.holds_of_wide 6 Try.f6 rfl rfl rfl rfl rfl rfl rfl ⟨rfl, rfl, rfl, rfl, rfl⟩ rfl rfl rfl rfl rfl (by kernel_rfl) Try.func6 (by kernel_rfl)
    (of_decide_eq_true (by kernel_rfl)) (by unfold Func.isWrapper; first | (rw [if_pos (by decide +kernel)]; kernel_rfl) | (rw [if_neg (by decide +kernel)]; exact ⟨rfl, rfl⟩))
    (fun os started H enc _ => evalInner_lifted os started H enc)
#print axioms evalInner_holds
end Go.Proofs.Ytdkbjbcchpenaaa
