/- Evals, whole: any text, any two scopes: package eval's Of answers what the document says, and what was handed in stays; no conditions but that the texts are no longer than a string can be. -/
import Derived.Test.YtdkbjbcchpenaaaRows
import Derived.ProofKit
import Derived.OpenShut
import Derived.ShutString
import Derived.ChangeOld
import Derived.Below
import Derived.SizedLaws
import Derived.Test.YtdkbjbcchpenaaaEvAwake
import Derived.Test.YtdkbjbcchpenaaaScLend
import Derived.Test.YtdkbjbcchpenaaaScOpen
namespace Go.Proofs.Ytdkbjbcchpenaaa
open Go.ChangeShapes Go.WideShapes Go.ChangeAt Go.RowKit
open Go.ChangeMaps (open_string shut_string)

set_option maxRecDepth 20000 in
set_option maxHeartbeats 4000000 in
theorem evals_any (w : World) (s : ByteArray) (hs : s.size ≤ maxLen) (ai : Option Addr) (li ci : Nat) (ins : List Bd) (hi : IsRowD w ai li ci ins) (ao : Option Addr) (lo co : Nat) (outs : List Bd) (ho : IsRowD w ao lo co outs) :
    Calls Try.prog 3 #[.string s, .slice ai li ci, .slice ao lo co] w fun e w' => e = .returned (.bool true) ∧ Q w w' := by
  obtain ⟨rfl, hlc, hre, hr, hf⟩ := hi
  obtain ⟨rfl, hlc', hre', hr', hf'⟩ := ho
  have hb : (ins.length + 2) * 32 ≤ 140737488355328 := by unfold reachBytes at hre; omega
  have hb' : (outs.length + 2) * 32 ≤ 140737488355328 := by unfold reachBytes at hre'; omega
  have hcm : ci ≤ maxLen := by unfold reachBytes at hre; unfold maxLen; omega
  have hcm' : co ≤ maxLen := by unfold reachBytes at hre'; unfold maxLen; omega
  have HL := hide (lendD_any ins ai ci w hr hb)
  have HL' := hide (fun w' (h : Q w w') => lendD_any outs ao co w' (hr'.q h) hb')
  have HR := hide (fun w' (h : Q w w') => rev_any s ins outs ai ao ci co w' hs (Read.q ⟨hr, hf, hlc, hcm⟩ h) (Read.q ⟨hr', hf', hlc', hcm'⟩ h))
  unfold EvSays at HR
  go_enter Try.func3, Try.ntmps3
  go_wp2_with fail
  refine (unhide HL).mono ?_
  rintro e w1 ⟨g, lcap, rfl, hl1, hl2, own1, q1⟩
  have HO1 := hide own1
  have HRL := hide (fun w' (h : Q w1 w') => (show Read w' (some ⟨g, 0, none⟩) lcap ins from ⟨((own1.row).front).q h, hf, by omega, hl2⟩))
  clear own1 HL
  go_wp2_with fail
  refine (unhide HL' _ q1).mono ?_
  rintro e w2 ⟨g', lcap', rfl, hl1', hl2', own2, q2⟩
  have HO2 := hide own2
  have HRL' := hide (fun w' (h : Q w2 w') => (show Read w' (some ⟨g', 0, none⟩) lcap' outs from ⟨((own2.row).front).q h, hf', by omega, hl2'⟩))
  have HOF := hide (of_any s ins outs (some ⟨g, 0, none⟩) (some ⟨g', 0, none⟩) lcap lcap' w2 hs (unhide HRL _ q2) (unhide HRL' _ (Q.refl _)))
  unfold EvSays at HOF
  revert HR HOF
  generalize hvs : (⟨(evS (bl s) ins outs).toArray⟩ : ByteArray) = vs
  generalize hve : evE (bl s) ins outs = ve
  intro HR HOF
  have hvv : (vs.toList == vs.toList) = true := by simp
  have hvv2 : (vs.toList != vs.toList) = false := by simp
  have hee : (ve == ve) = true := by simp
  have hee2 : (ve != ve) = false := by simp
  clear own2 HL' HRL HRL' hvs hve
  go_wp2_with fail
  refine (unhide HOF).mono ?_
  rintro e w3 ⟨rfl, q3⟩
  go_wp2_with fail
  refine (unhide HR _ ((q1.trans q2).trans q3)).mono ?_
  rintro e w4 ⟨rfl, q4⟩
  have q34 := q3.trans q4
  have HK := hide (keptD_any ins g lcap w.heap.size ai ci w4 (own_q (own_q (unhide HO1) q2) q34) (hr.q ((q1.trans q2).trans q34)) hb hl1)
  clear q3 q4 HOF HR
  go_wp2_with (go_at_call 11; refine (num_any _ _).mono ?_; rintro e w' ⟨rfl, rfl⟩)
  refine (unhide HK).mono ?_
  rintro e w5 ⟨rfl, q5⟩
  have q35 := q34.trans q5
  go_wp2_with fail
  refine (keptD_any outs g' lcap' w1.heap.size ao co _ (own_q (unhide HO2) q35) (hr'.q ((q1.trans q2).trans q35)) hb' hl1').mono ?_
  rintro e w6 ⟨rfl, q6⟩
  go_wp2_with fail
  refine (evawake_any _).mono ?_
  rintro e w7 ⟨rfl, q7⟩
  go_wp2_with fail
  go_ret
  exact ⟨rfl, (q1.trans q2).trans (q35.trans (q6.trans q7))⟩

theorem Try.laidOut : laidOutB Try.prog = true := by kernel_rfl
set_option maxRecDepth 100000 in
theorem evals_lifted (os : Os) (started : os.Started) (H : Type) (enc : TypeId × Value → H) :
    ReturnsInHanded {} Try.checked os 3 .any (Rows.evalsSpec.pre6 enc Try.prog Try.f3 Rows.evalsRow.domain false) (Rows.evalsSpec.post enc Try.prog Try.f3 false true false false) := by
  refine returnsInHanded_of_change_sized (C := Try.checked) Try.own started (by kernel_rfl) Try.func3
    (ChangeSpec.witness6 (enc := enc) (C := Try.checked) false ⟨#[], #[.string ByteArray.empty, .slice none 0 0, .slice none 0 0], []⟩ 8 (by kernel_rfl) (by kernel_rfl) (by kernel_rfl) (by kernel_rfl)) ?_
  intro W base args ds gs before hval0 hW hcnd hsz0 _
  have hval : ∀ (j : Nat) t v, Try.f3.params[j]? = some t → args[j]? = some v → Value.okWide Try.prog W .any base t v := hval0
  have hW' := hW
  obtain ⟨p, q, hA0, hV, rfl, hfz, hnd⟩ := hW
  have hA : DataW.TrodAll enc Try.prog W 0 (fun _ => true) true Try.f3.params.toList args.toList ds p := hA0
  rw [Try.params3] at hA hval
  rw [Try.params3] at hsz0
  obtain ⟨v0, vs0, d0, ds0, p0, q0, hargs, rfl, rfl, h0, r0⟩ := trodAll_cons hA
  obtain ⟨v1, vs1, d1, ds1, p1, q1, rfl, rfl, rfl, h1, r1⟩ := trodAll_cons r0
  obtain ⟨v2, vs2, d2, ds2, p2, q2, rfl, rfl, rfl, h2, r2⟩ := trodAll_cons r1
  obtain ⟨rfl, rfl, rfl⟩ := trodAll_nil r2
  obtain rfl : args = #[v0, v1, v2] := by cases args; simp_all
  obtain ⟨rfl, rfl⟩ := trodVars_none hV
  obtain ⟨a0, rfl, rfl, rfl, w0⟩ := open_string Try.underlying9 (hval 0 9 v0 rfl rfl) h0
  obtain ⟨a1, len1, cap1, rfl⟩ := okWide_slice Try.underlying22 (hval 1 22 v1 rfl rfl)
  have k1 := h1
  have lt1 : ∀ x ∈ p1, x.block < W.heap.size := by obtain ⟨m, hm⟩ := k1; exact DataW.trod_lt m _ _ _ hm
  obtain ⟨z1, w1⟩ : ∃ zs, IsRowD W a1 len1 cap1 zs := Try.is_rowD h1 (fun elems spare e => by subst e; exact sized_slice hsz0 (j := 1) (t := 22) rfl rfl Try.underlying22)
  obtain ⟨a2, len2, cap2, rfl⟩ := okWide_slice Try.underlying22 (hval 2 22 v2 rfl rfl)
  have k2 := h2
  have lt2 : ∀ x ∈ p2, x.block < W.heap.size := by obtain ⟨m, hm⟩ := k2; exact DataW.trod_lt m _ _ _ hm
  obtain ⟨z2, w2⟩ : ∃ zs, IsRowD W a2 len2 cap2 zs := Try.is_rowD h2 (fun elems spare e => by subst e; exact sized_slice hsz0 (j := 2) (t := 22) rfl rfl Try.underlying22)
  clear hA0 hval0
  refine (evals_any W a0 w0 a1 len1 cap1 z1 w1 a2 len2 cap2 z2 w2).mono fun e W' ⟨he, bel⟩ => ?_
  subst he
  exact ⟨_, rfl, _, _, _, [], _, [], hW', trodAll_mk1 (shut_bool Try.underlying4 _), (trodAll_cons_mk (shut_string Try.underlying9 w0) (trodAll_cons_mk (Below.trod Try.laidOut (by kernel_rfl) (of_decide_eq_true (by kernel_rfl)) k1 bel lt1) (trodAll_cons_mk (Below.trod Try.laidOut (by kernel_rfl) (of_decide_eq_true (by kernel_rfl)) k2 bel lt2) trodAll_mk0))), rfl, bel.frame _, fun h => by cases h⟩

theorem evals_holds : Rows.EvalsSaid :=
  OpenClaim.holds_of_wide 3 Try.f3 rfl rfl rfl rfl rfl rfl rfl ⟨rfl, rfl, rfl, rfl, rfl⟩ rfl rfl rfl rfl rfl (by kernel_rfl) Try.func3 (by kernel_rfl)
    (of_decide_eq_true (by kernel_rfl)) (by unfold Func.isWrapper; first | (rw [if_pos (by decide +kernel)]; kernel_rfl) | (rw [if_neg (by decide +kernel)]; exact ⟨rfl, rfl⟩))
    (fun os started H enc _ => evals_lifted os started H enc)
#print axioms evals_holds
end Go.Proofs.Ytdkbjbcchpenaaa
