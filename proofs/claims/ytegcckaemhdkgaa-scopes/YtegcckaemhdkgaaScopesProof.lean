/- Scopes, whole: any binds, any name, any text: package scope's Set, Get and May answer what the document says, and what was handed in stays; no conditions but that the texts are no longer than a string can be. -/
import Derived.Test.YtegcckaemhdkgaaRows
import Derived.ProofKit
import Derived.OpenShut
import Derived.ShutString
import Derived.ChangeOld
import Derived.Below
import Derived.SizedLaws
import Derived.Test.YtegcckaemhdkgaaScAwake
import Derived.Test.YtegcckaemhdkgaaScOpen
namespace Go.Proofs.Ytegcckaemhdkgaa
open Go.ChangeShapes Go.WideShapes Go.ChangeAt Go.RowKit
open Go.ChangeMaps (open_string shut_string)

set_option maxRecDepth 20000 in
set_option maxHeartbeats 4000000 in
theorem scopes_any (w : World) (ao : Option Addr) (len cap : Nat) (bs : List Bd) (hrow : IsRowD w ao len cap bs) (n : ByteArray) (hn : n.size ≤ maxLen) (t : ByteArray) (ht : t.size ≤ maxLen) :
    Calls Try.prog 3 #[.slice ao len cap, .string n, .string t] w fun e w' => e = .returned (.bool true) ∧ Q w w' := by
  obtain ⟨rfl, hlc, hre, hr, hf⟩ := hrow
  have hb : (bs.length + 2) * 32 ≤ 140737488355328 := by unfold reachBytes at hre; omega
  have hlm : bs.length ≤ maxLen := by unfold maxLen; omega
  obtain ⟨hsf, hsl, hss⟩ := set_fit (bs := bs) (n := n) (t := t)
  have HL := hide (lendD_any bs ao cap w hr hb)
  have HR1 := hide (fun w' (h : Q w w') => rSet_any bs n t ao cap w' (hr.q h) hf hlm hn ht)
  have HR2 := hide (fun w' (h : Q w w') => rGet_any bs n ao cap w' (hr.q h) hf hlm)
  have HR3 := hide (fun w' (h : Q w w') => rMay_any bs ao cap w' (hr.q h) hf hlm)
  go_enter Try.func3, Try.ntmps3
  go_wp2_with fail
  refine (unhide HL).mono ?_
  rintro e w1 ⟨g, lcap, rfl, hl1, hl2, own1, q1⟩
  have HO1 := hide own1
  have HRL := hide (fun w' (h : Q w1 w') => ((own1.row).front).q h)
  have hl0 : bs.length ≤ lcap := by omega
  clear own1 HL
  go_wp2_with fail
  refine (scSet_any bs n t (some ⟨g, 0, none⟩) lcap w1 (unhide HRL _ (Q.refl _)) hf hl0 hl2 hn ht).mono ?_
  rintro e w2 ⟨co, ccap, rfl, own2, q2⟩
  go_wp2_with fail
  refine (unhide HR1 _ (q1.trans q2)).mono ?_
  rintro e w3 ⟨fo, fcap, rfl, own3, q3⟩
  have own2' : OwnD w3 w1.heap.size co ccap (setB bs n t) := own_q own2 q3
  have HS := hide (sameD_any co fo ccap fcap (setB bs n t) (setB bs n t) w3 own2'.row own3.row (by unfold maxLen; omega))
  rw [decide_eq_true (rfl : setB bs n t = setB bs n t)] at HS
  have HO2 := hide own2'
  clear own2 own2' own3 HR1
  have hen : (setE bs n t == setE bs n t) = true := by simp
  have hen2 : (setE bs n t != setE bs n t) = false := by simp
  go_wp2_with fail
  refine (unhide HS).mono ?_
  rintro e w4 ⟨rfl, q4⟩
  go_wp2_with (go_at_call 11; refine (num_any _ _).mono ?_; rintro e w5 ⟨rfl, rfl⟩)
  refine (scGet_any bs n (some ⟨g, 0, none⟩) lcap _ (unhide HRL _ (q2.trans (q3.trans q4))) hf hl0 hl2).mono ?_
  rintro e w6 ⟨rfl, q6⟩
  have hq6 : Hid (Q w1 w6) := (q2.trans (q3.trans q4)).trans q6
  have hqw6 : Hid (Q w w6) := q1.trans (unhide hq6)
  have HO2b := hide (own_q (own_q (unhide HO2) q4) q6)
  clear q2 q3 q4 q6 HO2
  go_wp2_with fail
  refine (unhide HR2 _ (unhide hqw6)).mono ?_
  rintro e w7 ⟨rfl, q7⟩
  have hgn : ((getB bs n).toList == (getB bs n).toList) = true := by simp
  have hgn2 : ((getB bs n).toList != (getB bs n).toList) = false := by simp
  go_wp2_with fail
  refine (scMay_any bs (some ⟨g, 0, none⟩) lcap _ (unhide HRL _ ((unhide hq6).trans q7)) hf hl0 hl2).mono ?_
  rintro e w8 ⟨rfl, q8⟩
  go_wp2_with fail
  refine (unhide HR3 _ ((unhide hqw6).trans (q7.trans q8))).mono ?_
  rintro e w9 ⟨rfl, q9⟩
  have hq9 : Hid (Q w1 w9) := (unhide hq6).trans (q7.trans (q8.trans q9))
  have HO9 : Hid (OwnD w9 w1.heap.size co ccap (setB bs n t)) := own_q (unhide HO2b) (q7.trans (q8.trans q9))
  have hbb : (scOk bs == scOk bs) = true := by simp
  have hbb2 : (scOk bs != scOk bs) = false := by simp
  clear q7 q8 q9 HO2b hq6 hqw6
  go_wp2_with fail
  refine (spoilD_any co ccap w1.heap.size (setB bs n t) _ (unhide HO9) (by omega) (fun b hb => by have := (hss b hb).2; omega)).mono ?_
  rintro e w10 ⟨rfl, b10⟩
  have hq10 : Q w1 w10 := Below.trans (unhide hq9) b10
  have own10 := own_q (unhide HO1) hq10
  have hr10 := hr.q (q1.trans hq10)
  clear HO1 HO9 hq9
  go_wp2_with fail
  refine (keptD_any bs g lcap w.heap.size ao cap _ own10 hr10 hb hl1).mono ?_
  rintro e w11 ⟨rfl, q11⟩
  go_wp2_with fail
  refine (scawake_any _).mono ?_
  rintro e w12 ⟨rfl, q12⟩
  go_wp2_with fail
  go_ret
  exact ⟨rfl, q1.trans (hq10.trans (q11.trans q12))⟩

theorem Try.laidOut : laidOutB Try.prog = true := by kernel_rfl
set_option maxRecDepth 100000 in
theorem scopes_lifted (os : Os) (started : os.Started) (H : Type) (enc : TypeId × Value → H) :
    ReturnsInHanded {} Try.checked os 3 .any (Rows.scopesSpec.pre6 enc Try.prog Try.f3 Rows.scopesRow.domain false) (Rows.scopesSpec.post enc Try.prog Try.f3 false true false false) := by
  refine returnsInHanded_of_change_sized (C := Try.checked) Try.own started (by kernel_rfl) Try.func3
    (ChangeSpec.witness6 (enc := enc) (C := Try.checked) false ⟨#[], #[.slice none 0 0, .string ByteArray.empty, .string ByteArray.empty], []⟩ 8 (by kernel_rfl) (by kernel_rfl) (by kernel_rfl) (by kernel_rfl)) ?_
  intro W base args ds gs before hval0 hW hcnd hsz0 _
  have hval : ∀ (j : Nat) t v, Try.f3.params[j]? = some t → args[j]? = some v → Value.okWide Try.prog W .any base t v := hval0
  have hW' := hW
  obtain ⟨p, q, hA0, hV, rfl, hfz, hnd⟩ := hW
  have hA : DataW.TrodAll enc Try.prog W 0 (fun _ => true) true Try.f3.params.toList args.toList ds p := hA0
  rw [Try.params3] at hA hval
  rw [Try.params3] at hsz0
  obtain ⟨v0, vs0, d0, ds0, p0, q0, hargs, rfl, rfl, h0, r0⟩ := trodAll_cons hA
  obtain ⟨v1, vs1, d1, ds1, p1, q1, rfl, rfl, rfl, h1, r1⟩ := trodAll_cons r0
  obtain ⟨v2, vs2, d2, ds2, p2, q2, rfl, rfl, rfl, h2, r2⟩ := trodAll_cons r1
  obtain ⟨rfl, rfl, rfl⟩ := trodAll_nil r2
  obtain rfl : args = #[v0, v1, v2] := by cases args; simp_all
  obtain ⟨rfl, rfl⟩ := trodVars_none hV
  obtain ⟨a0, len0, cap0, rfl⟩ := okWide_slice Try.underlying22 (hval 0 22 v0 rfl rfl)
  have k0 := h0
  have lt0 : ∀ x ∈ p0, x.block < W.heap.size := by obtain ⟨m, hm⟩ := k0; exact DataW.trod_lt m _ _ _ hm
  obtain ⟨z0, w0⟩ : ∃ zs, IsRowD W a0 len0 cap0 zs := Try.is_rowD h0 (fun elems spare e => by subst e; exact sized_slice hsz0 (j := 0) (t := 22) rfl rfl Try.underlying22)
  obtain ⟨a1, rfl, rfl, rfl, w1⟩ := open_string Try.underlying9 (hval 1 9 v1 rfl rfl) h1
  obtain ⟨a2, rfl, rfl, rfl, w2⟩ := open_string Try.underlying9 (hval 2 9 v2 rfl rfl) h2
  clear hA0 hval0
  refine (scopes_any W a0 len0 cap0 z0 w0 a1 w1 a2 w2).mono fun e W' ⟨he, bel⟩ => ?_
  subst he
  exact ⟨_, rfl, _, _, _, [], _, [], hW', trodAll_mk1 (shut_bool Try.underlying4 _), (trodAll_cons_mk (Below.trod Try.laidOut (by kernel_rfl) (of_decide_eq_true (by kernel_rfl)) k0 bel lt0) (trodAll_cons_mk (shut_string Try.underlying9 w1) (trodAll_cons_mk (shut_string Try.underlying9 w2) trodAll_mk0))), rfl, bel.frame _, fun h => by cases h⟩

theorem scopes_holds : Rows.ScopesSaid :=
  OpenClaim.holds_of_wide 3 Try.f3 rfl rfl rfl rfl rfl rfl rfl ⟨rfl, rfl, rfl, rfl, rfl⟩ rfl rfl rfl rfl rfl (by kernel_rfl) Try.func3 (by kernel_rfl)
    (of_decide_eq_true (by kernel_rfl)) (by unfold Func.isWrapper; first | (rw [if_pos (by decide +kernel)]; kernel_rfl) | (rw [if_neg (by decide +kernel)]; exact ⟨rfl, rfl⟩))
    (fun os started H enc _ => scopes_lifted os started H enc)
#print axioms scopes_holds
end Go.Proofs.Ytegcckaemhdkgaa
