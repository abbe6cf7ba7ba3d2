/- ScopeOther, whole: setting one leaves all others and is told, whatever the binds, the names, the text; no conditions but that the texts are no longer than a string can be. -/
import Derived.Test.YtegcckaemhdkgaaRows
import Derived.ProofKit
import Derived.OpenShut
import Derived.ShutString
import Derived.ChangeOld
import Derived.Below
import Derived.SizedLaws
import Derived.Test.YtegcckaemhdkgaaScAwake
import Derived.Test.YtegcckaemhdkgaaScOpen
import Derived.Test.YtegcckaemhdkgaaScMore
namespace Go.Proofs.Ytegcckaemhdkgaa
open Go.ChangeShapes Go.WideShapes Go.ChangeAt Go.RowKit
open Go.ChangeMaps (open_string shut_string)

set_option maxRecDepth 20000 in
set_option maxHeartbeats 4000000 in
theorem other_yes (w : World) (ao : Option Addr) (cap : Nat) (bs A : List Bd) (n t o : ByteArray) (hlc : bs.length ≤ cap) (hcm : cap ≤ maxLen) (hr : RowD w ao bs) (hf : Fit bs) (hn : n.size ≤ maxLen) (ht : t.size ≤ maxLen)
    (h1 : setB bs n t = A ∧ setE bs n t = 0) (hA : Fit A) (hl : A.length ≤ 16) (h2 : setB A n t = A ∧ setE A n t = 0) (h3 : getB A n = t) (h4 : scOk A = true) (h5 : (o.toList == n.toList) = false → getB A o = getB bs o) :
    Calls Try.prog 6 #[.slice ao bs.length cap, .string n, .string t, .string o] w fun e w' => e = .returned (.bool true) ∧ Q w w' := by
  have HST := hide (fun w' (h : Q w w') => set_lit bs n t ao cap w' h1 (hr.q h) hf hlc hcm hn ht)
  have HS2 := hide (fun w' ao' cap' (h : RowD w' ao' A) (h' : A.length ≤ cap') (h'' : cap' ≤ maxLen) => set_lit A n t ao' cap' w' h2 h hA h' h'' hn ht)
  have HG2 := hide (fun w' ao' cap' (h : RowD w' ao' A) (h' : A.length ≤ cap') (h'' : cap' ≤ maxLen) => get_lit A n ao' cap' w' h3 h hA h' h'')
  have HM2 := hide (fun w' ao' cap' (h : RowD w' ao' A) (h' : A.length ≤ cap') (h'' : cap' ≤ maxLen) => may_lit A ao' cap' w' h4 h hA h' h'')
  have HR2 := hide (fun w' ao' cap' (h : RowD w' ao' A) => rMay_any A ao' cap' w' h hA (by unfold maxLen; omega))
  rw [h4] at HR2
  have HSM := hide (fun w' ao' cap' bo bcap (h : RowD w' ao' A) (h' : RowD w' bo A) => sameD_any ao' bo cap' bcap A A w' h h' (by unfold maxLen; omega))
  rw [decide_eq_true (rfl : A = A)] at HSM
  have HGA := hide (fun w' ao' cap' (h : RowD w' ao' A) (h' : A.length ≤ cap') (h'' : cap' ≤ maxLen) => scGet_any A o ao' cap' w' h hA h' h'')
  have HGB := hide (fun w' (h : Q w w') => scGet_any bs o ao cap w' (hr.q h) hf hlc hcm)
  have htt : (t.toList == t.toList) = true := by simp
  have H5 := hide h5
  clear h1 h2 h3 h4 h5 hr hf hA
  by_cases hon : (o.toList == n.toList) = true
  · have hon2 : (o.toList != n.toList) = false := by unfold bne; rw [hon]; rfl
    clear HGA HGB H5
    go_enter Try.func6, Try.ntmps6
    go_wp2_with fail
    refine (scawake_any _).mono ?_
    rintro e w1 ⟨rfl, q1⟩
    go_wp2_with fail
    refine (unhide HST _ q1).mono ?_
    rintro e w2 ⟨co, ccap, rfl, own2, q2⟩
    have hle := own_le own2
    have R2 := hide own2.row
    have hq2 : Hid (Q w w2) := q1.trans q2
    clear own2 q1 q2
    go_wp2_with (go_at_call 11; refine (num_any _ _).mono ?_; rintro e w' ⟨rfl, rfl⟩)
    refine (unhide HS2 _ co ccap (unhide R2) hle.1 hle.2.1).mono ?_
    rintro e w3 ⟨fo, fcap, rfl, own3, q3⟩
    have R3 := hide own3.row
    have R3a := hide ((unhide R2).q q3)
    have hq3 : Hid (Q w w3) := (unhide hq2).trans q3
    clear own3 q3 R2 hq2
    go_wp2_with fail
    refine (unhide HG2 _ co ccap (unhide R3a) hle.1 hle.2.1).mono ?_
    rintro e w4 ⟨rfl, q4⟩
    go_wp2_with fail
    refine (unhide HM2 _ co ccap ((unhide R3a).q q4) hle.1 hle.2.1).mono ?_
    rintro e w5 ⟨rfl, q5⟩
    go_wp2_with fail
    refine (unhide HR2 _ co ccap ((unhide R3a).q (q4.trans q5))).mono ?_
    rintro e w6 ⟨rfl, q6⟩
    have q36 : Hid (Q w3 w6) := q4.trans (q5.trans q6)
    clear q4 q5 q6
    go_wp2_with (go_at_call 11; refine (num_any _ _).mono ?_; rintro e w' ⟨rfl, rfl⟩)
    refine (unhide HSM _ co ccap fo fcap ((unhide R3a).q (unhide q36)) ((unhide R3).q (unhide q36))).mono ?_
    rintro e w7 ⟨rfl, q7⟩
    go_wp2_with fail
    go_ret
    exact ⟨rfl, (unhide hq3).trans ((unhide q36).trans q7)⟩
  · have hon1 : (o.toList == n.toList) = false := by simpa using hon
    have hon2 : (o.toList != n.toList) = true := by unfold bne; rw [hon1]; rfl
    have HEQ := hide (unhide H5 hon1)
    rw [unhide HEQ] at HGA
    generalize getB bs o = v at HGA HGB
    have hvv : (v.toList == v.toList) = true := by simp
    have hvv2 : (v.toList != v.toList) = false := by simp
    clear hon H5 HEQ
    go_enter Try.func6, Try.ntmps6
    go_wp2_with fail
    refine (scawake_any _).mono ?_
    rintro e w1 ⟨rfl, q1⟩
    go_wp2_with fail
    refine (unhide HST _ q1).mono ?_
    rintro e w1b ⟨co, ccap, rfl, own2, q2⟩
    have hle := own_le own2
    have R1 := hide own2.row
    have hq1 : Hid (Q w w1b) := q1.trans q2
    clear own2 q1 q2
    go_wp2_with (go_at_call 11; refine (num_any _ _).mono ?_; rintro e w' ⟨rfl, rfl⟩)
    refine (unhide HGA _ co ccap (unhide R1) hle.1 hle.2.1).mono ?_
    rintro e w1c ⟨rfl, q1c⟩
    go_wp2_with fail
    refine (unhide HGB _ ((unhide hq1).trans q1c)).mono ?_
    rintro e w2 ⟨rfl, q1d⟩
    have R2 := hide ((unhide R1).q (q1c.trans q1d))
    have hq2 : Hid (Q w w2) := (unhide hq1).trans (q1c.trans q1d)
    clear R1 hq1 q1c q1d
    go_wp2_with fail
    refine (unhide HS2 _ co ccap (unhide R2) hle.1 hle.2.1).mono ?_
    rintro e w3 ⟨fo, fcap, rfl, own3, q3⟩
    have R3 := hide own3.row
    have R3a := hide ((unhide R2).q q3)
    have hq3 : Hid (Q w w3) := (unhide hq2).trans q3
    clear own3 q3 R2 hq2
    go_wp2_with fail
    refine (unhide HG2 _ co ccap (unhide R3a) hle.1 hle.2.1).mono ?_
    rintro e w4 ⟨rfl, q4⟩
    go_wp2_with fail
    refine (unhide HM2 _ co ccap ((unhide R3a).q q4) hle.1 hle.2.1).mono ?_
    rintro e w5 ⟨rfl, q5⟩
    go_wp2_with fail
    refine (unhide HR2 _ co ccap ((unhide R3a).q (q4.trans q5))).mono ?_
    rintro e w6 ⟨rfl, q6⟩
    have q36 : Hid (Q w3 w6) := q4.trans (q5.trans q6)
    clear q4 q5 q6
    go_wp2_with (go_at_call 11; refine (num_any _ _).mono ?_; rintro e w' ⟨rfl, rfl⟩)
    refine (unhide HSM _ co ccap fo fcap ((unhide R3a).q (unhide q36)) ((unhide R3).q (unhide q36))).mono ?_
    rintro e w7 ⟨rfl, q7⟩
    go_wp2_with fail
    go_ret
    exact ⟨rfl, (unhide hq3).trans ((unhide q36).trans q7)⟩

set_option maxHeartbeats 4000000 in
theorem other_no (w : World) (ao : Option Addr) (cap : Nat) (bs : List Bd) (n t o : ByteArray) (m : Int) (hm : (m == 0) = false) (hlc : bs.length ≤ cap) (hcm : cap ≤ maxLen) (hr : RowD w ao bs) (hf : Fit bs) (hn : n.size ≤ maxLen) (ht : t.size ≤ maxLen)
    (h1 : setB bs n t = [] ∧ setE bs n t = m) :
    Calls Try.prog 6 #[.slice ao bs.length cap, .string n, .string t, .string o] w fun e w' => e = .returned (.bool true) ∧ Q w w' := by
  have HST := hide (fun w' (h : Q w w') => set_lit bs n t ao cap w' h1 (hr.q h) hf hlc hcm hn ht)
  have hm2 : (m != 0) = true := by unfold bne; rw [hm]; rfl
  clear h1 hr hf
  go_enter Try.func6, Try.ntmps6
  go_wp2_with fail
  refine (scawake_any _).mono ?_
  rintro e w1 ⟨rfl, q1⟩
  go_wp2_with fail
  refine (unhide HST _ q1).mono ?_
  rintro e w2 ⟨co, ccap, rfl, _, q2⟩
  go_wp2_with (go_at_call 11; refine (num_any _ _).mono ?_; rintro e w' ⟨rfl, rfl⟩)
  go_ret
  exact ⟨rfl, q1.trans q2⟩

theorem scopeOther_any (w : World) (ao : Option Addr) (len cap : Nat) (bs : List Bd) (hrow : IsRowD w ao len cap bs) (n : ByteArray) (hn : n.size ≤ maxLen) (t : ByteArray) (ht : t.size ≤ maxLen) (o : ByteArray) (_ho : o.size ≤ maxLen) :
    Calls Try.prog 6 #[.slice ao len cap, .string n, .string t, .string o] w fun e w' => e = .returned (.bool true) ∧ Q w w' := by
  obtain ⟨rfl, hlc, hre, hr, hf⟩ := hrow
  have hcm : cap ≤ maxLen := by unfold reachBytes at hre; unfold maxLen; omega
  obtain ⟨hsf, hsl, hss⟩ := set_fit (bs := bs) (n := n) (t := t)
  by_cases he : setE bs n t = 0
  · exact other_yes w ao cap bs _ n t o hlc hcm hr hf hn ht ⟨rfl, he⟩ hsf hsl (set_again he) (set_told he) (set_ok he) (fun h => set_other he h)
  · exact other_no w ao cap bs n t o _ (beq_eq_false_iff_ne.2 he) hlc hcm hr hf hn ht ⟨set_empty he, rfl⟩

theorem Try.laidOut : laidOutB Try.prog = true := by kernel_rfl
set_option maxRecDepth 100000 in
theorem scopeOther_lifted (os : Os) (started : os.Started) (H : Type) (enc : TypeId × Value → H) :
    ReturnsInHanded {} Try.checked os 6 .any (Rows.scopeOtherSpec.pre6 enc Try.prog Try.f6 Rows.scopeOtherRow.domain false) (Rows.scopeOtherSpec.post enc Try.prog Try.f6 false true false false) := by
  refine returnsInHanded_of_change_sized (C := Try.checked) Try.own started (by kernel_rfl) Try.func6
    (ChangeSpec.witness6 (enc := enc) (C := Try.checked) false ⟨#[], #[.slice none 0 0, .string ByteArray.empty, .string ByteArray.empty, .string ByteArray.empty], []⟩ 8 (by kernel_rfl) (by kernel_rfl) (by kernel_rfl) (by kernel_rfl)) ?_
  intro W base args ds gs before hval0 hW hcnd hsz0 _
  have hval : ∀ (j : Nat) t v, Try.f6.params[j]? = some t → args[j]? = some v → Value.okWide Try.prog W .any base t v := hval0
  have hW' := hW
  obtain ⟨p, q, hA0, hV, rfl, hfz, hnd⟩ := hW
  have hA : DataW.TrodAll enc Try.prog W 0 (fun _ => true) true Try.f6.params.toList args.toList ds p := hA0
  rw [Try.params6] at hA hval
  rw [Try.params6] at hsz0
  obtain ⟨v0, vs0, d0, ds0, p0, q0, hargs, rfl, rfl, h0, r0⟩ := trodAll_cons hA
  obtain ⟨v1, vs1, d1, ds1, p1, q1, rfl, rfl, rfl, h1, r1⟩ := trodAll_cons r0
  obtain ⟨v2, vs2, d2, ds2, p2, q2, rfl, rfl, rfl, h2, r2⟩ := trodAll_cons r1
  obtain ⟨v3, vs3, d3, ds3, p3, q3, rfl, rfl, rfl, h3, r3⟩ := trodAll_cons r2
  obtain ⟨rfl, rfl, rfl⟩ := trodAll_nil r3
  obtain rfl : args = #[v0, v1, v2, v3] := by cases args; simp_all
  obtain ⟨rfl, rfl⟩ := trodVars_none hV
  obtain ⟨a0, len0, cap0, rfl⟩ := okWide_slice Try.underlying22 (hval 0 22 v0 rfl rfl)
  have k0 := h0
  have lt0 : ∀ x ∈ p0, x.block < W.heap.size := by obtain ⟨m, hm⟩ := k0; exact DataW.trod_lt m _ _ _ hm
  obtain ⟨z0, w0⟩ : ∃ zs, IsRowD W a0 len0 cap0 zs := Try.is_rowD h0 (fun elems spare e => by subst e; exact sized_slice hsz0 (j := 0) (t := 22) rfl rfl Try.underlying22)
  obtain ⟨a1, rfl, rfl, rfl, w1⟩ := open_string Try.underlying9 (hval 1 9 v1 rfl rfl) h1
  obtain ⟨a2, rfl, rfl, rfl, w2⟩ := open_string Try.underlying9 (hval 2 9 v2 rfl rfl) h2
  obtain ⟨a3, rfl, rfl, rfl, w3⟩ := open_string Try.underlying9 (hval 3 9 v3 rfl rfl) h3
  clear hA0 hval0
  refine (scopeOther_any W a0 len0 cap0 z0 w0 a1 w1 a2 w2 a3 w3).mono fun e W' ⟨he, bel⟩ => ?_
  subst he
  exact ⟨_, rfl, _, _, _, [], _, [], hW', trodAll_mk1 (shut_bool Try.underlying4 _), (trodAll_cons_mk (Below.trod Try.laidOut (by kernel_rfl) (of_decide_eq_true (by kernel_rfl)) k0 bel lt0) (trodAll_cons_mk (shut_string Try.underlying9 w1) (trodAll_cons_mk (shut_string Try.underlying9 w2) (trodAll_cons_mk (shut_string Try.underlying9 w3) trodAll_mk0)))), rfl, bel.frame _, fun h => by cases h⟩

theorem scopeOther_holds : Rows.ScopeOtherSaid :=
  OpenClaim.holds_of_wide 6 Try.f6 rfl rfl rfl rfl rfl rfl rfl ⟨rfl, rfl, rfl, rfl, rfl⟩ rfl rfl rfl rfl rfl (by kernel_rfl) Try.func6 (by kernel_rfl)
    (of_decide_eq_true (by kernel_rfl)) (by unfold Func.isWrapper; first | (rw [if_pos (by decide +kernel)]; kernel_rfl) | (rw [if_neg (by decide +kernel)]; exact ⟨rfl, rfl⟩))
    (fun os started H enc _ => scopeOther_lifted os started H enc)
#print axioms scopeOther_holds
end Go.Proofs.Ytegcckaemhdkgaa
