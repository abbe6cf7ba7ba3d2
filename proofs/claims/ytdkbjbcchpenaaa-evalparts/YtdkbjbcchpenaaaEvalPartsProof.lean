/- EvalParts: a value of two texts, a blank between, is both's values, whatever the texts and the scopes are; no conditions but that each text takes no more memory than there may be. -/
import Derived.Test.YtdkbjbcchpenaaaRows
import Derived.ProofKit
import Derived.OpenShut
import Derived.ShutString
import Derived.ChangeOld
import Derived.Below
import Derived.SizedLaws
import Derived.Test.YtdkbjbcchpenaaaEvAwake
import Derived.Test.YtdkbjbcchpenaaaEvMore
import Derived.Test.YtdkbjbcchpenaaaScOpen
namespace Go.Proofs.Ytdkbjbcchpenaaa
open Go.ChangeShapes Go.WideShapes Go.ChangeAt Go.RowKit
open Go.ChangeMaps (open_string shut_string)

theorem bl_parts (s t : ByteArray) : bl (s ++ ⟨#[36, 32]⟩ ++ t) = bl s ++ 36 :: 32 :: bl t := by rw [bl_app, bl_app, List.append_assoc]; rfl

set_option maxRecDepth 20000 in
set_option maxHeartbeats 4000000 in
theorem evalParts_any (w : World) (s : ByteArray) (hs : s.size ≤ reachBytes) (t : ByteArray) (ht : t.size ≤ reachBytes) (ai : Option Addr) (li ci : Nat) (ins : List Bd) (hi : IsRowD w ai li ci ins) (ao : Option Addr) (lo co : Nat) (outs : List Bd) (ho : IsRowD w ao lo co outs) :
    Calls Try.prog 7 #[.string s, .string t, .slice ai li ci, .slice ao lo co] w fun e w' => e = .returned (.bool true) ∧ Q w w' := by
  obtain ⟨rfl, hlc, hre, hr, hf⟩ := hi
  obtain ⟨rfl, hlc', hre', hr', hf'⟩ := ho
  unfold reachBytes at hs ht hre hre'
  have hcm : ci ≤ maxLen := by unfold maxLen; omega
  have hcm' : co ≤ maxLen := by unfold maxLen; omega
  have hst : (s ++ ⟨#[36, 32]⟩ ++ t).size ≤ maxLen := by
    rw [ByteArray.size_append, ByteArray.size_append]
    show s.size + 2 + t.size ≤ _
    unfold maxLen; omega
  have HRI := hide (fun w' (h : Q w w') => Read.q (cap := ci) ⟨hr, hf, hlc, hcm⟩ h)
  have HRO := hide (fun w' (h : Q w w') => Read.q (cap := co) ⟨hr', hf', hlc', hcm'⟩ h)
  have HA := hide (fun w' (h : Q w w') => of_any s ins outs ai ao ci co w' (by unfold maxLen; omega) (unhide HRI _ h) (unhide HRO _ h))
  have HB := hide (fun w' (h : Q w w') => of_any t ins outs ai ao ci co w' (by unfold maxLen; omega) (unhide HRI _ h) (unhide HRO _ h))
  have HC := hide (fun w' (h : Q w w') => of_any (s ++ ⟨#[36, 32]⟩ ++ t) ins outs ai ao ci co w' hst (unhide HRI _ h) (unhide HRO _ h))
  have HM := hide (fun w' (h : Q w w') => (unhide HRI _ h).rmay)
  unfold EvSays at HA HB HC
  rw [bl_parts] at HC
  have HE := hide (fun h1 h2 h3 => ev_parts (s := bl s) (t := bl t) (ins := ins) (outs := outs) h1 h2 h3)
  have HN := hide (fun h => evE_not (l := bl s) (ins := ins) (outs := outs) h)
  have HLA := hide (evS_le (bl s) ins outs)
  have HLB := hide (evS_le (bl t) ins outs)
  rw [bl_size, bl_size] at HE
  clear hst hcm hcm' hr hr' hf hf' hre hre' HRI HRO
  revert HA HB HC HE HN HLA HLB
  generalize evS (bl s) ins outs = va
  generalize evS (bl t) ins outs = vb
  generalize evS (bl s ++ 36 :: 32 :: bl t) ins outs = vc
  generalize evE (bl s) ins outs = ea
  generalize evE (bl t) ins outs = eb
  generalize evE (bl s ++ 36 :: 32 :: bl t) ins outs = ec
  intro HA HB HC HE HN HLA HLB
  have HEQ : Hid (ea = 0 → eb = 0 → s.size + t.size + 2 ≤ 2048 → va.length + vb.length + 1 ≤ 256 → (⟨va.toArray⟩ : ByteArray) ++ ⟨#[32]⟩ ++ ⟨vb.toArray⟩ = ⟨vc.toArray⟩) := by
    intro h1 h2 h3 h4
    rw [((unhide HE h1 h2 h3).2.1 h4).1]
    rw [show (⟨#[32]⟩ : ByteArray) = ⟨([32] : List UInt8).toArray⟩ from rfl, mk_app, mk_app, List.append_assoc]; rfl
  have HNE : Hid (ea ≠ 0 → (⟨va.toArray⟩ : ByteArray).toList.isEmpty = true) := by
    intro h
    rw [unhide HN h]; decide +kernel
  have ma := mk_size va
  have mb := mk_size vb
  revert HA HB HC HEQ HNE ma mb
  generalize (⟨va.toArray⟩ : ByteArray) = a
  generalize (⟨vb.toArray⟩ : ByteArray) = b
  generalize (⟨vc.toArray⟩ : ByteArray) = c
  intro HA HB HC HEQ HNE ma mb
  have hla : a.size ≤ 256 := by rw [ma]; exact unhide HLA
  have hlb : b.size ≤ 256 := by rw [mb]; exact unhide HLB
  rw [← ma, ← mb] at HE HEQ
  have ecc : (c.toList == c.toList) = true := by simp
  have HSC := hide (fun h1 h2 h3 => (unhide HE h1 h2 h3).1)
  have HE2 := hide (fun h1 h2 h3 h4 => ((unhide HE h1 h2 h3).2.1 h4).2)
  have HE3 := hide (fun h1 h2 h3 h4 => (unhide HE h1 h2 h3).2.2 h4)
  clear ma mb HLA HLB HN HE
  go_enter Try.func7, Try.ntmps7
  go_wp2_with fail
  refine (evawake_any _).mono ?_
  rintro e w1 ⟨rfl, q1⟩
  go_wp2_with fail
  refine (unhide HA _ q1).mono ?_
  rintro e w2 ⟨rfl, q2⟩
  have hq2 := q1.trans q2
  clear q1 q2
  go_wp2_with fail
  refine (unhide HB _ hq2).mono ?_
  rintro e w3 ⟨rfl, q3⟩
  have hq3 := hq2.trans q3
  clear hq2 q3
  go_wp2_with fail
  refine (unhide HC _ hq3).mono ?_
  rintro e w4 ⟨rfl, q4⟩
  have hq4 := hq3.trans q4
  clear hq3 q4 HA HB HC
  by_cases h1 : ea = 0
  · subst h1
    by_cases h2 : eb = 0
    · subst h2
      by_cases h3 : s.size + t.size + 2 ≤ 2048
      · by_cases h4 : a.size + b.size + 1 ≤ 256
        · have e1 := unhide HEQ rfl rfl h3 h4
          have e2 := unhide HE2 rfl rfl h3 h4
          have e3 := unhide HSC rfl rfl h3
          rw [e3] at HM
          subst e2
          have g3 : (s.size : Int) + (t.size : Int) + 2 ≤ 2048 := by omega
          have g4 : (a.size : Int) + (b.size : Int) + 1 ≤ 256 := by omega
          clear HEQ HE2 HE3 HSC HNE e3
          go_wp2_with (go_at_call 11; refine (num_any _ _).mono ?_; rintro e w' ⟨rfl, rfl⟩)
          refine (unhide HM _ hq4).mono ?_
          rintro e w5 ⟨rfl, q5⟩
          go_wp2_with fail
          go_ret
          exact ⟨rfl, hq4.trans q5⟩
        · have e2 := unhide HE3 rfl rfl h3 (by omega)
          subst e2
          have g3 : (s.size : Int) + (t.size : Int) + 2 ≤ 2048 := by omega
          have g4 : 256 < (a.size : Int) + (b.size : Int) + 1 := by omega
          clear HEQ HE2 HE3 HSC HNE
          go_wp2_with (go_at_call 11; refine (num_any _ _).mono ?_; rintro e w' ⟨rfl, rfl⟩)
          go_ret
          exact ⟨rfl, hq4⟩
      · have g3 : 2048 < (s.size : Int) + (t.size : Int) + 2 := by omega
        clear HEQ HE2 HE3 HSC HNE
        go_wp2_with (go_at_call 11; refine (num_any _ _).mono ?_; rintro e w' ⟨rfl, rfl⟩)
        go_ret
        exact ⟨rfl, hq4⟩
    · have g1 : (eb == 0) = false := beq_eq_false_iff_ne.2 h2
      have g2 : (eb != 0) = true := by unfold bne; rw [g1]; rfl
      clear HEQ HE2 HE3 HSC HNE h2
      go_wp2_with (go_at_call 11; refine (num_any _ _).mono ?_; rintro e w' ⟨rfl, rfl⟩)
      go_ret
      exact ⟨rfl, hq4⟩
  · have g1 : (ea == 0) = false := beq_eq_false_iff_ne.2 h1
    have g2 : (ea != 0) = true := by unfold bne; rw [g1]; rfl
    have g3 := unhide HNE h1
    clear HEQ HE2 HE3 HSC HNE h1
    go_wp2_with (go_at_call 11; refine (num_any _ _).mono ?_; rintro e w' ⟨rfl, rfl⟩)
    go_ret
    exact ⟨rfl, hq4⟩

theorem Try.laidOut : laidOutB Try.prog = true := by kernel_rfl
set_option maxRecDepth 100000 in
theorem evalParts_lifted (os : Os) (started : os.Started) (H : Type) (enc : TypeId × Value → H) :
    ReturnsInHanded {} Try.checked os 7 .any (Rows.evalPartsSpec.pre6 enc Try.prog Try.f7 Rows.evalPartsRow.domain false) (Rows.evalPartsSpec.post enc Try.prog Try.f7 false true false false) := by
  refine returnsInHanded_of_change_sized (C := Try.checked) Try.own started (by kernel_rfl) Try.func7
    (ChangeSpec.witness6 (enc := enc) (C := Try.checked) false ⟨#[], #[.string ByteArray.empty, .string ByteArray.empty, .slice none 0 0, .slice none 0 0], []⟩ 8 (by kernel_rfl) (by kernel_rfl) (by kernel_rfl) (by kernel_rfl)) ?_
  intro W base args ds gs before hval0 hW hcnd hsz0 _
  have hval : ∀ (j : Nat) t v, Try.f7.params[j]? = some t → args[j]? = some v → Value.okWide Try.prog W .any base t v := hval0
  have hW' := hW
  obtain ⟨p, q, hA0, hV, rfl, hfz, hnd⟩ := hW
  have hA : DataW.TrodAll enc Try.prog W 0 (fun _ => true) true Try.f7.params.toList args.toList ds p := hA0
  rw [Try.params7] at hA hval
  rw [Try.params7] at hsz0
  obtain ⟨v0, vs0, d0, ds0, p0, q0, hargs, rfl, rfl, h0, r0⟩ := trodAll_cons hA
  obtain ⟨v1, vs1, d1, ds1, p1, q1, rfl, rfl, rfl, h1, r1⟩ := trodAll_cons r0
  obtain ⟨v2, vs2, d2, ds2, p2, q2, rfl, rfl, rfl, h2, r2⟩ := trodAll_cons r1
  obtain ⟨v3, vs3, d3, ds3, p3, q3, rfl, rfl, rfl, h3, r3⟩ := trodAll_cons r2
  obtain ⟨rfl, rfl, rfl⟩ := trodAll_nil r3
  obtain rfl : args = #[v0, v1, v2, v3] := by cases args; simp_all
  obtain ⟨rfl, rfl⟩ := trodVars_none hV
  obtain ⟨a0, rfl, rfl, rfl, w0⟩ := open_string Try.underlying9 (hval 0 9 v0 rfl rfl) h0
  have y0 : a0.size ≤ reachBytes := by have h := sized_string hsz0 (j := 0) (t := 9) rfl rfl; first | exact Nat.le_trans (Nat.le_of_eq (bl_size _).symm) h | (rw [bl_toList, bl_size] at h; exact h)
  obtain ⟨a1, rfl, rfl, rfl, w1⟩ := open_string Try.underlying9 (hval 1 9 v1 rfl rfl) h1
  have y1 : a1.size ≤ reachBytes := by have h := sized_string hsz0 (j := 1) (t := 9) rfl rfl; first | exact Nat.le_trans (Nat.le_of_eq (bl_size _).symm) h | (rw [bl_toList, bl_size] at h; exact h)
  obtain ⟨a2, len2, cap2, rfl⟩ := okWide_slice Try.underlying22 (hval 2 22 v2 rfl rfl)
  have k2 := h2
  have lt2 : ∀ x ∈ p2, x.block < W.heap.size := by obtain ⟨m, hm⟩ := k2; exact DataW.trod_lt m _ _ _ hm
  obtain ⟨z2, w2⟩ : ∃ zs, IsRowD W a2 len2 cap2 zs := Try.is_rowD h2 (fun elems spare e => by subst e; exact sized_slice hsz0 (j := 2) (t := 22) rfl rfl Try.underlying22)
  obtain ⟨a3, len3, cap3, rfl⟩ := okWide_slice Try.underlying22 (hval 3 22 v3 rfl rfl)
  have k3 := h3
  have lt3 : ∀ x ∈ p3, x.block < W.heap.size := by obtain ⟨m, hm⟩ := k3; exact DataW.trod_lt m _ _ _ hm
  obtain ⟨z3, w3⟩ : ∃ zs, IsRowD W a3 len3 cap3 zs := Try.is_rowD h3 (fun elems spare e => by subst e; exact sized_slice hsz0 (j := 3) (t := 22) rfl rfl Try.underlying22)
  clear hA0 hval0
  refine (evalParts_any W a0 y0 a1 y1 a2 len2 cap2 z2 w2 a3 len3 cap3 z3 w3).mono fun e W' ⟨he, bel⟩ => ?_
  subst he
  exact ⟨_, rfl, _, _, _, [], _, [], hW', trodAll_mk1 (shut_bool Try.underlying4 _), (trodAll_cons_mk (shut_string Try.underlying9 w0) (trodAll_cons_mk (shut_string Try.underlying9 w1) (trodAll_cons_mk (Below.trod Try.laidOut (by kernel_rfl) (of_decide_eq_true (by kernel_rfl)) k2 bel lt2) (trodAll_cons_mk (Below.trod Try.laidOut (by kernel_rfl) (of_decide_eq_true (by kernel_rfl)) k3 bel lt3) trodAll_mk0)))), rfl, bel.frame _, fun h => by cases h⟩

theorem evalParts_holds : Rows.EvalPartsSaid :=
  OpenClaim.holds_of_wide 7 Try.f7 rfl rfl rfl rfl rfl rfl rfl ⟨rfl, rfl, rfl, rfl, rfl⟩ rfl rfl rfl rfl rfl (by kernel_rfl) Try.func7 (by kernel_rfl)
    (of_decide_eq_true (by kernel_rfl)) (by unfold Func.isWrapper; first | (rw [if_pos (by decide +kernel)]; kernel_rfl) | (rw [if_neg (by decide +kernel)]; exact ⟨rfl, rfl⟩))
    (fun os started H enc _ => evalParts_lifted os started H enc)
#print axioms evalParts_holds
end Go.Proofs.Ytdkbjbcchpenaaa
