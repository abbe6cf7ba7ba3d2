/- EvalPlain: a text without a variable, each $ of it doubled, is told as it stands, whatever text and scope came in; no conditions but that the texts are no longer than a string can be. -/
import Derived.Test.YtdkbjbcchpenaaaRows
import Derived.ProofKit
import Derived.OpenShut
import Derived.ShutString
import Derived.ChangeOld
import Derived.Below
import Derived.SizedLaws
import Derived.Test.YtdkbjbcchpenaaaEvAwake
import Derived.Test.YtdkbjbcchpenaaaEvMore
import Derived.Test.YtdkbjbcchpenaaaScOpen
namespace Go.Proofs.Ytdkbjbcchpenaaa
open Go.ChangeShapes Go.WideShapes Go.ChangeAt Go.RowKit
open Go.ChangeMaps (open_string shut_string)

theorem bl_at (s : ByteArray) (k : Nat) (h : k < s.size) : bl (s.extract k (k + 1)) = [s[k]] := by
  rw [bl_extract]
  have hk : k < (bl s).length := by rw [bl_size]; exact h
  have he : (bl s)[k] = s[k] := (List.getElem?_eq_some_iff.1 (bl_getElem s k h)).2
  rw [List.take_succ_eq_append_getElem hk, List.drop_left' (by rw [List.length_take]; omega)]
  exact congrArg (fun c => [c]) he
theorem size_at (s : ByteArray) (k : Nat) (h : k < s.size) : (s.extract k (k + 1)).size = 1 := by rw [← bl_size, bl_at s k h]; rfl

/-- Under way: each $ doubled; as it stands. -/
def PlS (t u : ByteArray) : Prop := bl t = dbl (bl u) ∧ plainL (bl u) = true
theorem PlS.step {t u x : ByteArray} {c : UInt8} (h : PlS t u) (hx : bl x = [c]) (h1 : 32 ≤ (c.toNat : Int)) (h2 : (c.toNat : Int) ≤ 126) (hc : c ≠ 36) : PlS (t ++ x) (u ++ x) := by
  refine ⟨?_, ?_⟩
  · rw [bl_app, bl_app, hx, dbl_snoc, if_neg hc, h.1]
  · rw [bl_app, plainL_app, h.2, hx]; simp [plainL, h1, h2]
theorem PlS.twice {t u x : ByteArray} {c : UInt8} (h : PlS t u) (hx : bl x = [c]) (hc : c = 36) : PlS (t ++ x ++ ⟨#[36]⟩) (u ++ x) := by
  subst hc
  refine ⟨?_, ?_⟩
  · rw [bl_app, bl_app, bl_app, hx, dbl_snoc, if_pos rfl, h.1, List.append_assoc]; rfl
  · rw [bl_app, plainL_app, h.2, hx]; rfl

set_option maxRecDepth 20000 in
set_option maxHeartbeats 4000000 in
theorem evalPlain_any (w : World) (s : ByteArray) (hs : s.size ≤ maxLen) (ai : Option Addr) (li ci : Nat) (ins : List Bd) (hi : IsRowD w ai li ci ins) :
    Calls Try.prog 5 #[.string s, .slice ai li ci] w fun e w' => e = .returned (.bool true) ∧ Q w w' := by
  obtain ⟨rfl, hlc, hre, hr, hf⟩ := hi
  have hcm : ci ≤ maxLen := by unfold reachBytes at hre; unfold maxLen; omega
  have HRI := hide (fun w' (h : Q w w') => Read.q (cap := ci) ⟨hr, hf, hlc, hcm⟩ h)
  have HM := hide (fun w' (h : Q w w') => (unhide HRI _ h).rmay)
  have HV := hide (fun (tb ub : ByteArray) (h : PlS tb ub) (h1 : tb.size ≤ 201) (h2 : scOk ins = true) => (show evS (bl tb) ins [] = bl ub ∧ evE (bl tb) ins [] = 0 by rw [h.1]; exact ev_dbl h.2 (by rw [← h.1, bl_size]; omega) h2 rfl))
  have HX0 := hide (fun (tb : ByteArray) (h2 : scOk ins = false) => ev_bad (evOk_in (l := bl tb) (outs := []) h2))
  unfold maxLen at hs
  clear hr hf hre
  go_enter Try.func5, Try.ntmps5
  go_wp2_with fail
  refine (evawake_any _).mono ?_
  rintro e w1 ⟨rfl, q1⟩
  go_wp2_with fail
  go_loopw [5, 6, 7] (fun t u i wr => ∃ (k : Nat) (tb ub : ByteArray), k ≤ s.size ∧ i = .int .i64 k ∧ t = .string tb ∧ u = .string ub ∧ tb.size ≤ 201 ∧ ub.size ≤ 201 ∧ ub.size ≤ tb.size ∧ Hid (PlS tb ub) ∧ Q w wr) (fun _ _ i _ => s.size - (intOf i).toNat)
  case atStart => exact ⟨0, ⟨#[]⟩, ⟨#[]⟩, Nat.zero_le _, rfl, rfl, rfl, by decide, by decide, by decide, ⟨rfl, rfl⟩, q1⟩
  case round =>
    obtain ⟨k, tb, ub, hk, rfl, rfl, rfl, ht, hu, hut, HP, hq⟩ := hrel
    by_cases hlt : k < s.size
    · by_cases h2 : tb.size < 200
      · have k0 : (0 : Int) ≤ (k : Int) := Int.natCast_nonneg _
        have k1 : (k : Int) < (s.size : Int) := by omega
        have k2 : (tb.size : Int) < 200 := by omega
        have hx1 := size_at s k hlt
        have HX := hide (bl_at s k hlt)
        by_cases ho : (s[k].toNat : Int) < 32
        · clear HX
          go_wp2_with fail
          go_roundw
          case rel => exact ⟨k + 1, tb, ub, by omega, by go_num, rfl, rfl, ht, hu, hut, HP, hq⟩
          case measure => simp [intOf]; omega
        by_cases ho2 : (126 : Int) < (s[k].toNat : Int)
        · clear HX
          have ho' : (32 : Int) ≤ (s[k].toNat : Int) := by omega
          go_wp2_with fail
          go_roundw
          case rel => exact ⟨k + 1, tb, ub, by omega, by go_num, rfl, rfl, ht, hu, hut, HP, hq⟩
          case measure => simp [intOf]; omega
        have g1 : (32 : Int) ≤ (s[k].toNat : Int) := by omega
        have g2 : (s[k].toNat : Int) ≤ 126 := by omega
        clear ho ho2
        by_cases hc : s[k] = 36
        · have HN := hide (HP.out.twice (unhide HX) hc)
          have g3 : ((s[k].toNat : Int) == 36) = true := by rw [hc]; rfl
          clear HX hc
          go_wp2_with fail
          go_roundw
          case rel => exact ⟨k + 1, tb ++ s.extract k (k + 1) ++ ⟨#[36]⟩, ub ++ s.extract k (k + 1), by omega, by go_num, rfl, rfl, by rw [ByteArray.size_append, ByteArray.size_append, hx1]; show tb.size + 1 + 1 ≤ 201; omega, by rw [ByteArray.size_append, hx1]; omega, by rw [ByteArray.size_append, ByteArray.size_append, ByteArray.size_append, hx1]; show ub.size + 1 ≤ tb.size + 1 + 1; omega, HN, hq⟩
          case measure => simp [intOf]; omega
        · have HN := hide (HP.out.step (unhide HX) g1 g2 hc)
          have g3 : ((s[k].toNat : Int) == 36) = false := beq_eq_false_iff_ne.2 fun e => hc (UInt8.toNat_inj.1 (by show _ = 36; omega))
          clear HX hc
          go_wp2_with fail
          go_roundw
          case rel => exact ⟨k + 1, tb ++ s.extract k (k + 1), ub ++ s.extract k (k + 1), by omega, by go_num, rfl, rfl, by rw [ByteArray.size_append, hx1]; omega, by rw [ByteArray.size_append, hx1]; omega, by rw [ByteArray.size_append, ByteArray.size_append, hx1]; omega, HN, hq⟩
          case measure => simp [intOf]; omega
      · have k1 : (k : Int) < (s.size : Int) := by omega
        have k2 : (200 : Int) ≤ (tb.size : Int) := by omega
        clear hlt
        have HOF := hide (fun w' (h : Q w w') => of_any tb ins [] ai none ci 0 w' (by unfold maxLen; omega) (unhide HRI _ h) (read_none _))
        unfold EvSays at HOF
        cases hok : scOk ins
        · have e1 := unhide HX0 tb hok
          rw [e1.1, e1.2] at HOF
          rw [hok] at HM
          clear e1 hok HP HV HX0 HRI
          go_wp2_with fail
          refine (unhide HOF _ hq).mono ?_
          rintro e w2 ⟨rfl, q2⟩
          go_wp2_with fail
          refine (unhide HM _ (hq.trans q2)).mono ?_
          rintro e w3 ⟨rfl, q3⟩
          go_wp2_with (go_at_call 11; refine (num_any _ _).mono ?_; rintro e w' ⟨rfl, rfl⟩)
          go_ret
          exact ⟨rfl, hq.trans (q2.trans q3)⟩
        · have e1 := unhide HV tb ub HP.out ht hok
          rw [e1.1, e1.2, mk_bl] at HOF
          rw [hok] at HM
          have ee : (ub.toList == ub.toList) = true := by simp
          clear e1 hok HP HV HX0 HRI
          go_wp2_with fail
          refine (unhide HOF _ hq).mono ?_
          rintro e w2 ⟨rfl, q2⟩
          go_wp2_with fail
          refine (unhide HM _ (hq.trans q2)).mono ?_
          rintro e w3 ⟨rfl, q3⟩
          go_wp2_with (go_at_call 11; refine (num_any _ _).mono ?_; rintro e w' ⟨rfl, rfl⟩)
          go_ret
          exact ⟨rfl, hq.trans (q2.trans q3)⟩
    · have k1 : (s.size : Int) ≤ (k : Int) := by omega
      clear hlt
      have HOF := hide (fun w' (h : Q w w') => of_any tb ins [] ai none ci 0 w' (by unfold maxLen; omega) (unhide HRI _ h) (read_none _))
      unfold EvSays at HOF
      cases hok : scOk ins
      · have e1 := unhide HX0 tb hok
        rw [e1.1, e1.2] at HOF
        rw [hok] at HM
        clear e1 hok HP HV HX0 HRI
        go_wp2_with fail
        refine (unhide HOF _ hq).mono ?_
        rintro e w2 ⟨rfl, q2⟩
        go_wp2_with fail
        refine (unhide HM _ (hq.trans q2)).mono ?_
        rintro e w3 ⟨rfl, q3⟩
        go_wp2_with (go_at_call 11; refine (num_any _ _).mono ?_; rintro e w' ⟨rfl, rfl⟩)
        go_ret
        exact ⟨rfl, hq.trans (q2.trans q3)⟩
      · have e1 := unhide HV tb ub HP.out ht hok
        rw [e1.1, e1.2, mk_bl] at HOF
        rw [hok] at HM
        have ee : (ub.toList == ub.toList) = true := by simp
        clear e1 hok HP HV HX0 HRI
        go_wp2_with fail
        refine (unhide HOF _ hq).mono ?_
        rintro e w2 ⟨rfl, q2⟩
        go_wp2_with fail
        refine (unhide HM _ (hq.trans q2)).mono ?_
        rintro e w3 ⟨rfl, q3⟩
        go_wp2_with (go_at_call 11; refine (num_any _ _).mono ?_; rintro e w' ⟨rfl, rfl⟩)
        go_ret
        exact ⟨rfl, hq.trans (q2.trans q3)⟩

theorem Try.laidOut : laidOutB Try.prog = true := by kernel_rfl
set_option maxRecDepth 100000 in
theorem evalPlain_lifted (os : Os) (started : os.Started) (H : Type) (enc : TypeId × Value → H) :
    ReturnsInHanded {} Try.checked os 5 .any (Rows.evalPlainSpec.pre6 enc Try.prog Try.f5 Rows.evalPlainRow.domain false) (Rows.evalPlainSpec.post enc Try.prog Try.f5 false true false false) := by
  refine returnsInHanded_of_change_sized (C := Try.checked) Try.own started (by kernel_rfl) Try.func5
    (ChangeSpec.witness6 (enc := enc) (C := Try.checked) false ⟨#[], #[.string ByteArray.empty, .slice none 0 0], []⟩ 8 (by kernel_rfl) (by kernel_rfl) (by kernel_rfl) (by kernel_rfl)) ?_
  intro W base args ds gs before hval0 hW hcnd hsz0 _
  have hval : ∀ (j : Nat) t v, Try.f5.params[j]? = some t → args[j]? = some v → Value.okWide Try.prog W .any base t v := hval0
  have hW' := hW
  obtain ⟨p, q, hA0, hV, rfl, hfz, hnd⟩ := hW
  have hA : DataW.TrodAll enc Try.prog W 0 (fun _ => true) true Try.f5.params.toList args.toList ds p := hA0
  rw [Try.params5] at hA hval
  rw [Try.params5] at hsz0
  obtain ⟨v0, vs0, d0, ds0, p0, q0, hargs, rfl, rfl, h0, r0⟩ := trodAll_cons hA
  obtain ⟨v1, vs1, d1, ds1, p1, q1, rfl, rfl, rfl, h1, r1⟩ := trodAll_cons r0
  obtain ⟨rfl, rfl, rfl⟩ := trodAll_nil r1
  obtain rfl : args = #[v0, v1] := by cases args; simp_all
  obtain ⟨rfl, rfl⟩ := trodVars_none hV
  obtain ⟨a0, rfl, rfl, rfl, w0⟩ := open_string Try.underlying9 (hval 0 9 v0 rfl rfl) h0
  obtain ⟨a1, len1, cap1, rfl⟩ := okWide_slice Try.underlying22 (hval 1 22 v1 rfl rfl)
  have k1 := h1
  have lt1 : ∀ x ∈ p1, x.block < W.heap.size := by obtain ⟨m, hm⟩ := k1; exact DataW.trod_lt m _ _ _ hm
  obtain ⟨z1, w1⟩ : ∃ zs, IsRowD W a1 len1 cap1 zs := Try.is_rowD h1 (fun elems spare e => by subst e; exact sized_slice hsz0 (j := 1) (t := 22) rfl rfl Try.underlying22)
  clear hA0 hval0
  refine (evalPlain_any W a0 w0 a1 len1 cap1 z1 w1).mono fun e W' ⟨he, bel⟩ => ?_
  subst he
  exact ⟨_, rfl, _, _, _, [], _, [], hW', trodAll_mk1 (shut_bool Try.underlying4 _), (trodAll_cons_mk (shut_string Try.underlying9 w0) (trodAll_cons_mk (Below.trod Try.laidOut (by kernel_rfl) (of_decide_eq_true (by kernel_rfl)) k1 bel lt1) trodAll_mk0)), rfl, bel.frame _, fun h => by cases h⟩

theorem evalPlain_holds : Rows.EvalPlainSaid :=
  OpenClaim.holds_of_wide 5 Try.f5 rfl rfl rfl rfl rfl rfl rfl ⟨rfl, rfl, rfl, rfl, rfl⟩ rfl rfl rfl rfl rfl (by kernel_rfl) Try.func5 (by kernel_rfl)
    (of_decide_eq_true (by kernel_rfl)) (by unfold Func.isWrapper; first | (rw [if_pos (by decide +kernel)]; kernel_rfl) | (rw [if_neg (by decide +kernel)]; exact ⟨rfl, rfl⟩))
    (fun os started H enc _ => evalPlain_lifted os started H enc)
#print axioms evalPlain_holds
end Go.Proofs.Ytdkbjbcchpenaaa
