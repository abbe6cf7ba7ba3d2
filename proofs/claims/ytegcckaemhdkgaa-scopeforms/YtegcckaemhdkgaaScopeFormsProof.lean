/- ScopeForms, whole: scopes, names, texts that may not be are refused, a full scope takes no more, whatever the numbers; no conditions. -/
import Derived.Test.YtegcckaemhdkgaaRows
import Derived.ProofKit
import Derived.OpenShut
import Derived.ShutString
import Derived.ChangeOld
import Derived.Below
import Derived.SizedLaws
import Derived.Test.YtegcckaemhdkgaaScFull
namespace Go.Proofs.Ytegcckaemhdkgaa
open Go.ChangeShapes Go.WideShapes Go.ChangeAt Go.RowKit

set_option maxRecDepth 20000 in
set_option maxHeartbeats 8000000 in
theorem scopeForms_any (a : Int) (_ : (Lit.int .i64 a).wf = true) (b : Int) (_ : (Lit.int .i64 b).wf = true) (w : World) :
    Calls Try.prog 4 #[.int .i64 a, .int .i64 b] w fun e w' => e = .returned (.bool true) ∧ Q w w' := by
  obtain ⟨i0, hi, hz0, hz1, hz2⟩ := info_parts Try.infoD
  have h15 := and15 b
  have h127 := and127 b
  obtain ⟨r, hr5, hmod0⟩ := umod a 5 (by decide) (by decide)
  have hmod : wrap64 ((IntKind.u64.wrap a).tmod 5) = (r : Int) := hmod0
  clear hmod0
  have hrI : (r : Int) < 5 := by omega
  obtain ⟨m, hm⟩ : ∃ m : Nat, b % 16 = (m : Int) := ⟨(b % 16).toNat, by omega⟩
  have hm16 : m < 16 := by omega
  obtain ⟨d, hd⟩ : ∃ d : Nat, b % 128 = (d : Int) := ⟨(b % 128).toNat, by omega⟩
  have hd128 : d < 128 := by omega
  rw [hm] at h15
  rw [hd] at h127
  have hmx : ∀ n : Nat, n ≤ 4096 → n ≤ maxLen := fun n h => by unfold maxLen; omega
  clear hm hd
  go_enter Try.func4, Try.ntmps4
  go_wp2_with fail
  refine (scawake_any _).mono ?_
  rintro e w1 ⟨rfl, q1⟩
  go_wp2_with fail
  go_loop [6, 7] (fun v i => ∃ (k : Nat) (L : ByteArray), k ≤ 257 + d ∧ i = .int .i64 k ∧ v = .string L ∧ L.size = k) (fun _ i => 257 + d - (intOf i).toNat)
  case atStart => exact ⟨0, ⟨#[]⟩, Nat.zero_le _, rfl, rfl, rfl⟩
  case round =>
    obtain ⟨k, L, hk, rfl, rfl, hL⟩ := hrel
    by_cases hlt : k < 257 + d
    · have hL2 : (L ++ ⟨#[113]⟩ : ByteArray).size = k + 1 := by rw [ByteArray.size_append, hL]; rfl
      go_wp2_with fail
      go_round
      case rel => exact ⟨k + 1, L ++ ⟨#[113]⟩, by omega, by go_num, rfl, hL2⟩
      case measure => simp [intOf]; omega
    · have hL1 : 256 < L.size := by omega
      have hL3 : L.size ≤ 4096 := by omega
      have HB := hide (bads_at w1 L hL1 hL3 r hr5)
      have HLN := hide (txB_long hL1)
      clear hL
      go_wp2_with fail
      obtain ⟨D, g, hD, RD, FD, SD, lD⟩ := unhide HB
      rw [hD]
      clear hD
      refine (set_lit D _ _ _ _ _ (set_no (by rw [SD]; rfl)) (RD.q ((Q.refl _).alloc _)) FD (Nat.le_refl _) (hmx _ (by omega)) (hmx _ (by decide)) (hmx _ (by decide))).mono ?_
      rintro e w2 ⟨o2, c2, rfl, _, q2⟩
      have hq2 : Hid (Q w w2) := q1.trans (((((((Q.refl w1).alloc _).alloc _).alloc _).alloc _).alloc _).alloc _ |>.trans q2)
      have HD := hide (RD.q (((Q.refl _).alloc _).trans q2))
      clear RD q2 q1 HB
      go_wp2_with fail
      refine (set_lit [] _ _ none 0 _ forms1 (rowD_nil _ _) fit_nil (Nat.le_refl _) (hmx _ (by decide)) (hmx _ (by decide)) (hmx _ (by decide))).mono ?_
      rintro e w3 ⟨o3, c3, rfl, _, q3⟩
      go_wp2_with fail
      refine (set_lit [] _ L none 0 _ (set_no (by rw [unhide HLN, Bool.and_false])) (rowD_nil _ _) fit_nil (Nat.le_refl _) (hmx _ (by decide)) (hmx _ (by decide)) (hmx _ (by omega))).mono ?_
      rintro e w4 ⟨o4, c4, rfl, _, q4⟩
      go_wp2_with fail
      refine (set_lit [] _ _ none 0 _ forms2 (rowD_nil _ _) fit_nil (Nat.le_refl _) (hmx _ (by decide)) (hmx _ (by decide)) (hmx _ (by decide))).mono ?_
      rintro e w5 ⟨o5, c5, rfl, _, q5⟩
      have hq5 : Hid (Q w2 w5) := q3.trans (q4.trans q5)
      clear q3 q4 q5
      go_wp2_with fail
      go_loopw [18, 19] (fun v i wr => ∃ (k : Nat) (bo : Option Addr) (bcap : Nat), k ≤ 16 ∧ i = .int .i64 k ∧ v = .slice bo k bcap ∧ Hid (wr.ownsRow w5.heap.size 37 2 (.slice bo k bcap) k (lay dv (fullB k))) ∧ Q w5 wr) (fun _ i _ => 16 - (intOf i).toNat)
      case atStart => exact ⟨0, none, 0, Nat.zero_le _, rfl, rfl, World.ownsRow_nil _ _ _ _, Q.refl _⟩
      case round =>
        obtain ⟨j, bo, bcap, hj, rfl, rfl, HO, hq⟩ := hrel
        by_cases hjl : j < 16
        · obtain ⟨c, hc, hcv⟩ := str_int (97 + (j : Int)) (by omega) (by omega)
          have HV := hide (vn_eq hc hjl)
          clear hc
          have hown := HO.out
          have hyc := own_le hown
          have hB := hq.size
          clear HO
          go_wp2_with (at_builtin; refine wpList_append_lies _ rfl _ _ 22 rfl w5.heap.size 37 i0 (.agg #[.string ByteArray.empty, .string ByteArray.empty]) 2 32 Try.underlying22 hi hz0 hz1 hz2 rfl (by decide) _ _ _ rfl ((hown.alloc _).alloc _) ⟨wr.heap.size + 1, 0, none⟩ 1 1 [.string (⟨#[118]⟩ ++ ⟨#[c]⟩), .string ⟨#[49]⟩] rfl rfl (news_at (by simp) #[.string (⟨#[118]⟩ ++ ⟨#[c]⟩), .string ⟨#[49]⟩] _) (one_ss _ _) (by decide) (by unfold maxLen; omega) (by omega) (le_alloc (le_alloc hB _) _) (wr.heap.size + 2) (by simp) ?_)
          intro g7 cp7 w7 hown7 hgrow hor hglt
          have hq7 : Q w5 w7 := Below.grown ((hq.alloc _).alloc _) hgrow (le_alloc (le_alloc hq.size _) _) (fun r hr => (hown.lt r hr).1)
          have HO7 : Hid (w7.ownsRow w5.heap.size 37 2 (.slice (some ⟨g7, 0, none⟩) (j + 1) cp7) (j + 1) (lay dv (fullB (j + 1)))) := by
            show World.ownsRow _ _ _ _ _ _ _
            rw [fullB_succ, lay_snoc, show dv (vn j, ⟨#[49]⟩) = [.string (vn j), .string ⟨#[49]⟩] from rfl, ← unhide HV]
            exact hown7
          clear hown7 hgrow hor hown HV hcv
          go_wp2_with fail
          go_roundw
          case rel => exact ⟨j + 1, some ⟨g7, 0, none⟩, cp7, by omega, by go_num, rfl, HO7, hq7⟩
          case measure => simp [intOf]; omega
        · have hj16 : j = 16 := by omega
          subst hj16
          have own6 : OwnD wr w5.heap.size bo bcap (fullB 16) := HO.out
          have hle := own_le own6
          have hl16 := fullB_len 16
          have RF := hide own6.row
          have HST1 := hide (fun w' (h : Q wr w') => set_lit (fullB 16) ⟨#[119]⟩ ⟨#[49]⟩ bo bcap w' full2 ((unhide RF).q h) (fit_of (by decide +kernel)) hle.1 hle.2.1 (hmx _ (by decide)) (hmx _ (by decide)))
          have HST2 := hide (fun w' (h : Q wr w') => set_lit (fullB 16) (vn m) ⟨#[50]⟩ bo bcap w' ⟨rfl, (full3 m hm16).2⟩ ((unhide RF).q h) (fit_of (by decide +kernel)) hle.1 hle.2.1 (hmx _ (by show 2 ≤ 4096; decide)) (hmx _ (by decide)))
          have HMY := hide (fun w' (h : Q wr w') => may_lit (fullB 16) bo bcap w' full1 ((unhide RF).q h) (fit_of (by decide +kernel)) hle.1 hle.2.1)
          rw [(full3 m hm16).1] at HST2
          have HL2 : Hid ((setB (fullB 16) (vn m) ⟨#[50]⟩).length = 16) := (full3 m hm16).1
          rw [hl16] at HST1 HST2 HMY
          obtain ⟨c, hc, hcv⟩ := str_int (97 + (m : Int)) (by omega) (by omega)
          have HV := hide (vn_eq hc hm16)
          clear hc
          clear HO own6 hl16
          go_wp2_with fail
          refine (unhide HST1 _ (Q.refl _)).mono ?_
          rintro e w8 ⟨o8, c8, rfl, _, q8⟩
          go_wp2_with fail
          rw [unhide HV]
          refine (unhide HST2 _ (q8.alloc _)).mono ?_
          rintro e w9 ⟨o9, c9, rfl, _, q9⟩
          have hq9 : Hid (Q wr w9) := (q8.alloc _).trans q9
          have hq29 : Hid (Q w2 w9) := (unhide hq5).trans (hq.trans (unhide hq9))
          clear q8 q9 hcv HV
          go_wp2_with fail
          refine (may_lit D _ _ _ SD ((unhide HD).q (unhide hq29)) FD (Nat.le_refl _) (hmx _ (by omega))).mono ?_
          rintro e w10 ⟨rfl, q10⟩
          go_wp2_with fail
          refine (get_lit D _ _ _ _ (get_no SD) ((unhide HD).q ((unhide hq29).trans q10)) FD (Nat.le_refl _) (hmx _ (by omega))).mono ?_
          rintro e w11 ⟨rfl, q11⟩
          go_wp2_with fail
          refine (unhide HMY _ ((unhide hq9).trans (q10.trans q11))).mono ?_
          rintro e w12 ⟨rfl, q12⟩
          go_wp2_with (go_at_call 11; refine (num_any _ _).mono ?_; rintro e w' ⟨rfl, rfl⟩)
          go_ret
          exact ⟨rfl, (unhide hq2).trans ((unhide hq29).trans (q10.trans (q11.trans q12)))⟩

set_option maxRecDepth 100000 in
theorem scopeForms_lifted (os : Os) (started : os.Started) (H : Type) (enc : TypeId × Value → H) :
    ReturnsInHanded {} Try.checked os 4 .any (Rows.scopeFormsSpec.pre6 enc Try.prog Try.f4 Rows.scopeFormsRow.domain false) (Rows.scopeFormsSpec.post enc Try.prog Try.f4 false true false false) := by
  refine returnsInHanded_of_change (C := Try.checked) Try.own started (by kernel_rfl) Try.func4
    (ChangeSpec.witness6 (enc := enc) (C := Try.checked) false ⟨#[], #[.int .i64 0, .int .i64 0], []⟩ 8 (by kernel_rfl) (by kernel_rfl) (by kernel_rfl) (by kernel_rfl)) ?_
  intro W base args ds gs before hval0 hW hcnd _
  have hval : ∀ (j : Nat) t v, Try.f4.params[j]? = some t → args[j]? = some v → Value.okWide Try.prog W .any base t v := hval0
  have hW' := hW
  obtain ⟨p, q, hA0, hV, rfl, hfz, hnd⟩ := hW
  have hA : DataW.TrodAll enc Try.prog W 0 (fun _ => true) true Try.f4.params.toList args.toList ds p := hA0
  rw [Try.params4] at hA hval
  obtain ⟨v0, vs0, d0, ds0, p0, q0, hargs, rfl, rfl, h0, r0⟩ := trodAll_cons hA
  obtain ⟨v1, vs1, d1, ds1, p1, q1, rfl, rfl, rfl, h1, r1⟩ := trodAll_cons r0
  obtain ⟨rfl, rfl, rfl⟩ := trodAll_nil r1
  obtain rfl : args = #[v0, v1] := by cases args; simp_all
  obtain ⟨rfl, rfl⟩ := trodVars_none hV
  obtain ⟨a0, rfl, rfl, rfl, w0⟩ := open_int Try.underlying3 (hval 0 3 v0 rfl rfl) h0
  obtain ⟨a1, rfl, rfl, rfl, w1⟩ := open_int Try.underlying3 (hval 1 3 v1 rfl rfl) h1
  clear hA0 hval0
  simp only [List.append_nil] at hW'
  refine (scopeForms_any a0 w0 a1 w1 W).mono fun e W' ⟨he, bel⟩ => ?_
  subst he
  exact ⟨_, rfl, _, _, _, [], [], [], hW', trodAll_mk1 (shut_bool Try.underlying4 _), (trodAll_cons_mk (shut_int Try.underlying3 w0) (trodAll_cons_mk (shut_int Try.underlying3 w1) trodAll_mk0)), rfl, bel.frame _, fun h => by cases h⟩

theorem scopeForms_holds : Rows.ScopeFormsSaid :=
  OpenClaim.holds_of_wide 4 Try.f4 rfl rfl rfl rfl rfl rfl rfl ⟨rfl, rfl, rfl, rfl, rfl⟩ rfl rfl rfl rfl rfl (by kernel_rfl) Try.func4 (by kernel_rfl)
    (of_decide_eq_true (by kernel_rfl)) (by unfold Func.isWrapper; first | (rw [if_pos (by decide +kernel)]; kernel_rfl) | (rw [if_neg (by decide +kernel)]; exact ⟨rfl, rfl⟩))
    (fun os started H enc _ => scopeForms_lifted os started H enc)
#print axioms scopeForms_holds
end Go.Proofs.Ytegcckaemhdkgaa
