/- The statement on lines that are refused holds for all numbers: each of sixteen forms is refused, and so is each row of nine names; no conditions. -/
import Derived.Test.YtloeileblkleoaaDoorRows
import Derived.Test.YtloeileblkleoaaDoorCards
import Derived.Test.YtloeileblkleoaaDoorTie
import Derived.LaidMore
import Derived.Lay
import Derived.SevenTiedAt
import Derived.Stop.Joined
import Derived.ProofKit
import Derived.OpenShut
import Derived.ShutString
import Derived.ChangeOld
import Derived.Below
import Derived.SizedLaws
import Derived.Test.YtloeileblkleoaaDoorBitPlain
import Derived.Test.YtloeileblkleoaaDoorWdAwake
namespace Go.Proofs.YtloeileblkleoaaDoor
open Go.ChangeShapes Go.WideShapes Go.ChangeAt Go.RowKit

def wforms : Ws := [[], [97], [97, 32, 58], [58, 32, 99, 99], [97, 32, 58, 32, 58, 32, 98], [97, 32, 99, 99, 32, 98], [97, 58, 32, 99, 99], [97, 32, 58, 99, 99], [97, 32, 58, 32, 99, 99, 32, 124], [97, 32, 58, 32, 99, 99, 32, 124, 124], [97, 32, 58, 32, 99, 99, 32, 98, 32, 124, 124, 32, 99, 32, 124, 32, 100], [97, 32, 58, 32, 99, 99, 32, 124, 32, 98, 32, 124, 32, 99], [97, 32, 58, 32, 99, 99, 32, 124, 124, 32, 98, 32, 124, 124, 32, 99], [65, 32, 58, 32, 99, 99], [97, 32, 58, 32, 67, 99], [97, 32, 58, 32, 99, 99, 32, 98, 32, 58, 32, 99]]
theorem wforms_bad : (wforms.all fun l => decide (l.length ≤ 100) && (bdR l).isNone) = true := by kernel_rfl
theorem wforms_at (r : Nat) (h : r < 16) : ∃ t : ByteArray, (wforms.map fun l => Value.string ⟨l.toArray⟩)[r]'(by rw [List.length_map]; exact h) = .string t ∧ t.size ≤ 100 ∧ bdR (bl t) = none := by
  have hl : r < wforms.length := h
  have := List.all_eq_true.1 wforms_bad wforms[r] (List.getElem_mem hl)
  simp only [Bool.and_eq_true, decide_eq_true_eq, Option.isNone_iff_eq_none] at this
  exact ⟨⟨wforms[r].toArray⟩, by rw [List.getElem_map], by rw [← bl_size]; exact this.1, this.2⟩

theorem nine1 : bdR (bl ({ data := #[97, 32, 97, 32, 97, 32, 97, 32, 97, 32, 97, 32, 97, 32, 97, 32, 97] } ++ { data := #[32, 58, 32, 99, 99] })) = none := by kernel_rfl
theorem nine2 : bdR (bl ({ data := #[97, 32, 58, 32, 99, 99, 32] } ++ { data := #[97, 32, 97, 32, 97, 32, 97, 32, 97, 32, 97, 32, 97, 32, 97, 32, 97] })) = none := by kernel_rfl
theorem nine3 : bdR (bl ({ data := #[97, 32, 58, 32, 99, 99, 32, 124, 32] } ++ { data := #[97, 32, 97, 32, 97, 32, 97, 32, 97, 32, 97, 32, 97, 32, 97, 32, 97] })) = none := by kernel_rfl
theorem nine4 : bdR (bl ({ data := #[97, 32, 58, 32, 99, 99, 32, 124, 124, 32] } ++ { data := #[97, 32, 97, 32, 97, 32, 97, 32, 97, 32, 97, 32, 97, 32, 97, 32, 97] })) = none := by kernel_rfl

set_option maxRecDepth 20000 in
set_option maxHeartbeats 4000000 in
theorem wordForms_any (a : Int) (_ : (Lit.int .i64 a).wf = true) (w : World) :
    Calls Tryd.prog 4 #[.int .i64 a] w fun e w' => e = .returned (.bool true) ∧ Q w w' := by
  have h15 := and15 a
  obtain ⟨r, hr⟩ : ∃ r : Nat, a % 16 = (r : Int) := ⟨(a % 16).toNat, by omega⟩
  have hr16 : r < 16 := by omega
  rw [hr] at h15
  clear hr
  go_enter Tryd.func4, Tryd.ntmps4
  go_wp2_with fail
  refine (wdawake_any _).mono ?_
  rintro e w1 ⟨rfl, q1⟩
  go_wp2_with fail
  obtain ⟨t, ht, ht1, ht2⟩ := wforms_at r hr16
  simp only [wforms, List.map_cons, List.map_nil] at ht
  rw [ht]
  clear ht
  refine (build_none t _ (by omega) ht2).mono ?_
  rintro e w2 ⟨a2, b2, c2, e2, i1, i2, i3, i4, rfl, q2⟩
  have q12 := q1.trans (((Q.refl _).alloc _).trans q2)
  clear q1 q2 ht2
  go_wp2_with fail
  refine (build_none _ _ (by decide +kernel) nine1).mono ?_
  rintro e w3 ⟨a3, b3, c3, e3, j1, j2, j3, j4, rfl, q3⟩
  have q13 := q12.trans q3
  clear q12 q3
  go_wp2_with fail
  refine (build_none _ _ (by decide +kernel) nine2).mono ?_
  rintro e w4 ⟨a4, b4, c4, e4, k1, k2, k3, k4, rfl, q4⟩
  have q14 := q13.trans q4
  clear q13 q4
  go_wp2_with fail
  refine (build_none _ _ (by decide +kernel) nine3).mono ?_
  rintro e w5 ⟨a5, b5, c5, e5, l1, l2, l3, l4, rfl, q5⟩
  have q15 := q14.trans q5
  clear q14 q5
  go_wp2_with fail
  refine (build_none _ _ (by decide +kernel) nine4).mono ?_
  rintro e w6 ⟨a6, b6, c6, e6, m1, m2, m3, m4, rfl, q6⟩
  have q16 := q15.trans q6
  clear q15 q6
  go_wp2_with (go_at_call 10; refine (num_any _ _).mono ?_; rintro e w' ⟨rfl, rfl⟩)
  go_ret
  exact ⟨rfl, q16⟩

set_option maxRecDepth 100000 in
theorem wordForms_lifted (os : Os) (started : os.Started) (H : Type) (enc : TypeId × Value → H) :
    ReturnsInHanded {} Tryd.checked os 4 .any (fun w args => (Rows.wordFormsSpec.pre enc Tryd.prog Tryd.f4 [] false w args ∧ laidMetH Tryd.prog Rows.wordFormsRow.laid w) ∧ sizedMet enc Tryd.prog Tryd.f4 (OpenSpec.ofChange Rows.wordFormsSpec) false w args) (Rows.wordFormsSpec.post enc Tryd.prog Tryd.f4 false true false false) := by
  refine returnsInHanded_of_change_and (C := Tryd.checked) (X := fun w _ => laidMetH Tryd.prog Rows.wordFormsRow.laid w) (fun _ _ _ hh h => h.of_heap hh) Tryd.own started (by kernel_rfl) Tryd.func4
    (ChangeSpec.witness_shaped (enc := enc) (C := Tryd.checked) (os := os) (X := fun w _ => laidMetH Tryd.prog Rows.wordFormsRow.laid w) false (World.laidAll Tryd.prog os Rows.wordFormsRow.laid) #[.int .i64 0] 8 (World.laidAll_os _ _ _)
      (World.shaped_of_ZipB (by kernel_rfl) (by kernel_rfl)) (by kernel_rfl) (by kernel_rfl) (by kernel_rfl)
      (by rw [MakeChecks.laidMetH_plain _ _ _ (by kernel_rfl)]; exact laidMet_laidAll _ (by kernel_rfl) (by kernel_rfl))) ?_
  intro W base args ds gs before hval0 hW _ hsz0 hL _
  have hval : ∀ (j : Nat) t v, Tryd.f4.params[j]? = some t → args[j]? = some v → Value.okWide Tryd.prog W .any base t v := hval0
  have hW' := hW
  obtain ⟨p, q, hA0, hV, rfl, hfz, hnd⟩ := hW
  have hA : DataW.TrodAll enc Tryd.prog W 0 (fun _ => true) true Tryd.f4.params.toList args.toList ds p := hA0
  rw [Tryd.params4] at hA hval
  obtain ⟨v0, vs0, d0, ds0, p0, q0, hargs, rfl, rfl, h0, r0⟩ := trodAll_cons hA
  obtain ⟨rfl, rfl, rfl⟩ := trodAll_nil r0
  obtain rfl : args = #[v0] := by cases args; simp_all
  obtain ⟨rfl, rfl⟩ := trodVars_none hV
  obtain ⟨a0, rfl, rfl, rfl, w0⟩ := open_int Tryd.underlying3 (hval 0 3 v0 rfl rfl) h0
  clear hA0 hval0
  simp only [List.append_nil] at hW'
  refine (wordForms_any a0 w0 W).mono fun e W' ⟨he, bel⟩ => ?_
  subst he
  exact ⟨_, rfl, _, _, _, [], [], [], hW', trodAll_mk1 (shut_bool Tryd.underlying4 _), (trodAll_cons_mk (shut_int Tryd.underlying3 w0) trodAll_mk0), rfl, bel.frame _, fun h => by cases h⟩

theorem wordForms_holds : Rows.WordFormsSaid :=
  OpenClaim.holds_of_wide 4 Tryd.f4 rfl rfl rfl rfl rfl rfl rfl ⟨rfl, rfl, rfl, rfl, rfl⟩ rfl rfl rfl rfl rfl (by kernel_rfl) Tryd.func4 (by kernel_rfl)
    (of_decide_eq_true (by kernel_rfl)) (by unfold Func.isWrapper; first | (rw [if_pos (by decide +kernel)]; kernel_rfl) | (rw [if_neg (by decide +kernel)]; exact ⟨rfl, rfl⟩))
    (fun os started H enc _ => wordForms_lifted os started H enc)
theorem wordForms_card : Rows.WordFormsCardSaid :=
  Claim7.holds_tied_plain_at .later [] [.data, .pinned] true (true, "364b3ae959f39fea2705ab4646565d6463e6a647b69f35b583f33bfac7c16e15") false wordForms_holds (fun _ h => by cases h) (by kernel_rfl) (fun _ h => by cases h) wordForms_row_tie rfl ⟨rfl, rfl⟩ (by kernel_rfl) rfl
    (fun f fn hf hfn => by
      obtain rfl : f = 4 := Option.some.inj ((show Tryd.prog.funcNamed Rows.wordFormsRow.func = some 4 by kernel_rfl).symm.trans hf) |>.symm
      obtain rfl : fn = Tryd.f4 := (Option.some.inj (Tryd.func4.symm.trans hfn)).symm
      exact ⟨by kernel_rfl, fun j t ht => by
        rw [Tryd.params4] at ht
        have hm : t ∈ [3] := by simpa using Array.mem_of_getElem? ht
        have hall : ([3].all fun u => !Tryd.prog.wantsStandIn u) = true := by kernel_rfl
        exact (show Tryd.prog.wantsStandIn t = false by simpa using List.all_eq_true.1 hall t hm)⟩)
    (by kernel_rfl)
#print axioms wordForms_card
end Go.Proofs.YtloeileblkleoaaDoor
