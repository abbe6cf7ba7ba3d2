/- The statement on texts that are refused holds for all numbers: each of eight forms is refused, so is what is too long, and newlines alone are no lines; no conditions. -/
import Derived.Test.YthchjdegilhepaaDoorRows
import Derived.Test.YthchjdegilhepaaDoorCards
import Derived.Test.YthchjdegilhepaaDoorTie
import Derived.LaidMore
import Derived.Lay
import Derived.SevenTiedAt
import Derived.Stop.Joined
import Derived.ProofKit
import Derived.OpenShut
import Derived.ShutString
import Derived.ChangeOld
import Derived.Below
import Derived.SizedLaws
import Derived.Test.YthchjdegilhepaaDoorBitPlain
import Derived.Test.YthchjdegilhepaaDoorLnAwake
import Derived.Test.YthchjdegilhepaaDoorLnMore
namespace Go.Proofs.YthchjdegilhepaaDoor
open Go.ChangeShapes Go.WideShapes Go.ChangeAt Go.RowKit

def lforms : List (List UInt8) := [[97], [97, 10, 32], [97, 36, 10], [97, 36, 36, 36, 10], [97, 9, 98, 10], [127, 10], [97, 13, 10], [36, 10, 36, 10]]
theorem lforms_bad : ∀ l ∈ lforms, l.length ≤ 100 ∧ lnS l = [] ∧ lnE l = 600 := by decide +kernel
theorem lforms_at (r : Nat) (h : r < 8) : ∃ t : ByteArray, (lforms.map fun l => Value.string ⟨l.toArray⟩)[r]'(by rw [List.length_map]; exact h) = .string t ∧ t.size ≤ 100 ∧ lnS (bl t) = [] ∧ lnE (bl t) = 600 := by
  have hl : r < lforms.length := h
  obtain ⟨h1, h2⟩ := lforms_bad lforms[r] (List.getElem_mem hl)
  exact ⟨⟨lforms[r].toArray⟩, by rw [List.getElem_map], by rw [← bl_size]; exact h1, h2⟩

set_option maxHeartbeats 2000000 in
theorem lineForms_any (a : Int) (_ : (Lit.int .i64 a).wf = true) (b : Int) (_ : (Lit.int .i64 b).wf = true) (w : World) :
    Calls Tryd.prog 4 #[.int .i64 a, .int .i64 b] w fun e w' => e = .returned (.bool true) ∧ Q w w' := by
  have h7 := and7 a
  have h127 := and127 b
  obtain ⟨r, hr⟩ : ∃ r : Nat, a % 8 = (r : Int) := ⟨(a % 8).toNat, by omega⟩
  have hr8 : r < 8 := by omega
  obtain ⟨d, hd⟩ : ∃ d : Nat, b % 128 = (d : Int) := ⟨(b % 128).toNat, by omega⟩
  have hd128 : d < 128 := by omega
  rw [hr] at h7
  rw [hd] at h127
  clear hr hd
  go_enter Tryd.func4, Tryd.ntmps4
  go_wp2_with fail
  refine (lnawake_any _).mono ?_
  rintro e w1 ⟨rfl, q1⟩
  go_wp2_with fail
  obtain ⟨t, ht, ht1, ht2⟩ := lforms_at r hr8
  simp only [lforms, List.map_cons, List.map_nil] at ht
  rw [ht]
  clear ht
  refine (cutl_at (ps := []) (n := 600) t _ (by unfold maxLen; omega) ht2).mono ?_
  rintro e w2 ⟨ao, cap, rfl, _, q2⟩
  have q12 := q1.trans (((Q.refl _).alloc _).trans q2)
  clear q1 q2
  go_wp2_with fail
  go_loopw [9, 10] (fun v i wr => ∃ (k : Nat) (u : ByteArray), i = .int .i64 k ∧ v = .string u ∧ k ≤ 2049 + d ∧ u.size = k ∧ Q w2 wr ∧ Hid (bl u = List.replicate k 10)) (fun _ i _ => 2049 + d - (intOf i).toNat)
  case atStart => exact ⟨0, ⟨#[]⟩, rfl, rfl, by omega, rfl, Q.refl _, by show _ = _; rfl⟩
  case round =>
    obtain ⟨k, u, rfl, rfl, hk, hus, hq, HU⟩ := hrel
    by_cases hlt : k < 2049 + d
    · have haz : (u ++ ⟨#[10]⟩ : ByteArray).size = u.size + 1 := ByteArray.size_append
      have HN : Hid (bl (u ++ ⟨#[10]⟩) = List.replicate (k + 1) 10) := by
        show _ = _
        rw [bl_app, HU.out, List.replicate_succ']; rfl
      clear HU
      go_wp2_with fail
      go_roundw
      case rel => exact ⟨k + 1, u ++ ⟨#[10]⟩, by go_num, rfl, by omega, by omega, hq, HN⟩
      case measure => simp [intOf]; omega
    · have hkd : k = 2049 + d := by omega
      have HL : Hid (lnS (bl u) = [] ∧ lnE (bl u) = 600) := ln_bad (ln_long (by rw [bl_size]; omega))
      have HX : Hid (lnS (bl (u.extract 0 2048)) = [] ∧ lnE (bl (u.extract 0 2048)) = 0) := by
        refine ln_good (lnC_of ?_ ?_)
        · rw [bl_extract, HU.out, List.take_replicate, List.drop_zero]; exact lnT_nls _
        · rw [bl_size, ext_sz u 0 2048 (by omega) (by omega)]; omega
      have hez : (u.extract 0 2048).size = 2048 := ext_sz u 0 2048 (by omega) (by omega)
      clear HU
      go_wp2_with fail
      refine (cutl_at (ps := []) (n := 600) u _ (by unfold maxLen; omega) HL.out).mono ?_
      rintro e w3 ⟨ao3, cap3, rfl, _, q3⟩
      have q13 := q12.trans (hq.trans q3)
      clear q12 q3
      go_wp2_with fail
      refine (cutl_at (ps := []) (n := 0) _ _ (by unfold maxLen; omega) HX.out).mono ?_
      rintro e w4 ⟨ao4, cap4, rfl, _, q4⟩
      have q14 := q13.trans q4
      clear q13 q4
      go_wp2_with (go_at_call 11; refine (num_any _ _).mono ?_; rintro e w' ⟨rfl, rfl⟩)
      go_ret
      exact ⟨rfl, q14⟩

set_option maxRecDepth 100000 in
theorem lineForms_lifted (os : Os) (started : os.Started) (H : Type) (enc : TypeId × Value → H) :
    ReturnsInHanded {} Tryd.checked os 4 .any (fun w args => (Rows.lineFormsSpec.pre enc Tryd.prog Tryd.f4 [] false w args ∧ laidMetH Tryd.prog Rows.lineFormsRow.laid w) ∧ sizedMet enc Tryd.prog Tryd.f4 (OpenSpec.ofChange Rows.lineFormsSpec) false w args) (Rows.lineFormsSpec.post enc Tryd.prog Tryd.f4 false true false false) := by
  refine returnsInHanded_of_change_and (C := Tryd.checked) (X := fun w _ => laidMetH Tryd.prog Rows.lineFormsRow.laid w) (fun _ _ _ hh h => h.of_heap hh) Tryd.own started (by kernel_rfl) Tryd.func4
    (ChangeSpec.witness_shaped (enc := enc) (C := Tryd.checked) (os := os) (X := fun w _ => laidMetH Tryd.prog Rows.lineFormsRow.laid w) false (World.laidAll Tryd.prog os Rows.lineFormsRow.laid) #[.int .i64 0, .int .i64 0] 8 (World.laidAll_os _ _ _)
      (World.shaped_of_ZipB (by kernel_rfl) (by kernel_rfl)) (by kernel_rfl) (by kernel_rfl) (by kernel_rfl)
      (by rw [MakeChecks.laidMetH_plain _ _ _ (by kernel_rfl)]; exact laidMet_laidAll _ (by kernel_rfl) (by kernel_rfl))) ?_
  intro W base args ds gs before hval0 hW _ hsz0 hL _
  have hval : ∀ (j : Nat) t v, Tryd.f4.params[j]? = some t → args[j]? = some v → Value.okWide Tryd.prog W .any base t v := hval0
  have hW' := hW
  obtain ⟨p, q, hA0, hV, rfl, hfz, hnd⟩ := hW
  have hA : DataW.TrodAll enc Tryd.prog W 0 (fun _ => true) true Tryd.f4.params.toList args.toList ds p := hA0
  rw [Tryd.params4] at hA hval
  obtain ⟨v0, vs0, d0, ds0, p0, q0, hargs, rfl, rfl, h0, r0⟩ := trodAll_cons hA
  obtain ⟨v1, vs1, d1, ds1, p1, q1, rfl, rfl, rfl, h1, r1⟩ := trodAll_cons r0
  obtain ⟨rfl, rfl, rfl⟩ := trodAll_nil r1
  obtain rfl : args = #[v0, v1] := by cases args; simp_all
  obtain ⟨rfl, rfl⟩ := trodVars_none hV
  obtain ⟨a0, rfl, rfl, rfl, w0⟩ := open_int Tryd.underlying3 (hval 0 3 v0 rfl rfl) h0
  obtain ⟨a1, rfl, rfl, rfl, w1⟩ := open_int Tryd.underlying3 (hval 1 3 v1 rfl rfl) h1
  clear hA0 hval0
  simp only [List.append_nil] at hW'
  refine (lineForms_any a0 w0 a1 w1 W).mono fun e W' ⟨he, bel⟩ => ?_
  subst he
  exact ⟨_, rfl, _, _, _, [], [], [], hW', trodAll_mk1 (shut_bool Tryd.underlying4 _), (trodAll_cons_mk (shut_int Tryd.underlying3 w0) (trodAll_cons_mk (shut_int Tryd.underlying3 w1) trodAll_mk0)), rfl, bel.frame _, fun h => by cases h⟩

theorem lineForms_holds : Rows.LineFormsSaid :=
  OpenClaim.holds_of_wide 4 Tryd.f4 rfl rfl rfl rfl rfl rfl rfl ⟨rfl, rfl, rfl, rfl, rfl⟩ rfl rfl rfl rfl rfl (by kernel_rfl) Tryd.func4 (by kernel_rfl)
    (of_decide_eq_true (by kernel_rfl)) (by unfold Func.isWrapper; first | (rw [if_pos (by decide +kernel)]; kernel_rfl) | (rw [if_neg (by decide +kernel)]; exact ⟨rfl, rfl⟩))
    (fun os started H enc _ => lineForms_lifted os started H enc)
theorem lineForms_card : Rows.LineFormsCardSaid :=
  Claim7.holds_tied_plain_at .later [] [.data, .pinned] true (true, "be002fb75483f9dd850ebf38b52f8a9eb6525c7705505c172b325be768154826") false lineForms_holds (fun _ h => by cases h) (by kernel_rfl) (fun _ h => by cases h) lineForms_row_tie rfl ⟨rfl, rfl⟩ (by kernel_rfl) rfl
    (fun f fn hf hfn => by
      obtain rfl : f = 4 := Option.some.inj ((show Tryd.prog.funcNamed Rows.lineFormsRow.func = some 4 by kernel_rfl).symm.trans hf) |>.symm
      obtain rfl : fn = Tryd.f4 := (Option.some.inj (Tryd.func4.symm.trans hfn)).symm
      exact ⟨by kernel_rfl, fun j t ht => by
        rw [Tryd.params4] at ht
        have hm : t ∈ [3, 3] := by simpa using Array.mem_of_getElem? ht
        have hall : ([3, 3].all fun u => !Tryd.prog.wantsStandIn u) = true := by kernel_rfl
        exact (show Tryd.prog.wantsStandIn t = false by simpa using List.all_eq_true.1 hall t hm)⟩)
    (by kernel_rfl)
#print axioms lineForms_card
end Go.Proofs.YthchjdegilhepaaDoor
