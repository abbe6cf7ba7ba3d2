/- The statement on manifests that are refused holds for all numbers: each of thirty-two forms is refused; no conditions. -/
import Derived.Test.YtgfegbeickaknaaGreatDoorRows
import Derived.Test.YtgfegbeickaknaaGreatDoorCards
import Derived.Test.YtgfegbeickaknaaGreatDoorTie
import Derived.LaidMore
import Derived.Lay
import Derived.SevenTiedAt
import Derived.Stop.Joined
import Derived.ProofKit
import Derived.OpenShut
import Derived.ShutString
import Derived.ChangeOld
import Derived.Below
import Derived.SizedLaws
import Derived.Test.YtgfegbeickaknaaGreatDoorPk1
import Derived.Test.YtgfegbeickaknaaGreatDoorMfAwake
import Derived.Test.YtgfegbeickaknaaGreatDoorMfTab
namespace Go.Proofs.YtgfegbeickaknaaGreatDoor
open Go.ChangeShapes Go.WideShapes Go.ChangeAt Go.RowKit

theorem and31m (n : Int) : bits .and .i64 n 31 = n % 32 := by
  show IntKind.i64.wrap ((BitVec.ofInt 64 n &&& BitVec.ofInt 64 31).toNat : Int) = _
  rw [BitVec.toNat_and, show (BitVec.ofInt 64 31).toNat = 2 ^ 5 - 1 from rfl, Nat.and_two_pow_sub_one_eq_mod, BitVec.toNat_ofInt, IntKind.wrap_i64]; omega

set_option maxRecDepth 20000 in
set_option maxHeartbeats 8000000 in
theorem manifestForms_any (a : Int) (_ : (Lit.int .i64 a).wf = true) (w : World) (htab : TabB w.heap.size w) :
    Calls Tryz.prog 4 #[.int .i64 a] w fun e w' => e = .returned (.bool true) ∧ Q w w' := by
  have HT := hide htab
  clear htab
  have h31 := and31m a
  obtain ⟨r, hr⟩ : ∃ r : Nat, a % 32 = (r : Int) := ⟨(a % 32).toNat, by omega⟩
  have hr32 : r < 32 := by omega
  rw [hr] at h31
  clear hr
  by_cases h30 : r = 30
  · subst h30
    go_enter Tryz.func4, Tryz.ntmps4
    go_wp2_with fail
    refine (mfawake_any _ (unhide HT)).mono ?_
    rintro e w1 ⟨rfl, q1⟩
    go_wp2_with fail
    refine (parse_bad (n := 800) _ _ ((unhide HT).q (q1.trans ((Q.refl _).alloc _))) (by decide +kernel) form30).mono ?_
    rintro e w2 ⟨eo, po, dd, ec, pc, dc, rfl, q2⟩
    have q12 := q1.trans (((Q.refl _).alloc _).trans q2)
    clear q1 q2
    go_wp2_with fail
    refine (same0_any eo po dd ec pc dc _).mono ?_
    rintro e w3 ⟨rfl, q3⟩
    go_wp2_with (go_at_call 12; refine (num_any _ _).mono ?_; rintro e w' ⟨rfl, rfl⟩)
    go_ret
    exact ⟨rfl, q12.trans (((Q.refl _).alloc _).trans q3)⟩
  · by_cases h31' : r = 31
    · subst h31'
      go_enter Tryz.func4, Tryz.ntmps4
      go_wp2_with fail
      refine (mfawake_any _ (unhide HT)).mono ?_
      rintro e w1 ⟨rfl, q1⟩
      go_wp2_with fail
      refine (parse_gr _ _ ((unhide HT).q (q1.trans ((Q.refl _).alloc _))) (by decide +kernel) ⟨rfl, rfl⟩).mono ?_
      rintro e w2 ⟨es, eo, po, dd, ec, pc, dc, rfl, _, q2⟩
      have q12 := q1.trans (((Q.refl _).alloc _).trans q2)
      clear q1 q2
      generalize es.length = n1
      generalize List.length _ = n2
      generalize List.length _ = n3
      generalize mfE _ = n4
      go_wp2_with fail
      refine (parse_bad (n := 800) _ _ ((unhide HT).q (q12.trans ((Q.refl _).alloc _))) (by decide +kernel) form31).mono ?_
      rintro e w3 ⟨e3, p3, d3, ec3, pc3, dc3, rfl, q3⟩
      have b2 := (Blk.new w2 #[.slice eo n1 ec, .slice po n2 pc, .slice dd n3 dc] 26).q q3
      have q13 := q12.trans (((Q.refl w2).alloc (.cells #[.slice eo n1 ec, .slice po n2 pc, .slice dd n3 dc] 26)).trans q3)
      have HL2 : Hid (w.heap.size ≤ w2.heap.size) := q12.size
      clear q12 q3
      generalize w2.heap.size = G at *
      have e0 : w3.cell? ⟨G, 0, none⟩ = some (.slice eo n1 ec) := b2.cell 0 rfl
      have e1 : w3.cell? ⟨G, 1, none⟩ = some (.slice po n2 pc) := b2.cell 1 rfl
      have e2 : w3.cell? ⟨G, 2, none⟩ = some (.slice dd n3 dc) := b2.cell 2 rfl
      have f0 := b2.frz 0
      have f1 := b2.frz 1
      have f2 := b2.frz 2
      have HB2 := hide b2
      clear b2
      go_upto_region 10 with fail
      change Code.wp _ _ _ _ (gS w3 G (.slice e3 0 ec3) (.slice p3 0 pc3) (.slice d3 0 dc3))
      obtain ⟨g0, g1, g2, gf⟩ := gS_facts (unhide HB2) (.slice e3 0 ec3) (.slice p3 0 pc3) (.slice d3 0 dc3)
      have q14 : Q w (gS w3 G (.slice e3 0 ec3) (.slice p3 0 pc3) (.slice d3 0 dc3)) := Below.trans q13 (gf.below q13.size (fun k hk => by rw [hk]; exact HL2.out))
      clear e0 e1 e2 f0 f1 f2 gf
      generalize gS w3 G (.slice e3 0 ec3) (.slice p3 0 pc3) (.slice d3 0 dc3) = w4 at *
      go_wp2_with fail
      refine (same0_any e3 p3 d3 ec3 pc3 dc3 _).mono ?_
      rintro e w5 ⟨rfl, q5⟩
      go_wp2_with (go_at_call 12; refine (num_any _ _).mono ?_; rintro e w' ⟨rfl, rfl⟩)
      go_ret
      exact ⟨rfl, q14.trans q5⟩
    · have h2 : r < 30 := by omega
      have g1 : ((r : Int) == 30) = false := by simp; omega
      have g2 : ((r : Int) == 31) = false := by simp; omega
      go_enter Tryz.func4, Tryz.ntmps4
      go_wp2_with fail
      refine (mfawake_any _ (unhide HT)).mono ?_
      rintro e w1 ⟨rfl, q1⟩
      go_upto_region 5 with fail
      obtain ⟨t, ht, ht1, ht2⟩ := forms_at r hr32 h2
      simp only [formsB, List.map_cons, List.map_nil] at ht
      rw [ht]
      clear ht
      go_wp2_with fail
      refine (parse_bad (n := 800) _ _ ((unhide HT).q (q1.trans ((Q.refl _).alloc _))) (by rw [ByteArray.size_append]; show t.size + 1 ≤ maxLen; unfold maxLen; omega) ht2).mono ?_
      rintro e w2 ⟨eo, po, dd, ec, pc, dc, rfl, q2⟩
      have q12 := q1.trans (((Q.refl _).alloc _).trans q2)
      clear q1 q2 ht2
      go_wp2_with fail
      refine (same0_any eo po dd ec pc dc _).mono ?_
      rintro e w3 ⟨rfl, q3⟩
      go_wp2_with (go_at_call 12; refine (num_any _ _).mono ?_; rintro e w' ⟨rfl, rfl⟩)
      go_ret
      exact ⟨rfl, q12.trans (((Q.refl _).alloc _).trans q3)⟩

set_option maxRecDepth 100000 in
theorem manifestForms_lifted (os : Os) (started : os.Started) (H : Type) (enc : TypeId × Value → H) :
    ReturnsInHanded {} Tryz.checked os 4 .any (fun w args => (Rows.manifestFormsSpec.pre enc Tryz.prog Tryz.f4 [] false w args ∧ laidMetH Tryz.prog Rows.manifestFormsRow.laid w) ∧ sizedMet enc Tryz.prog Tryz.f4 (OpenSpec.ofChange Rows.manifestFormsSpec) false w args) (Rows.manifestFormsSpec.post enc Tryz.prog Tryz.f4 false true false false) := by
  refine returnsInHanded_of_change_and (C := Tryz.checked) (X := fun w _ => laidMetH Tryz.prog Rows.manifestFormsRow.laid w) (fun _ _ _ hh h => h.of_heap hh) Tryz.own started (by kernel_rfl) Tryz.func4
    (ChangeSpec.witness_shaped (enc := enc) (C := Tryz.checked) (os := os) (X := fun w _ => laidMetH Tryz.prog Rows.manifestFormsRow.laid w) false (World.laidAll Tryz.prog os Rows.manifestFormsRow.laid) #[.int .i64 0] 8 (World.laidAll_os _ _ _)
      (World.shaped_of_ZipB (by kernel_rfl) (by kernel_rfl)) (by kernel_rfl) (by kernel_rfl) (by kernel_rfl)
      (by rw [MakeChecks.laidMetH_plain _ _ _ (by kernel_rfl)]; exact laidMet_laidAll _ (by kernel_rfl) (by kernel_rfl))) ?_
  intro W base args ds gs before hval0 hW _ hsz0 hL _
  have hval : ∀ (j : Nat) t v, Tryz.f4.params[j]? = some t → args[j]? = some v → Value.okWide Tryz.prog W .any base t v := hval0
  have hW' := hW
  obtain ⟨p, q, hA0, hV, rfl, hfz, hnd⟩ := hW
  have hA : DataW.TrodAll enc Tryz.prog W 0 (fun _ => true) true Tryz.f4.params.toList args.toList ds p := hA0
  rw [Tryz.params4] at hA hval
  obtain ⟨v0, vs0, d0, ds0, p0, q0, hargs, rfl, rfl, h0, r0⟩ := trodAll_cons hA
  obtain ⟨rfl, rfl, rfl⟩ := trodAll_nil r0
  obtain rfl : args = #[v0] := by cases args; simp_all
  obtain ⟨rfl, rfl⟩ := trodVars_none hV
  obtain ⟨a0, rfl, rfl, rfl, w0⟩ := open_int Tryz.underlying3 (hval 0 3 v0 rfl rfl) h0
  clear hA0 hval0
  simp only [List.append_nil] at hW'
  refine (manifestForms_any a0 w0 W (tab_of_laid (laid := Rows.manifestFormsRow.laid) (by kernel_rfl) hL)).mono fun e W' ⟨he, bel⟩ => ?_
  subst he
  exact ⟨_, rfl, _, _, _, [], [], [], hW', trodAll_mk1 (shut_bool Tryz.underlying4 _), (trodAll_cons_mk (shut_int Tryz.underlying3 w0) trodAll_mk0), rfl, bel.frame _, fun h => by cases h⟩

theorem manifestForms_holds : Rows.ManifestFormsSaid :=
  OpenClaim.holds_of_wide 4 Tryz.f4 rfl rfl rfl rfl rfl rfl rfl ⟨rfl, rfl, rfl, rfl, rfl⟩ rfl rfl rfl rfl rfl (by kernel_rfl) Tryz.func4 (by kernel_rfl)
    (of_decide_eq_true (by kernel_rfl)) (by unfold Func.isWrapper; first | (rw [if_pos (by decide +kernel)]; kernel_rfl) | (rw [if_neg (by decide +kernel)]; exact ⟨rfl, rfl⟩))
    (fun os started H enc _ => manifestForms_lifted os started H enc)
theorem manifestForms_card : Rows.ManifestFormsCardSaid :=
  Claim7.holds_tied_plain_at .later [] [.data, .listed, .data, .pinned] true (true, "8dec6f50e5afba32322cf8ec189691581cdc57b45edadbf051f5816f0efe4019") false manifestForms_holds (fun _ h => by cases h) (by kernel_rfl) (fun _ h => by cases h) manifestForms_row_tie rfl ⟨rfl, rfl⟩ (by kernel_rfl) rfl
    (fun f fn hf hfn => by
      obtain rfl : f = 4 := Option.some.inj ((show Tryz.prog.funcNamed Rows.manifestFormsRow.func = some 4 by kernel_rfl).symm.trans hf) |>.symm
      obtain rfl : fn = Tryz.f4 := (Option.some.inj (Tryz.func4.symm.trans hfn)).symm
      exact ⟨by kernel_rfl, fun j t ht => by
        rw [Tryz.params4] at ht
        have hm : t ∈ [3] := by simpa using Array.mem_of_getElem? ht
        have hall : ([3].all fun u => !Tryz.prog.wantsStandIn u) = true := by kernel_rfl
        exact (show Tryz.prog.wantsStandIn t = false by simpa using List.all_eq_true.1 hall t hm)⟩)
    (by kernel_rfl)
#print axioms manifestForms_card
end Go.Proofs.YtgfegbeickaknaaGreatDoor
