/- Unlike records have unlike lines, none of which is the beginning of another: any two records; no conditions. -/
import Derived.Test.YtfdmhniccdnafaaDoorRows
import Derived.Test.YtfdmhniccdnafaaDoorCards
import Derived.Test.YtfdmhniccdnafaaDoorTie
import Derived.LaidMore
import Derived.Lay
import Derived.SevenTiedAt
import Derived.Stop.Joined
import Derived.ProofKit
import Derived.OpenShut
import Derived.ShutString
import Derived.ChangeOld
import Derived.Below
import Derived.SizedLaws
import Derived.Test.YtfdmhniccdnafaaDoorLgOpen
namespace Go.Proofs.YtfdmhniccdnafaaDoor
open Go.ChangeShapes Go.WideShapes Go.ChangeAt Go.RowKit

theorem lgT_small' (r : Rc) : (lgT r).length ≤ 2100 := by
  cases h : rcOk r
  · rw [(lg_no h).1]; simp
  · rw [(lg_yes h).1]; exact rcT_len h
theorem lg_three (r : Rc) : (lgE r = 0 ∧ rcOk r = true) ∨ (lgE r = 1300 ∧ lgT r = []) := by
  cases h : rcOk r
  · exact Or.inr ⟨(lg_no h).2, (lg_no h).1⟩
  · exact Or.inl ⟨(lg_yes h).2, rfl⟩
theorem ext_beq (x y : ByteArray) (m : Nat) : ((x.extract 0 m).toList == (y.extract 0 m).toList) = ((bl x).take m == (bl y).take m) := by
  rw [bl_toList, bl_toList, bl_extract, bl_extract]; simp

set_option maxRecDepth 20000 in
set_option maxHeartbeats 16000000 in
theorem loglineUnlike_any (w : World) (a : Rc) (hza : RcZ a) (b : Rc) (hzb : RcZ b) (hv : Vs w) :
    Calls Tryd.prog 5 #[rcV a, rcV b] w fun e w' => e = .returned (.bool true) ∧ Q w w' := by
  have heq := eqR
  have hgd := Tryd.guardR
  have y1 : (⟨(lgT a).toArray⟩ : ByteArray).size ≤ 2100 := by rw [mk_size']; exact lgT_small' a
  have y2 : (⟨(lgT b).toArray⟩ : ByteArray).size ≤ 2100 := by rw [mk_size']; exact lgT_small' b
  have H1 := hide (fun w (hv : Vs w) => lgPut_any a w hv hza.1 hza.2)
  have H2 := hide (fun w (hv : Vs w) => lgPut_any b w hv hzb.1 hzb.2)
  have H7 := hide lgawake_any
  have HV := hide hv
  have hrs := rc_eqB a b
  have hex := ext_beq ⟨(lgT a).toArray⟩ ⟨(lgT b).toArray⟩ (min (lgT a).length (lgT b).length)
  rw [show bl (⟨(lgT a).toArray⟩ : ByteArray) = lgT a from rfl, show bl (⟨(lgT b).toArray⟩ : ByteArray) = lgT b from rfl] at hex
  have hm1 : (⟨(lgT a).toArray⟩ : ByteArray).size = (lgT a).length := mk_size' _
  have hm2 : (⟨(lgT b).toArray⟩ : ByteArray).size = (lgT b).length := mk_size' _
  have hem1 : lgT a = [] → (⟨(lgT a).toArray⟩ : ByteArray).toList.isEmpty = true := fun h => by rw [bl_toList, h]; rfl
  have hem2 : lgT b = [] → (⟨(lgT b).toArray⟩ : ByteArray).toList.isEmpty = true := fun h => by rw [bl_toList, h]; rfl
  clear hza hzb hv
  rcases lg_three a with ⟨e1, ka⟩ | ⟨e1, ka⟩ <;> rcases lg_three b with ⟨e2, kb⟩ | ⟨e2, kb⟩
  case inl.inl =>
    have hun := un_like ka kb
    rw [← (lg_yes ka).1, ← (lg_yes kb).1] at hun
    rw [hun] at hex
    rw [e1] at H1
    rw [e2] at H2
    rw [← hm1, ← hm2] at hex
    unfold rcV at *
    clear hun hm1 hm2 hem1 hem2 ka kb e1 e2
    generalize (⟨(lgT a).toArray⟩ : ByteArray) = xa at *
    generalize (⟨(lgT b).toArray⟩ : ByteArray) = xb at *
    generalize decide (a = b) = v at hex hrs
    obtain ⟨a1, a2, a3⟩ := a
    obtain ⟨b1, b2, b3⟩ := b
    dsimp only at H1 H2 hrs ⊢
    generalize (⟨a1.toArray⟩ : ByteArray) = p1 at *
    generalize (⟨a3.toArray⟩ : ByteArray) = p3 at *
    generalize (⟨b1.toArray⟩ : ByteArray) = r1 at *
    generalize (⟨b3.toArray⟩ : ByteArray) = r3 at *
    have HEX := hide hex
    have HRS := hide hrs
    clear hex hrs
    have HB0 := hide (fun u q => bxR_at (w := w) (x := p1) (t := a2) (y := p3) (w1 := u) q)
    have HQ0 := hide (bxR_q w p1 a2 p3)
    have HB1 := hide (fun u q => bxR_at (w := bxR w p1 a2 p3) (x := r1) (t := b2) (y := r3) (w1 := u) q)
    have HQ1 := hide (bxR_q (bxR w p1 a2 p3) r1 b2 r3)
    go_enter Tryd.func5, Tryd.ntmps5
    go_wp2_with fail
    refine (unhide H7 _ ((unhide HV).q ((unhide HQ0).trans (unhide HQ1)))).mono ?_
    rintro e w1 ⟨rfl, q1⟩
    have HX1 := hide q1
    have HY1 := hide ((unhide HQ1).trans q1)
    obtain ⟨c0, c1, c2⟩ := unhide HB0 _ (unhide HY1)
    clear q1
    go_wp2_with fail
    clear c0 c1 c2
    refine (unhide H1 _ ((unhide HV).q ((unhide HQ0).trans (unhide HY1)))).mono ?_
    rintro e w2 ⟨rfl, q2⟩
    have HX2 := hide ((unhide HX1).trans q2)
    have HY2 := hide ((unhide HY1).trans q2)
    obtain ⟨d0, d1, d2⟩ := unhide HB1 _ (unhide HX2)
    rw [show (bxR w p1 a2 p3).heap.size = w.heap.size + 1 from size_alloc _ _] at d0 d1 d2
    clear q2
    go_wp2_with fail
    clear d0 d1 d2
    refine (unhide H2 _ ((unhide HV).q ((unhide HQ0).trans (unhide HY2)))).mono ?_
    rintro e w3 ⟨rfl, q3⟩
    have HX3 := hide ((unhide HX2).trans q3)
    have HY3 := hide ((unhide HY2).trans q3)
    obtain ⟨c0, c1, c2⟩ := unhide HB0 _ (unhide HY3)
    obtain ⟨d0, d1, d2⟩ := unhide HB1 _ (unhide HX3)
    rw [show (bxR w p1 a2 p3).heap.size = w.heap.size + 1 from size_alloc _ _] at d0 d1 d2
    clear q3
    go_wp2_with (go_at_call 11; refine (num_any _ _).mono ?_; rintro e w3 ⟨rfl, rfl⟩)
    have hrs := unhide HRS
    have HQE := hide ((unhide HQ0).trans (unhide HY3))
    clear HRS
    go_wp2_with fail
    go_quiet (fail)
    go_wp2
    go_ret
    refine ⟨ret_bool ?_, (unhide HQE).drewN _⟩
    have hmm : (min (xa.size : Int) (xb.size : Int)).toNat = min xa.size xb.size := by omega
    rw [hmm, unhide HEX]
    simp
  all_goals
    rw [e1] at H1
    rw [e2] at H2
    (first | (have hb1 := hem1 ka) | skip)
    (first | (have hb2 := hem2 kb) | skip)
    clear hex hrs hm1 hm2 hem1 hem2 ka kb e1 e2
    unfold rcV at *
    generalize (⟨(lgT a).toArray⟩ : ByteArray) = xa at *
    generalize (⟨(lgT b).toArray⟩ : ByteArray) = xb at *
    obtain ⟨a1, a2, a3⟩ := a
    obtain ⟨b1, b2, b3⟩ := b
    dsimp only at H1 H2 ⊢
    generalize (⟨a1.toArray⟩ : ByteArray) = p1 at *
    generalize (⟨a3.toArray⟩ : ByteArray) = p3 at *
    generalize (⟨b1.toArray⟩ : ByteArray) = r1 at *
    generalize (⟨b3.toArray⟩ : ByteArray) = r3 at *
    have HB0 := hide (fun u q => bxR_at (w := w) (x := p1) (t := a2) (y := p3) (w1 := u) q)
    have HQ0 := hide (bxR_q w p1 a2 p3)
    have HB1 := hide (fun u q => bxR_at (w := bxR w p1 a2 p3) (x := r1) (t := b2) (y := r3) (w1 := u) q)
    have HQ1 := hide (bxR_q (bxR w p1 a2 p3) r1 b2 r3)
    go_enter Tryd.func5, Tryd.ntmps5
    go_wp2_with fail
    refine (unhide H7 _ ((unhide HV).q ((unhide HQ0).trans (unhide HQ1)))).mono ?_
    rintro e w1 ⟨rfl, q1⟩
    have HX1 := hide q1
    have HY1 := hide ((unhide HQ1).trans q1)
    obtain ⟨c0, c1, c2⟩ := unhide HB0 _ (unhide HY1)
    clear q1
    go_wp2_with fail
    clear c0 c1 c2
    refine (unhide H1 _ ((unhide HV).q ((unhide HQ0).trans (unhide HY1)))).mono ?_
    rintro e w2 ⟨rfl, q2⟩
    have HX2 := hide ((unhide HX1).trans q2)
    have HY2 := hide ((unhide HY1).trans q2)
    obtain ⟨d0, d1, d2⟩ := unhide HB1 _ (unhide HX2)
    rw [show (bxR w p1 a2 p3).heap.size = w.heap.size + 1 from size_alloc _ _] at d0 d1 d2
    clear q2
    go_wp2_with fail
    clear d0 d1 d2
    refine (unhide H2 _ ((unhide HV).q ((unhide HQ0).trans (unhide HY2)))).mono ?_
    rintro e w3 ⟨rfl, q3⟩
    have HX3 := hide ((unhide HX2).trans q3)
    have HY3 := hide ((unhide HY2).trans q3)
    obtain ⟨c0, c1, c2⟩ := unhide HB0 _ (unhide HY3)
    obtain ⟨d0, d1, d2⟩ := unhide HB1 _ (unhide HX3)
    rw [show (bxR w p1 a2 p3).heap.size = w.heap.size + 1 from size_alloc _ _] at d0 d1 d2
    clear q3
    go_wp2_with (go_at_call 11; refine (num_any _ _).mono ?_; rintro e w3 ⟨rfl, rfl⟩)
    have HQE := hide ((unhide HQ0).trans (unhide HY3))
    clear c0 c1 c2 d0 d1 d2
    go_wp2_with (go_at_call 11; refine (num_any _ _).mono ?_; rintro e w3 ⟨rfl, rfl⟩)
    go_ret
    exact ⟨rfl, unhide HQE⟩

theorem Tryd.laidOut : laidOutB Tryd.prog = true := by kernel_rfl
set_option maxRecDepth 100000 in
theorem loglineUnlike_lifted (os : Os) (started : os.Started) (H : Type) (enc : TypeId × Value → H) :
    ReturnsInHanded {} Tryd.checked os 5 .any (fun w args => (Rows.loglineUnlikeSpec.pre enc Tryd.prog Tryd.f5 [] false w args ∧ laidMetH Tryd.prog Rows.loglineUnlikeRow.laid w) ∧ sizedMet enc Tryd.prog Tryd.f5 (OpenSpec.ofChange Rows.loglineUnlikeSpec) false w args) (Rows.loglineUnlikeSpec.post enc Tryd.prog Tryd.f5 false true false false) := by
  refine returnsInHanded_of_change_and (C := Tryd.checked) (X := fun w _ => laidMetH Tryd.prog Rows.loglineUnlikeRow.laid w) (fun _ _ _ hh h => h.of_heap hh) Tryd.own started (by kernel_rfl) Tryd.func5
    (ChangeSpec.witness_shaped (enc := enc) (C := Tryd.checked) (os := os) (X := fun w _ => laidMetH Tryd.prog Rows.loglineUnlikeRow.laid w) false (World.laidAll Tryd.prog os Rows.loglineUnlikeRow.laid) #[.agg #[.string ByteArray.empty, .int .i64 0, .string ByteArray.empty], .agg #[.string ByteArray.empty, .int .i64 0, .string ByteArray.empty]] 8 (World.laidAll_os _ _ _)
      (World.shaped_of_ZipB (by kernel_rfl) (by kernel_rfl)) (by kernel_rfl) (by kernel_rfl) (by kernel_rfl)
      (by rw [MakeChecks.laidMetH_plain _ _ _ (by kernel_rfl)]; exact laidMet_laidAll _ (by kernel_rfl) (by kernel_rfl))) ?_
  intro W base args ds gs before hval0 hW _ hsz0 hL _
  have hval : ∀ (j : Nat) t v, Tryd.f5.params[j]? = some t → args[j]? = some v → Value.okWide Tryd.prog W .any base t v := hval0
  have hW' := hW
  obtain ⟨p, q, hA0, hV, rfl, hfz, hnd⟩ := hW
  have hA : DataW.TrodAll enc Tryd.prog W 0 (fun _ => true) true Tryd.f5.params.toList args.toList ds p := hA0
  rw [Tryd.params5] at hA hval
  rw [Tryd.params5] at hsz0
  obtain ⟨v0, vs0, d0, ds0, p0, q0, hargs, rfl, rfl, h0, r0⟩ := trodAll_cons hA
  obtain ⟨v1, vs1, d1, ds1, p1, q1, rfl, rfl, rfl, h1, r1⟩ := trodAll_cons r0
  obtain ⟨rfl, rfl, rfl⟩ := trodAll_nil r1
  obtain rfl : args = #[v0, v1] := by cases args; simp_all
  obtain ⟨rfl, rfl⟩ := trodVars_none hV
  have k0 := h0
  have lt0 : ∀ x ∈ p0, x.block < W.heap.size := by obtain ⟨m, hm⟩ := k0; exact DataW.trod_lt m _ _ _ hm
  obtain ⟨r0', rfl, w0⟩ := Tryd.is_rec (hval 0 23 v0 rfl rfl) h0
  have k1 := h1
  have lt1 : ∀ x ∈ p1, x.block < W.heap.size := by obtain ⟨m, hm⟩ := k1; exact DataW.trod_lt m _ _ _ hm
  obtain ⟨r1', rfl, w1⟩ := Tryd.is_rec (hval 1 23 v1 rfl rfl) h1
  clear hA0 hval0
  refine (loglineUnlike_any W r0' w0 r1' w1 (vs_of_laid (laid := Rows.loglineUnlikeRow.laid) (by kernel_rfl) (by kernel_rfl) (by kernel_rfl) hL)).mono fun e W' ⟨he, bel⟩ => ?_
  subst he
  exact ⟨_, rfl, _, _, _, [], _, [], hW', trodAll_mk1 (shut_bool Tryd.underlying4 _), (trodAll_cons_mk (Below.trod Tryd.laidOut (by kernel_rfl) (of_decide_eq_true (by kernel_rfl)) k0 bel lt0) (trodAll_cons_mk (Below.trod Tryd.laidOut (by kernel_rfl) (of_decide_eq_true (by kernel_rfl)) k1 bel lt1) trodAll_mk0)), rfl, bel.frame _, fun h => by cases h⟩

theorem loglineUnlike_holds : Rows.LoglineUnlikeSaid :=
  OpenClaim.holds_of_wide 5 Tryd.f5 rfl rfl rfl rfl rfl rfl rfl ⟨rfl, rfl, rfl, rfl, rfl⟩ rfl rfl rfl rfl rfl (by kernel_rfl) Tryd.func5 (by kernel_rfl)
    (of_decide_eq_true (by kernel_rfl)) (by unfold Func.isWrapper; first | (rw [if_pos (by decide +kernel)]; kernel_rfl) | (rw [if_neg (by decide +kernel)]; exact ⟨rfl, rfl⟩))
    (fun os started H enc _ => loglineUnlike_lifted os started H enc)
theorem loglineUnlike_card : Rows.LoglineUnlikeCardSaid :=
  Claim7.holds_tied_plain_at .later [] [.data, .data, .data, .data, .sentinel, .sentinel, .pinned] true (true, "7165f7ac17c046a90c7350451bbd4585325d87011bf465bafcde6f6fdd1da4da") true loglineUnlike_holds (fun _ h => by cases h) (by kernel_rfl) (fun _ h => by cases h) loglineUnlike_row_tie rfl ⟨rfl, rfl⟩ (by kernel_rfl) rfl
    (fun f fn hf hfn => by
      obtain rfl : f = 5 := Option.some.inj ((show Tryd.prog.funcNamed Rows.loglineUnlikeRow.func = some 5 by kernel_rfl).symm.trans hf) |>.symm
      obtain rfl : fn = Tryd.f5 := (Option.some.inj (Tryd.func5.symm.trans hfn)).symm
      exact ⟨by kernel_rfl, fun j t ht => by
        rw [Tryd.params5] at ht
        have hm : t ∈ [23, 23] := by simpa using Array.mem_of_getElem? ht
        have hall : ([23, 23].all fun u => !Tryd.prog.wantsStandIn u) = true := by kernel_rfl
        exact (show Tryd.prog.wantsStandIn t = false by simpa using List.all_eq_true.1 hall t hm)⟩)
    (by kernel_rfl)
#print axioms loglineUnlike_card

end Go.Proofs.YtfdmhniccdnafaaDoor
