/- Log lines, whole: any record, any text: what Put and Get answer is what the document's own text answers, and they come back; no conditions. -/
import Derived.Test.YtfdmhniccdnafaaDoorRows
import Derived.Test.YtfdmhniccdnafaaDoorCards
import Derived.Test.YtfdmhniccdnafaaDoorTie
import Derived.LaidMore
import Derived.Lay
import Derived.SevenTiedAt
import Derived.Stop.Joined
import Derived.ProofKit
import Derived.OpenShut
import Derived.ShutString
import Derived.ChangeOld
import Derived.Below
import Derived.SizedLaws
import Derived.Test.YtfdmhniccdnafaaDoorLgOpen
import Derived.Test.YtfdmhniccdnafaaDoorLgRGet
namespace Go.Proofs.YtfdmhniccdnafaaDoor
open Go.ChangeShapes Go.WideShapes Go.ChangeAt Go.RowKit
open Go.ChangeMaps (open_string shut_string)

theorem gtR_small (s : Tx) : (gtR s).1.length ≤ 2100 ∧ (gtR s).2.2.length ≤ 2100 := by
  unfold gtR
  cases h : gtL s with
  | none => exact ⟨by simp, by simp⟩
  | some r =>
    have := rc_sizes (gt_some h).1
    exact ⟨by simp; omega, by simp; omega⟩
theorem lgT_small (r : Rc) : (lgT r).length ≤ 2100 := by
  cases h : rcOk r
  · rw [(lg_no h).1]; simp
  · rw [(lg_yes h).1]; exact rcT_len h
theorem ln_a (r : Rc) : (lgE r = 0 ∧ gtR (lgT r) = r ∧ gtE (lgT r) = 0) ∨ lgE r = 1300 := by
  cases h : rcOk r
  · exact Or.inr (lg_no h).2
  · left
    rw [(lg_yes h).1, (lg_yes h).2]
    unfold gtR gtE
    rw [gt_line h]; exact ⟨rfl, rfl, rfl⟩
theorem ln_c (s : Tx) : (gtE s = 0 ∧ lgT (gtR s) = s ∧ lgE (gtR s) = 0) ∨ gtE s = 1300 := by
  unfold gtE gtR
  cases h : gtL s with
  | none => right; rfl
  | some r =>
    left
    obtain ⟨h1, h2⟩ := gt_some h
    refine ⟨rfl, ?_, ?_⟩
    · show lgT r = s
      rw [(lg_yes h1).1, h2]
    · exact (lg_yes h1).2

set_option maxRecDepth 20000 in
set_option maxHeartbeats 16000000 in
theorem loglines_any (w : World) (r : Rc) (hz : RcZ r) (s : ByteArray) (hs : s.size ≤ reachBytes) (hv : Vs w) :
    Calls Tryd.prog 3 #[rcV r, .string s] w fun e w' => e = .returned (.bool true) ∧ Q w w' := by
  have heq := eqR
  have hgd := Tryd.guardR
  have hs' : s.size ≤ 140737488355328 := by unfold reachBytes at hs; omega
  have z1 := gtR_small (bl s)
  have z2 := lgT_small r
  have H1 := hide (fun w (hv : Vs w) => lgPut_any r w hv hz.1 hz.2)
  have H2 := hide (fun w => rPut_any r w hz.1 hz.2)
  have H3 := hide (fun w (hv : Vs w) => lgGet_any s w hv hs')
  have H4 := hide (fun w => rGet_any s w hs')
  have H5 := hide (fun w (hv : Vs w) => lgGet_any ⟨(lgT r).toArray⟩ w hv (by rw [mk_size']; omega))
  rw [show bl (⟨(lgT r).toArray⟩ : ByteArray) = lgT r from rfl] at H5
  have H6 := hide (fun w (hv : Vs w) => lgPut_any (gtR (bl s)) w hv (by unfold maxLen; omega) (by unfold maxLen; omega))
  have H7 := hide lgawake_any
  have HA := hide (ln_a r)
  have HC := hide (ln_c (bl s))
  have HS := hide (txt_beq (lgT (gtR (bl s))) s)
  have HV := hide hv
  clear z1 z2 hv hz hs hs'
  generalize lgE r = eA at H1 H2 HA
  generalize gtE (bl s) = eC at H3 H4 HC
  generalize gtE (lgT r) = eX at H5 HA
  generalize lgE (gtR (bl s)) = eT at H6 HC
  generalize gtR (lgT r) = X at H5 HA
  generalize lgT (gtR (bl s)) = T at H6 HC HS
  generalize gtR (bl s) = C at H3 H4 H6
  generalize (⟨(lgT r).toArray⟩ : ByteArray) = xa at H1 H2 H5
  generalize hxt : (⟨T.toArray⟩ : ByteArray) = xt at H6 HS
  clear hxt
  have HXR : Hid (rcV X = .agg #[.string ⟨X.1.toArray⟩, .int .i64 X.2.1, .string ⟨X.2.2.toArray⟩]) := rfl
  have HB : Hid (X = r → (((⟨X.1.toArray⟩ : ByteArray).toList == (⟨r.1.toArray⟩ : ByteArray).toList) = true ∧ (X.2.1 == r.2.1) = true ∧ ((⟨X.2.2.toArray⟩ : ByteArray).toList == (⟨r.2.2.toArray⟩ : ByteArray).toList) = true)) := fun h => by subst h; simp
  unfold rcV at *
  obtain ⟨r1, r2, r3⟩ := r
  obtain ⟨X1, X2, X3⟩ := X
  obtain ⟨c1, c2, c3⟩ := C
  dsimp only at H1 H2 H3 H4 H5 H6 HB ⊢
  have hxs : (xa.toList == xa.toList) = true := by simp
  generalize hr1 : (⟨r1.toArray⟩ : ByteArray) = x1 at *
  generalize hr3 : (⟨r3.toArray⟩ : ByteArray) = x3 at *
  generalize hX1 : (⟨X1.toArray⟩ : ByteArray) = y1 at *
  generalize hX3 : (⟨X3.toArray⟩ : ByteArray) = y3 at *
  generalize hc1 : (⟨c1.toArray⟩ : ByteArray) = u1 at *
  generalize hc3 : (⟨c3.toArray⟩ : ByteArray) = u3 at *
  clear hr1 hr3 hX1 hX3 hc1 hc3 HXR
  have HB0 := hide (fun u q => bxR_at (w := w) (x := x1) (t := r2) (y := x3) (w1 := u) q)
  have HQ0 := hide (bxR_q w x1 r2 x3)
  rcases unhide HA with ⟨rfl, hX, rfl⟩ | rfl <;> rcases unhide HC with ⟨rfl, hT, rfl⟩ | rfl
  all_goals
    (first | (have HTT := hide hT; clear hT) | skip)
    (first | (have HXX := hide hX; clear hX) | skip)
    clear HA HC
    go_enter Tryd.func3, Tryd.ntmps3
    obtain ⟨b0, b1, b2⟩ := unhide HB0 _ (Q.refl _)
    unfold bxR at b0 b1 b2
    go_wp2_with fail
    clear b0 b1 b2
    refine (unhide H1 _ ((unhide HV).q (unhide HQ0))).mono ?_
    rintro e w1 ⟨rfl, q1⟩
    have HQ1 := hide q1
    clear q1
    obtain ⟨b0, b1, b2⟩ := unhide HB0 _ (unhide HQ1)
    go_wp2_with fail
    clear b0 b1 b2
    refine (unhide H2 _).mono ?_
    rintro e w2 ⟨rfl, q2⟩
    have HQ2 := hide ((unhide HQ1).trans q2)
    clear q2
    go_wp2_with fail
    refine (unhide H3 _ ((unhide HV).q ((unhide HQ0).trans (unhide HQ2)))).mono ?_
    rintro e w3 ⟨rfl, q3⟩
    have HQ3 := hide ((unhide HQ2).trans (q3.trans (bxR_q w3 u1 c2 u3)))
    have HB3 := hide (fun u q => bxR_at (w := w3) (x := u1) (t := c2) (y := u3) (w1 := u) q)
    clear q3
    go_wp2_with fail
    refine (unhide H4 _).mono ?_
    rintro e w4 ⟨rfl, q4⟩
    have HX4 := hide (q4.trans (bxR_q w4 u1 c2 u3))
    have HQ4 := hide ((unhide HQ3).trans (unhide HX4))
    have HB4 := hide (fun u q => bxR_at (w := w4) (x := u1) (t := c2) (y := u3) (w1 := u) q)
    clear q4
    go_wp2_with fail
    refine (unhide H5 _ ((unhide HV).q ((unhide HQ0).trans (unhide HQ4)))).mono ?_
    rintro e w5 ⟨rfl, q5⟩
    have HY5 := hide (q5.trans (bxR_q w5 y1 X2 y3))
    have HX5 := hide ((unhide HX4).trans (unhide HY5))
    have HQ5 := hide ((unhide HQ4).trans (unhide HY5))
    have HB5 := hide (fun u q => bxR_at (w := w5) (x := y1) (t := X2) (y := y3) (w1 := u) q)
    clear q5
    obtain ⟨b0, b1, b2⟩ := unhide HB3 _ (unhide HX5)
    unfold bxR at b0 b1 b2
    go_wp2_with fail
    clear b0 b1 b2
    refine (unhide H6 _ ((unhide HV).q ((unhide HQ0).trans (unhide HQ5)))).mono ?_
    rintro e w6 ⟨rfl, q6⟩
    have HQ6 := hide ((unhide HQ5).trans q6)
    obtain ⟨a0, a1, a2⟩ := unhide HB0 _ (unhide HQ6)
    obtain ⟨b0, b1, b2⟩ := unhide HB3 _ ((unhide HX5).trans q6)
    obtain ⟨d0, d1, d2⟩ := unhide HB4 _ ((unhide HY5).trans q6)
    obtain ⟨f0, f1, f2⟩ := unhide HB5 _ q6
    clear q6
    (first | (have g0 := (unhide HB (unhide HXX)).1; have g1 := (unhide HB (unhide HXX)).2.1; have g2 := (unhide HB (unhide HXX)).2.2) | skip)
    (first | (have hT : (xt.toList == s.toList) = true := by rw [unhide HS, unhide HTT]; simp) | skip)
    have hu1 : (u1.toList == u1.toList) = true := by simp
    have hu3 : (u3.toList == u3.toList) = true := by simp
    go_wp2_with (first | (go_at_call 11; refine (num_any _ _).mono ?_; rintro e w6 ⟨rfl, rfl⟩) | fail)
    refine (unhide H7 _ ((unhide HV).q ((unhide HQ0).trans (unhide HQ6)))).mono ?_
    rintro e w7 ⟨rfl, q7⟩
    have HQ7 := hide ((unhide HQ0).trans ((unhide HQ6).trans q7))
    clear a0 a1 a2 b0 b1 b2 d0 d1 d2 f0 f1 f2 q7
    go_wp2_with fail
    go_ret
    exact ⟨rfl, unhide HQ7⟩

theorem Tryd.laidOut : laidOutB Tryd.prog = true := by kernel_rfl
set_option maxRecDepth 100000 in
theorem loglines_lifted (os : Os) (started : os.Started) (H : Type) (enc : TypeId × Value → H) :
    ReturnsInHanded {} Tryd.checked os 3 .any (fun w args => (Rows.loglinesSpec.pre enc Tryd.prog Tryd.f3 [] false w args ∧ laidMetH Tryd.prog Rows.loglinesRow.laid w) ∧ sizedMet enc Tryd.prog Tryd.f3 (OpenSpec.ofChange Rows.loglinesSpec) false w args) (Rows.loglinesSpec.post enc Tryd.prog Tryd.f3 false true false false) := by
  refine returnsInHanded_of_change_and (C := Tryd.checked) (X := fun w _ => laidMetH Tryd.prog Rows.loglinesRow.laid w) (fun _ _ _ hh h => h.of_heap hh) Tryd.own started (by kernel_rfl) Tryd.func3
    (ChangeSpec.witness_shaped (enc := enc) (C := Tryd.checked) (os := os) (X := fun w _ => laidMetH Tryd.prog Rows.loglinesRow.laid w) false (World.laidAll Tryd.prog os Rows.loglinesRow.laid) #[.agg #[.string ByteArray.empty, .int .i64 0, .string ByteArray.empty], .string ByteArray.empty] 8 (World.laidAll_os _ _ _)
      (World.shaped_of_ZipB (by kernel_rfl) (by kernel_rfl)) (by kernel_rfl) (by kernel_rfl) (by kernel_rfl)
      (by rw [MakeChecks.laidMetH_plain _ _ _ (by kernel_rfl)]; exact laidMet_laidAll _ (by kernel_rfl) (by kernel_rfl))) ?_
  intro W base args ds gs before hval0 hW _ hsz0 hL _
  have hval : ∀ (j : Nat) t v, Tryd.f3.params[j]? = some t → args[j]? = some v → Value.okWide Tryd.prog W .any base t v := hval0
  have hW' := hW
  obtain ⟨p, q, hA0, hV, rfl, hfz, hnd⟩ := hW
  have hA : DataW.TrodAll enc Tryd.prog W 0 (fun _ => true) true Tryd.f3.params.toList args.toList ds p := hA0
  rw [Tryd.params3] at hA hval
  rw [Tryd.params3] at hsz0
  obtain ⟨v0, vs0, d0, ds0, p0, q0, hargs, rfl, rfl, h0, r0⟩ := trodAll_cons hA
  obtain ⟨v1, vs1, d1, ds1, p1, q1, rfl, rfl, rfl, h1, r1⟩ := trodAll_cons r0
  obtain ⟨rfl, rfl, rfl⟩ := trodAll_nil r1
  obtain rfl : args = #[v0, v1] := by cases args; simp_all
  obtain ⟨rfl, rfl⟩ := trodVars_none hV
  have k0 := h0
  have lt0 : ∀ x ∈ p0, x.block < W.heap.size := by obtain ⟨m, hm⟩ := k0; exact DataW.trod_lt m _ _ _ hm
  obtain ⟨r0', rfl, w0⟩ := Tryd.is_rec (hval 0 23 v0 rfl rfl) h0
  obtain ⟨a1, rfl, rfl, rfl, w1⟩ := open_string Tryd.underlying9 (hval 1 9 v1 rfl rfl) h1
  have y1 : a1.size ≤ reachBytes := by have h := sized_string hsz0 (j := 1) (t := 9) rfl rfl; first | exact Nat.le_trans (Nat.le_of_eq (bl_size _).symm) h | (rw [bl_toList, bl_size] at h; exact h)
  clear hA0 hval0
  refine (loglines_any W r0' w0 a1 y1 (vs_of_laid (laid := Rows.loglinesRow.laid) (by kernel_rfl) (by kernel_rfl) (by kernel_rfl) hL)).mono fun e W' ⟨he, bel⟩ => ?_
  subst he
  exact ⟨_, rfl, _, _, _, [], _, [], hW', trodAll_mk1 (shut_bool Tryd.underlying4 _), (trodAll_cons_mk (Below.trod Tryd.laidOut (by kernel_rfl) (of_decide_eq_true (by kernel_rfl)) k0 bel lt0) (trodAll_cons_mk (shut_string Tryd.underlying9 w1) trodAll_mk0)), rfl, bel.frame _, fun h => by cases h⟩

theorem loglines_holds : Rows.LoglinesSaid :=
  OpenClaim.holds_of_wide 3 Tryd.f3 rfl rfl rfl rfl rfl rfl rfl ⟨rfl, rfl, rfl, rfl, rfl⟩ rfl rfl rfl rfl rfl (by kernel_rfl) Tryd.func3 (by kernel_rfl)
    (of_decide_eq_true (by kernel_rfl)) (by unfold Func.isWrapper; first | (rw [if_pos (by decide +kernel)]; kernel_rfl) | (rw [if_neg (by decide +kernel)]; exact ⟨rfl, rfl⟩))
    (fun os started H enc _ => loglines_lifted os started H enc)
theorem loglines_card : Rows.LoglinesCardSaid :=
  Claim7.holds_tied_plain_at .later [] [.data, .data, .data, .data, .sentinel, .sentinel, .pinned] true (true, "7165f7ac17c046a90c7350451bbd4585325d87011bf465bafcde6f6fdd1da4da") true loglines_holds (fun _ h => by cases h) (by kernel_rfl) (fun _ h => by cases h) loglines_row_tie rfl ⟨rfl, rfl⟩ (by kernel_rfl) rfl
    (fun f fn hf hfn => by
      obtain rfl : f = 3 := Option.some.inj ((show Tryd.prog.funcNamed Rows.loglinesRow.func = some 3 by kernel_rfl).symm.trans hf) |>.symm
      obtain rfl : fn = Tryd.f3 := (Option.some.inj (Tryd.func3.symm.trans hfn)).symm
      exact ⟨by kernel_rfl, fun j t ht => by
        rw [Tryd.params3] at ht
        have hm : t ∈ [23, 9] := by simpa using Array.mem_of_getElem? ht
        have hall : ([23, 9].all fun u => !Tryd.prog.wantsStandIn u) = true := by kernel_rfl
        exact (show Tryd.prog.wantsStandIn t = false by simpa using List.all_eq_true.1 hall t hm)⟩)
    (by kernel_rfl)
#print axioms loglines_card

end Go.Proofs.YtfdmhniccdnafaaDoor
