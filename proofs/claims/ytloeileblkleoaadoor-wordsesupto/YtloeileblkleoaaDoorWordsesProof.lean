/- The statement on any text, up to a bound on its length, holds: what is told of it is what the document says, and it lies in memory of its own; the condition: the text has at most 2^20 bytes. -/
import Derived.Test.YtloeileblkleoaaDoorRows
import Derived.Test.YtloeileblkleoaaDoorCards
import Derived.Test.YtloeileblkleoaaDoorTie
import Derived.LaidMore
import Derived.Lay
import Derived.SevenTiedAt
import Derived.Stop.Joined
import Derived.ProofKit
import Derived.OpenShut
import Derived.ShutString
import Derived.ChangeOld
import Derived.Below
import Derived.SizedLaws
import Derived.Test.YtloeileblkleoaaDoorWdWords
import Derived.Deep.DeepHandedRow
import Derived.Lib.LaidTab
namespace Go.Proofs.YtloeileblkleoaaDoor
open Go.ChangeShapes Go.WideShapes Go.ChangeAt Go.RowKit
open Go.ChangeMaps (open_string shut_string)

def SmallT (xs : Ws) : Prop := xs.length ≤ 4096 ∧ ∀ p ∈ xs, p.length ≤ 4096
theorem small_of {xs : Ws} (h : AllN xs) (hl : xs.length ≤ 8) : SmallT xs := ⟨by omega, fun p hp => by have := (okN_len (h p hp)).2.1; omega⟩
theorem bt_small (l : List UInt8) : SmallT (btS (bdR l)).1 ∧ SmallT (btS (bdR l)).2.2.1 ∧ SmallT (btS (bdR l)).2.2.2.1 ∧ SmallT (btS (bdR l)).2.2.2.2 := by
  cases h : bdR l with
  | none => exact ⟨⟨by decide, fun p hp => by cases hp⟩, ⟨by decide, fun p hp => by cases hp⟩, ⟨by decide, fun p hp => by cases hp⟩, ⟨by decide, fun p hp => by cases hp⟩⟩
  | some x =>
    obtain ⟨a, r, b, c, d⟩ := x
    obtain ⟨_, h1, _, h2, h3, h4, l1, l2, l3, l4⟩ := bd_some (ws := wdL l) h
    exact ⟨small_of h1 l1, small_of h2 l2, small_of h3 l3, small_of h4 l4⟩

theorem Four.q {w w' : World} {B k1 k2 k3 : Nat} {x : Bt} {ao bo co eo : Option Addr} {ac bc cc ec : Nat} (h : Four w B k1 k2 k3 x ao bo co eo ac bc cc ec) (hq : Q w w') : Four w' B k1 k2 k3 x ao bo co eo ac bc cc ec :=
  ⟨own_q h.a hq, own_q h.b hq, own_q h.c hq, own_q h.d hq, h.la, h.lb, h.lc, h.ta, h.tb, h.tc⟩

def fiveV (v0 v1 v2 v3 v4 : Value) : Nat → Value := fun j => if j = 0 then v0 else if j = 1 then v1 else if j = 2 then v2 else if j = 3 then v3 else v4
theorem bk_five' {w w1 : World} {v0 v1 v2 v3 v4 : Value} {t : TypeId} (q : Q (w.alloc (.cells #[v0, v1, v2, v3, v4] t)) w1) : Bk w1 w.heap.size (fiveV v0 v1 v2 v3 v4) := by
  have hb := (q.block w.heap.size (by simp)).trans (heap_alloc_new _ _)
  refine ⟨Nat.lt_of_lt_of_le (by simp) q.size, fun i hi => ?_, fun r => frozen_of_row w1 _ _ _ _ hb⟩
  match i, hi with
  | 0, _ | 1, _ | 2, _ | 3, _ | 4, _ => simp [World.cell?, hb, fiveV]
theorem bk_five (w : World) (v0 v1 v2 v3 v4 : Value) (t : TypeId) : Bk (w.alloc (.cells #[v0, v1, v2, v3, v4] t)) w.heap.size (fiveV v0 v1 v2 v3 v4) := bk_five' (Q.refl _)

set_option maxRecDepth 20000 in
set_option maxHeartbeats 8000000 in
theorem wordses_any (s : ByteArray) (hs : s.size ≤ 1048576) (w : World) :
    Calls Tryd.prog 3 #[.string s] w fun e w' => e = .returned (.bool true) ∧ Q w w' := by
  have HSM := hide (bt_small (bl s))
  have HB := hide (fun w => build_any s w (by omega))
  have HW := hide (fun w => rWords_any s w (by omega))
  unfold BSays at HB
  unfold RSays at HW
  generalize btS (bdR (bl s)) = x at *
  generalize btE (bdR (bl s)) = n at *
  obtain ⟨a, r, b, c, d⟩ := x
  generalize hrv : (⟨r.toArray⟩ : ByteArray) = rv at *
  clear hrv
  go_enter Tryd.func3, Tryd.ntmps3
  go_wp2_with fail
  refine (unhide HB _).mono ?_
  rintro e w1 ⟨ao, bo, co, eo, ac, bc, cc, ec, k1, k2, k3, rfl, f1, q1⟩
  have F1 := hide f1
  clear f1
  go_wp2_with fail
  refine (unhide HW _).mono ?_
  rintro e w2 ⟨fo, go, ho, io, fc, gc, hc, ic, rfl, f2, q2⟩
  have F2 := hide f2
  clear f2
  go_wp2_with fail
  obtain ⟨w3, hw3⟩ : ∃ w3 : World, w3 = w2.alloc (.cells #[.slice fo a.length fc, .string rv, .slice go b.length gc, .slice ho c.length hc, .slice io d.length ic] 27) := ⟨_, rfl⟩
  have q3 : Q w2 w3 := by rw [hw3]; exact (Q.refl _).alloc _
  have X3 : Hid (Bk w3 w2.heap.size (fiveV (.slice fo a.length fc) (.string rv) (.slice go b.length gc) (.slice ho c.length hc) (.slice io d.length ic))) := by rw [hw3]; exact bk_five _ _ _ _ _ _ _
  have P3 := hide ((unhide F1).q (q2.trans q3))
  have G3 := hide ((unhide F2).q q3)
  have qq3 := q1.trans (q2.trans q3)
  rw [← hw3]
  clear hw3 F1 F2 q1 q2 q3 HB HW
  generalize w2.heap.size = xb at *
  refine (sameT_any ao fo ac fc a a _ (unhide P3).a.row (unhide G3).a (Nat.le_trans (show _ ≤ 4096 from (unhide HSM).1.1) (by decide : 4096 ≤ 1152921504606846976))).mono ?_
  rintro e w4 ⟨rfl, q4⟩
  rw [decide_eq_true rfl]
  have X4 := hide ((unhide X3).q q4)
  have P4 := hide ((unhide P3).q q4)
  have G4 := hide ((unhide G3).q q4)
  have qq4 := qq3.trans q4
  clear X3 P3 G3 qq3 q4
  have c1 : w4.cell? ⟨xb, 1, none⟩ = some (.string rv) := (unhide X4).c 1 (by decide)
  have d0 : w4.cell? ⟨xb, 2, none⟩ = some (.slice go b.length gc) := (unhide X4).c 2 (by decide)
  go_wp2_with fail
  refine (sameT_any bo go bc gc b b _ (unhide P4).b.row (unhide G4).b (Nat.le_trans (show _ ≤ 4096 from (unhide HSM).2.1.1) (by decide : 4096 ≤ 1152921504606846976))).mono ?_
  rintro e w5 ⟨rfl, q5⟩
  rw [decide_eq_true rfl]
  have X5 := hide ((unhide X4).q q5)
  have P5 := hide ((unhide P4).q q5)
  have G5 := hide ((unhide G4).q q5)
  have qq5 := qq4.trans q5
  clear X4 P4 G4 qq4 q5
  have d1 : w5.cell? ⟨xb, 3, none⟩ = some (.slice ho c.length hc) := (unhide X5).c 3 (by decide)
  go_wp2_with fail
  refine (sameT_any co ho cc hc c c _ (unhide P5).c.row (unhide G5).c (Nat.le_trans (show _ ≤ 4096 from (unhide HSM).2.2.1.1) (by decide : 4096 ≤ 1152921504606846976))).mono ?_
  rintro e w6 ⟨rfl, q6⟩
  rw [decide_eq_true rfl]
  have X6 := hide ((unhide X5).q q6)
  have P6 := hide ((unhide P5).q q6)
  have G6 := hide ((unhide G5).q q6)
  have qq6 := qq5.trans q6
  clear X5 P5 G5 qq5 q6
  have d2 : w6.cell? ⟨xb, 4, none⟩ = some (.slice io d.length ic) := (unhide X6).c 4 (by decide)
  go_wp2_with fail
  refine (sameT_any eo io ec ic d d _ (unhide P6).d.row (unhide G6).d (Nat.le_trans (show _ ≤ 4096 from (unhide HSM).2.2.2.1) (by decide : 4096 ≤ 1152921504606846976))).mono ?_
  rintro e w7 ⟨rfl, q7⟩
  rw [decide_eq_true rfl]
  have X7 := hide ((unhide X6).q q7)
  have P7 := hide ((unhide P6).q q7)
  have G7 := hide ((unhide G6).q q7)
  have qq7 := qq6.trans q7
  clear X6 P6 G6 qq6 q7
  go_wp2_with fail
  refine (num_any _ _).mono ?_
  rintro e w8 ⟨rfl, rfl⟩
  go_wp2_with fail
  refine (spoilT_any ao ac _ a _ (unhide P7).a (unhide HSM).1.1 (unhide HSM).1.2).mono ?_
  rintro e w9 ⟨rfl, s1⟩
  have O1 := hide (s1.own (unhide P7).b (unhide P7).ta)
  have O2 := hide (s1.own (unhide P7).c (fun k hk => Nat.lt_of_lt_of_le ((unhide P7).ta k hk) (unhide P7).lb))
  have O3 := hide (s1.own (unhide P7).d (fun k hk => Nat.lt_of_lt_of_le ((unhide P7).ta k hk) (Nat.le_trans (unhide P7).lb (unhide P7).lc)))
  have z1 := s1.below (unhide P7).a
  have qz1 : Q w w9 := Below.trans qq7 z1
  clear s1 z1
  go_wp2_with fail
  refine (spoilT_any bo bc _ b _ (unhide O1) (unhide HSM).2.1.1 (unhide HSM).2.1.2).mono ?_
  rintro e w10 ⟨rfl, s2⟩
  have O4 := hide (s2.own (unhide O2) (unhide P7).tb)
  have O5 := hide (s2.own (unhide O3) (fun k hk => Nat.lt_of_lt_of_le ((unhide P7).tb k hk) (unhide P7).lc))
  have qz2 : Q w w10 := Below.trans qz1 (Below.mono (s2.below (unhide O1)) (unhide P7).la)
  clear s2 qz1
  go_wp2_with fail
  refine (spoilT_any co cc _ c _ (unhide O4) (unhide HSM).2.2.1.1 (unhide HSM).2.2.1.2).mono ?_
  rintro e w11 ⟨rfl, s3⟩
  have O6 := hide (s3.own (unhide O5) (unhide P7).tc)
  have qz3 : Q w w11 := Below.trans qz2 (Below.mono (s3.below (unhide O4)) (Nat.le_trans (unhide P7).la (unhide P7).lb))
  clear s3 qz2
  go_wp2_with fail
  refine (spoilT_any eo ec _ d _ (unhide O6) (unhide HSM).2.2.2.1 (unhide HSM).2.2.2.2).mono ?_
  rintro e w12 ⟨rfl, s4⟩
  have qz4 : Q w w12 := Below.trans qz3 (Below.mono (s4.below (unhide O6)) (Nat.le_trans (Nat.le_trans (unhide P7).la (unhide P7).lb) (unhide P7).lc))
  clear s4 qz3
  go_wp2_with fail
  refine (wdawake_any _).mono ?_
  rintro e w13 ⟨rfl, q13⟩
  go_wp2_with fail
  go_ret
  exact ⟨rfl, qz4.trans q13⟩

set_option maxRecDepth 100000 in
theorem wordses_liftedUpto (os : Os) (started : os.Started) (H : Type) (enc : TypeId × Value → H) (F : Stop.Interp) :
    ReturnsInHanded {} Tryd.checked os 3 .any ((Rows.OpenSpec.upto Rows.wordsesSpec).preRow enc Tryd.prog Tryd.f3 Rows.wordsesUptoRow.domain false Rows.wordsesUptoRow.laid) (((Rows.OpenSpec.upto Rows.wordsesSpec).at F).post enc Tryd.prog Tryd.f3 false true false false) := by
  have hx : DataW.whole enc Tryd.prog ((World.laidAll Tryd.prog os Rows.wordsesUptoRow.laid).forCall (fun _ _ => 0) ⟨#[], #[.string ByteArray.empty], []⟩).memory Tryd.f3.params.toList (Rows.OpenSpec.upto Rows.wordsesSpec).vars false #[.string ByteArray.empty].toList 8 = some ([.lit (.string [])], [], []) := by kernel_rfl
  have hok : Input.okWideB Tryd.prog ((World.laidAll Tryd.prog os Rows.wordsesUptoRow.laid).forCall (fun _ _ => 0) ⟨#[], #[.string ByteArray.empty], []⟩) 3 ⟨#[], #[.string ByteArray.empty], []⟩ = true := by kernel_rfl
  refine returnsInHanded_of_row (C := Tryd.checked) (s := Rows.OpenSpec.upto Rows.wordsesSpec) Tryd.own started (by kernel_rfl) Tryd.func3
    ⟨World.laidAll Tryd.prog os Rows.wordsesUptoRow.laid, fun _ _ => 0, ⟨#[], #[.string ByteArray.empty], []⟩, World.laidAll_os _ _ _, World.shaped_of_ZipB (by kernel_rfl) (by kernel_rfl), (Input.okWide_of_okWideB (base := 0) hok).1, (Input.okWide_of_okWideB hok).2,
      OpenSpec.preRow_of_cond 8 hx (by kernel_rfl) (fun k hk => by cases hk; kernel_rfl) (by kernel_rfl) (by rw [MakeChecks.laidMetH_plain _ _ _ (by kernel_rfl)]; exact laidMet_laidAll _ (by kernel_rfl) (by kernel_rfl)),
      by simp only [Assume.holds]; exact ⟨by simp, by simp, fun _ => Modest.zero, by simp, by simp⟩⟩ ?_
  intro W base args ds gs before hval0 hW _ hcond _ hL _ _
  have hk : Rows.uptoSmall H (ds ++ gs) = true := hcond _ rfl
  have hval : ∀ (j : Nat) t v, Tryd.f3.params[j]? = some t → args[j]? = some v → Value.okWide Tryd.prog W .any base t v := hval0
  have hW' := hW
  obtain ⟨p, q, hA0, hV, rfl, hfz, hnd⟩ := hW
  have hA : DataW.TrodAll enc Tryd.prog W 0 (fun _ => true) true Tryd.f3.params.toList args.toList ds p := hA0
  rw [Tryd.params3] at hA hval
  obtain ⟨v0, vs0, d0, ds0, p0, q0, hargs, rfl, rfl, h0, r0⟩ := trodAll_cons hA
  obtain ⟨rfl, rfl, rfl⟩ := trodAll_nil r0
  obtain rfl : args = #[v0] := by cases args; simp_all
  obtain ⟨rfl, rfl⟩ := trodVars_none hV
  obtain ⟨a0, rfl, rfl, rfl, w0⟩ := open_string Tryd.underlying9 (hval 0 9 v0 rfl rfl) h0
  clear hA0 hval0
  simp only [List.append_nil] at hW' hk
  have hbk := of_decide_eq_true hk
  simp only [Rows.uptoBulkAll, Rows.uptoBulk] at hbk
  have y0 : a0.size ≤ 1048576 := by rw [← bl_size]; unfold bl; omega
  refine (wordses_any a0 y0 W).mono fun e W' ⟨he, bel⟩ => ?_
  subst he
  exact ⟨_, rfl, _, _, _, [], [], [], hW', trodAll_mk1 (shut_bool Tryd.underlying4 _), (trodAll_cons_mk (shut_string Tryd.underlying9 w0) trodAll_mk0), rfl, bel.frame _, fun h => by cases h⟩

theorem wordsesUpto_holds : Rows.WordsesUptoSaid :=
  OpenClaim.holds_of_cond 3 Tryd.f3 rfl rfl rfl rfl rfl rfl rfl ⟨rfl, rfl, rfl, rfl, rfl⟩ rfl rfl rfl rfl rfl (by kernel_rfl) Tryd.func3 (by kernel_rfl)
    (of_decide_eq_true (by kernel_rfl)) (by unfold Func.isWrapper; first | (rw [if_pos (by decide +kernel)]; kernel_rfl) | (rw [if_neg (by decide +kernel)]; exact ⟨rfl, rfl⟩))
    (fun os started H enc _ F => by rw [OpenClaim.pre_eq_preRow]; exact wordses_liftedUpto os started H enc F)
theorem wordsesUpto_card : Rows.WordsesUptoCardSaid :=
  Claim7.holds_tied_plain_at .later [] _ _ _ _ wordsesUpto_holds (fun _ h => by cases h) (by kernel_rfl) (fun _ h => by cases h) wordsesUpto_row_tie rfl ⟨rfl, rfl⟩ (by kernel_rfl) rfl
    (fun f fn hf hfn => by
      obtain rfl : f = 3 := Option.some.inj ((show Tryd.prog.funcNamed Rows.wordsesUptoRow.func = some 3 by kernel_rfl).symm.trans hf) |>.symm
      obtain rfl : fn = Tryd.f3 := (Option.some.inj (Tryd.func3.symm.trans hfn)).symm
      exact ⟨by kernel_rfl, fun j t ht => by
        rw [Tryd.params3] at ht
        have hm : t ∈ [9] := by simpa using Array.mem_of_getElem? ht
        have hall : ([9].all fun u => !Tryd.prog.wantsStandIn u) = true := by kernel_rfl
        exact (show Tryd.prog.wantsStandIn t = false by simpa using List.all_eq_true.1 hall t hm)⟩)
    (by kernel_rfl)
#print axioms wordsesUpto_card
end Go.Proofs.YtloeileblkleoaaDoor
