/- Orders, whole: Of answers as the document's own does, and the graph that was handed in stays, whatever the graph; no conditions. -/
import Derived.Test.YtfadjppokbolhaaGreatDoorRows
import Derived.Test.YtfadjppokbolhaaGreatDoorCards
import Derived.Test.YtfadjppokbolhaaGreatDoorTie
import Derived.LaidMore
import Derived.Lay
import Derived.SevenTiedAt
import Derived.Stop.Joined
import Derived.ProofKit
import Derived.OpenShut
import Derived.ShutString
import Derived.ChangeOld
import Derived.Below
import Derived.SizedLaws
import Derived.Test.YtfadjppokbolhaaGreatDoorGfOpen
import Derived.Test.YtfadjppokbolhaaGreatDoorOrB
import Derived.Test.YtfadjppokbolhaaGreatDoorOrA
import Derived.Test.YtfadjppokbolhaaGreatDoorGfCopyG
import Derived.Test.YtfadjppokbolhaaGreatDoorGfSameG
namespace Go.Proofs.YtfadjppokbolhaaGreatDoor
open Go.ChangeShapes Go.WideShapes Go.ChangeAt Go.RowKit

theorem orL_small (g : Gh) : (orL g).length ≤ 16 ∧ ∀ x ∈ orL g, x ≤ 4096 := by
  by_cases h : orE g = 0
  · obtain ⟨hc, r, h1, h2, h3⟩ := orL_facts h
    have hm : gmB g = true := by
      cases hm : gmB g with
      | true => rfl
      | false => rw [ck_form hm] at hc; cases hc
    have h16 := (gm_facts hm).1
    rw [h1]
    refine ⟨by omega, fun x hx => ?_⟩
    have := ((steps_nodup (by simp [fls]) h3).2 x hx).1
    omega
  · rw [orL_empty h]; exact ⟨by simp, fun x hx => by cases hx⟩

set_option maxRecDepth 20000 in
set_option maxHeartbeats 16000000 in
theorem orders_any (w : World) (g : Gh) (es : List EdA) (eo po dd : Option Addr) (ec pc dc : Nat) (hg0 : IsGr w g es eo po dd ec pc dc) :
    Calls Tryz.prog 3 #[.agg #[.slice eo es.length ec, .slice po g.2.1.length pc, .slice dd g.2.2.length dc]] w fun e w' => e = .returned (.bool true) ∧ Q w w' := by
  have qb := grB_q w es g eo po dd ec pc dc
  have HB1 := hide (grB_blk w es g eo po dd ec pc dc)
  have HG := hide hg0.r
  have HCP : Hid (∀ w2, Q w w2 → _) := fun w2 (q : Q w w2) => copyG_any g es eo po dd ec pc dc w2 ⟨hg0.r.q' q, fun x hx => (hg0.o x hx).q q, hg0.ec1, hg0.ec2, hg0.pc1, hg0.pc2, ⟨hg0.d.r.q q, hg0.d.z, hg0.d.n, hg0.d.s⟩⟩
  have HSM := hide (orL_small g)
  clear hg0
  go_enter Tryz.func3, Tryz.ntmps3
  go_wp2_with fail
  change Calls _ _ _ (grB w es g eo po dd ec pc dc) _
  generalize grB w es g eo po dd ec pc dc = wb at *
  generalize hX : w.heap.size = X at HB1 ⊢
  clear hX
  refine (unhide HCP wb qb).mono ?_
  rintro e w1 ⟨fs, fo, qo, bo, fc, qc, bc, rfl, hr, hq1, hq2, q1⟩
  have qw1 := qb.trans q1
  have HF := hide hr
  have HS := hide (hr.osays fc qc bc hq1 hq2)
  have HBY := hide (Blk.new w1 #[.slice fo fs.length fc, .slice qo g.2.1.length qc, .slice bo g.2.2.length bc] 26)
  have q1a := (Q.refl w1).alloc (.cells #[.slice fo fs.length fc, .slice qo g.2.1.length qc, .slice bo g.2.2.length bc] 26)
  have HX : Hid (∀ w2, Q w1 w2 → w2.cell? ⟨X, 0, none⟩ = some (.slice eo es.length ec) ∧ w2.cell? ⟨X, 1, none⟩ = some (.slice po g.2.1.length pc) ∧ w2.cell? ⟨X, 2, none⟩ = some (.slice dd g.2.2.length dc) ∧ X < w2.heap.size) :=
    fun w2 q => ⟨(((unhide HB1).q (q1.trans q))).cell 0 rfl, (((unhide HB1).q (q1.trans q))).cell 1 rfl, (((unhide HB1).q (q1.trans q))).cell 2 rfl, ((unhide HB1).q (q1.trans q)).hi⟩
  clear hr hq1 hq2 HCP HB1 qb q1
  go_wp2_with fail
  generalize w1.alloc (.cells #[.slice fo fs.length fc, .slice qo g.2.1.length qc, .slice bo g.2.2.length bc] 26) = wc at *
  generalize w1.heap.size = Y at *
  refine (unhide HS wc q1a).mono ?_
  rintro e w3 ⟨ao3, cap3, rfl, own3, q3⟩
  have q13 := q1a.trans q3
  obtain ⟨x0, x1, x2, _⟩ := unhide HX w3 q13
  have HRM := hide (rOr_any g es eo po dd ec pc dc w3 ((unhide HG).q' (qw1.trans q13)))
  have HO3 := hide own3
  clear own3
  go_wp2_with fail
  refine (unhide HRM).mono ?_
  rintro e w4 ⟨ao4, cap4, rfl, own4, q4⟩
  have q14 := q13.trans q4
  have HO4 := hide (own_q (unhide HO3) q4)
  have HSI := hide (sameI_any (orL g) (orL g) ao3 ao4 cap3 cap4 w4 (OwnI.row (unhide HO4)) (OwnI.row own4) (by have := (unhide HSM).1; omega))
  rw [decide_eq_true rfl] at HSI
  have HBY4 := hide ((unhide HBY).q (q3.trans q4))
  clear x0 x1 x2 HRM own4 HO3
  have hself : (orE g != orE g) = false := by simp
  go_upto_region 6 with (first | (go_at_call 7; refine (unhide HSI).mono ?_; rintro e w5 ⟨rfl, q5⟩) | (go_at_call 8; refine (num_any _ _).mono ?_; rintro e w6 ⟨rfl, rfl⟩))
  have q15 := q14.trans q5
  have HSP := hide (spoilI_any ao3 cap3 wc.heap.size (orL g) w6 (own_q (unhide HO4) q5) (by have := (unhide HSM).1; omega) (unhide HSM).2)
  have hwc : wc.heap.size ≤ w6.heap.size := Nat.le_trans q3.size (Nat.le_trans q4.size q5.size)
  have hqc : Q wc w6 := q3.trans (q4.trans q5)
  have hy1 : w1.heap.size ≤ wc.heap.size := q1a.size
  clear HO4 HSI HBY4 hself q3 q4 q5 q14 q13
  go_wp2_with fail
  refine (unhide HSP).mono ?_
  rintro e w7 ⟨rfl, hbl⟩
  have qc7 : Q wc w7 := Below.trans hqc hbl
  have q17 : Q w1 w7 := q1a.trans qc7
  have bY := (unhide HBY).q qc7
  have y0 := bY.cell 0 rfl
  have y1 := bY.cell 1 rfl
  have y2 := bY.cell 2 rfl
  obtain ⟨x0, x1, x2, _⟩ := unhide HX w7 q17
  have HSG : Hid (Calls Tryz.prog 10 #[.agg #[.slice fo fs.length fc, .slice qo g.2.1.length qc, .slice bo g.2.2.length bc], .agg #[.slice eo es.length ec, .slice po g.2.1.length pc, .slice dd g.2.2.length dc]] w7 fun e w' => e = .returned (.bool true) ∧ Q w7 w') := by
    have h := sameH_any g g fs es fo qo bo eo po dd fc qc bc ec pc dc w7 ((unhide HF).q' q17) ((unhide HG).q' (qw1.trans q17))
    rwa [(eqGh_iff g g).2 rfl] at h
  clear HSP hbl bY HG HF HS HX HBY q15 hqc qc7
  go_wp2_with (first | (go_at_call 10; refine (unhide HSG).mono ?_; rintro e w8 ⟨rfl, q8⟩) | (go_at_call 11; refine (oawake_any _).mono ?_; rintro e w9 ⟨rfl, q9⟩))
  go_ret
  exact ⟨rfl, ((qw1.trans q17).trans q8).trans q9⟩

theorem Tryz.laidOut : laidOutB Tryz.prog = true := by kernel_rfl
set_option maxRecDepth 100000 in
theorem orders_lifted (os : Os) (started : os.Started) (H : Type) (enc : TypeId × Value → H) :
    ReturnsInHanded {} Tryz.checked os 3 .any (fun w args => (Rows.ordersSpec.pre enc Tryz.prog Tryz.f3 [] false w args ∧ laidMetH Tryz.prog Rows.ordersRow.laid w) ∧ sizedMet enc Tryz.prog Tryz.f3 (OpenSpec.ofChange Rows.ordersSpec) false w args) (Rows.ordersSpec.post enc Tryz.prog Tryz.f3 false true false false) := by
  refine returnsInHanded_of_change_and (C := Tryz.checked) (X := fun w _ => laidMetH Tryz.prog Rows.ordersRow.laid w) (fun _ _ _ hh h => h.of_heap hh) Tryz.own started (by kernel_rfl) Tryz.func3
    (ChangeSpec.witness_shaped (enc := enc) (C := Tryz.checked) (os := os) (X := fun w _ => laidMetH Tryz.prog Rows.ordersRow.laid w) false (World.laidAll Tryz.prog os Rows.ordersRow.laid) #[.agg #[.slice none 0 0, .slice none 0 0, .slice none 0 0]] 8 (World.laidAll_os _ _ _)
      (World.shaped_of_ZipB (by kernel_rfl) (by kernel_rfl)) (by kernel_rfl) (by kernel_rfl) (by kernel_rfl)
      (by rw [MakeChecks.laidMetH_plain _ _ _ (by kernel_rfl)]; exact laidMet_laidAll _ (by kernel_rfl) (by kernel_rfl))) ?_
  intro W base args ds gs before hval0 hW _ hsz0 hL _
  have hval : ∀ (j : Nat) t v, Tryz.f3.params[j]? = some t → args[j]? = some v → Value.okWide Tryz.prog W .any base t v := hval0
  have hW' := hW
  obtain ⟨p, q, hA0, hV, rfl, hfz, hnd⟩ := hW
  have hA : DataW.TrodAll enc Tryz.prog W 0 (fun _ => true) true Tryz.f3.params.toList args.toList ds p := hA0
  rw [Tryz.params3] at hA hval
  rw [Tryz.params3] at hsz0
  obtain ⟨v0, vs0, d0, ds0, p0, q0, hargs, rfl, rfl, h0, r0⟩ := trodAll_cons hA
  obtain ⟨rfl, rfl, rfl⟩ := trodAll_nil r0
  obtain rfl : args = #[v0] := by cases args; simp_all
  obtain ⟨rfl, rfl⟩ := trodVars_none hV
  have k0 := h0
  have lt0 : ∀ x ∈ p0, x.block < W.heap.size := by obtain ⟨m, hm⟩ := k0; exact DataW.trod_lt m _ _ _ hm
  obtain ⟨g0, es0, eo0, po0, dd0, ec0, pc0, dc0, rfl, w0⟩ := Tryz.is_graph (hval 0 26 v0 rfl rfl) h0 (fun m hm => by simpa using List.all_eq_true.1 hsz0 m (DataW.weights_mem_each (j := 0) (t := 26) rfl rfl m hm))
  clear hA0 hval0
  refine (orders_any W g0 es0 eo0 po0 dd0 ec0 pc0 dc0 w0).mono fun e W' ⟨he, bel⟩ => ?_
  subst he
  exact ⟨_, rfl, _, _, _, [], _, [], hW', trodAll_mk1 (shut_bool Tryz.underlying4 _), (trodAll_cons_mk (Below.trod Tryz.laidOut (by kernel_rfl) (of_decide_eq_true (by kernel_rfl)) k0 bel lt0) trodAll_mk0), rfl, bel.frame _, fun h => by cases h⟩

theorem orders_holds : Rows.OrdersSaid :=
  OpenClaim.holds_of_wide 3 Tryz.f3 rfl rfl rfl rfl rfl rfl rfl ⟨rfl, rfl, rfl, rfl, rfl⟩ rfl rfl rfl rfl rfl (by kernel_rfl) Tryz.func3 (by kernel_rfl)
    (of_decide_eq_true (by kernel_rfl)) (by unfold Func.isWrapper; first | (rw [if_pos (by decide +kernel)]; kernel_rfl) | (rw [if_neg (by decide +kernel)]; exact ⟨rfl, rfl⟩))
    (fun os started H enc _ => orders_lifted os started H enc)
theorem orders_card : Rows.OrdersCardSaid :=
  Claim7.holds_tied_plain_at .later [] [.data, .pinned] true (true, "4260f4c9b49f7709cca952a0fdccfac73c83df6297843b0b6bd8906049de09f4") false orders_holds (fun _ h => by cases h) (by kernel_rfl) (fun _ h => by cases h) orders_row_tie rfl ⟨rfl, rfl⟩ (by kernel_rfl) rfl
    (fun f fn hf hfn => by
      obtain rfl : f = 3 := Option.some.inj ((show Tryz.prog.funcNamed Rows.ordersRow.func = some 3 by kernel_rfl).symm.trans hf) |>.symm
      obtain rfl : fn = Tryz.f3 := (Option.some.inj (Tryz.func3.symm.trans hfn)).symm
      exact ⟨by kernel_rfl, fun j t ht => by
        rw [Tryz.params3] at ht
        have hm : t ∈ [26] := by simpa using Array.mem_of_getElem? ht
        have hall : ([26].all fun u => !Tryz.prog.wantsStandIn u) = true := by kernel_rfl
        exact (show Tryz.prog.wantsStandIn t = false by simpa using List.all_eq_true.1 hall t hm)⟩)
    (by kernel_rfl)
#print axioms orders_card

end Go.Proofs.YtfadjppokbolhaaGreatDoor
