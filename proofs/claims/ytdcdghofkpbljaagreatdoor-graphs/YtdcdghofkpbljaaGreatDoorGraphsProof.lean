/- Graphs, whole: May, Check and Maker answer as the document's own do, and the graph that was handed in stays, whatever the graph and the name; no conditions. -/
import Derived.Test.YtdcdghofkpbljaaGreatDoorRows
import Derived.Test.YtdcdghofkpbljaaGreatDoorCards
import Derived.Test.YtdcdghofkpbljaaGreatDoorTie
import Derived.LaidMore
import Derived.Lay
import Derived.SevenTiedAt
import Derived.Stop.Joined
import Derived.ProofKit
import Derived.OpenShut
import Derived.ShutString
import Derived.ChangeOld
import Derived.Below
import Derived.SizedLaws
import Derived.Test.YtdcdghofkpbljaaGreatDoorGfOpen
import Derived.Test.YtdcdghofkpbljaaGreatDoorGfRMaker
import Derived.Test.YtdcdghofkpbljaaGreatDoorGfCopyG
import Derived.Test.YtdcdghofkpbljaaGreatDoorGfSameG
import Derived.Test.YtdcdghofkpbljaaGreatDoorGfAwake
namespace Go.Proofs.YtdcdghofkpbljaaGreatDoor
open Go.ChangeShapes Go.WideShapes Go.ChangeAt Go.RowKit
open Go.ChangeMaps (open_string shut_string)

set_option maxRecDepth 20000 in
set_option maxHeartbeats 16000000 in
theorem graphs_any (w : World) (g : Gh) (es : List EdA) (eo po dd : Option Addr) (ec pc dc : Nat) (hg0 : IsGr w g es eo po dd ec pc dc) (n : ByteArray) (_ : n.size ≤ maxLen) :
    Calls Tryz.prog 3 #[.agg #[.slice eo es.length ec, .slice po g.2.1.length pc, .slice dd g.2.2.length dc], .string n] w fun e w' => e = .returned (.bool true) ∧ Q w w' := by
  have qb := grB_q w es g eo po dd ec pc dc
  have HB1 := hide (grB_blk w es g eo po dd ec pc dc)
  have HG := hide hg0.r
  have HCP : Hid (∀ w2, Q w w2 → _) := fun w2 (q : Q w w2) => copyG_any g es eo po dd ec pc dc w2 ⟨hg0.r.q' q, fun x hx => (hg0.o x hx).q q, hg0.ec1, hg0.ec2, hg0.pc1, hg0.pc2, ⟨hg0.d.r.q q, hg0.d.z, hg0.d.n, hg0.d.s⟩⟩
  clear hg0
  go_enter Tryz.func3, Tryz.ntmps3
  go_wp2_with fail
  change Calls _ _ _ (grB w es g eo po dd ec pc dc) _
  generalize grB w es g eo po dd ec pc dc = wb at *
  generalize hX : w.heap.size = X at HB1 ⊢
  clear hX
  refine (unhide HCP wb qb).mono ?_
  rintro e w1 ⟨fs, fo, qo, bo, fc, qc, bc, rfl, hr, hq1, hq2, q1⟩
  have qw1 := qb.trans q1
  have HF := hide hr
  have HS := hide (hr.says fc qc bc hq1 hq2)
  have HBY := hide (Blk.new w1 #[.slice fo fs.length fc, .slice qo g.2.1.length qc, .slice bo g.2.2.length bc] 26)
  have q1a := (Q.refl w1).alloc (.cells #[.slice fo fs.length fc, .slice qo g.2.1.length qc, .slice bo g.2.2.length bc] 26)
  have HX : Hid (∀ w2, Q w1 w2 → w2.cell? ⟨X, 0, none⟩ = some (.slice eo es.length ec) ∧ w2.cell? ⟨X, 1, none⟩ = some (.slice po g.2.1.length pc) ∧ w2.cell? ⟨X, 2, none⟩ = some (.slice dd g.2.2.length dc) ∧ X < w2.heap.size) :=
    fun w2 q => ⟨(((unhide HB1).q (q1.trans q))).cell 0 rfl, (((unhide HB1).q (q1.trans q))).cell 1 rfl, (((unhide HB1).q (q1.trans q))).cell 2 rfl, ((unhide HB1).q (q1.trans q)).hi⟩
  clear hr hq1 hq2 HCP HB1 qb q1
  go_wp2_with fail
  generalize w1.alloc (.cells #[.slice fo fs.length fc, .slice qo g.2.1.length qc, .slice bo g.2.2.length bc] 26) = wc at *
  generalize w1.heap.size = Y at *
  refine ((unhide HS).make wc n q1a).mono ?_
  rintro e w3 ⟨rfl, q3⟩
  have q13 := q1a.trans q3
  obtain ⟨x0, x1, x2, _⟩ := unhide HX w3 q13
  have HRM := hide (rMk_any g n es eo po dd ec pc dc w3 ((unhide HG).q' (qw1.trans q13)))
  go_wp2_with fail
  refine (unhide HRM).mono ?_
  rintro e w4 ⟨rfl, q4⟩
  have q14 := q13.trans q4
  have HBY4 := hide ((unhide HBY).q (q3.trans q4))
  clear x0 x1 x2 HRM
  obtain ⟨z0, z1, z2, z3⟩ := unhide HX w4 q14
  have hA0 : ∀ u : Aft w4, u.to.cell? ⟨X, 0, none⟩ = some (.slice eo es.length ec) := Aft.cell z0 z3
  have hA1 : ∀ u : Aft w4, u.to.cell? ⟨X, 1, none⟩ = some (.slice po g.2.1.length pc) := Aft.cell z1 z3
  have hA2 : ∀ u : Aft w4, u.to.cell? ⟨X, 2, none⟩ = some (.slice dd g.2.2.length dc) := Aft.cell z2 z3
  have hB0 : ∀ u : Aft w4, u.to.cell? ⟨Y, 0, none⟩ = some (.slice fo fs.length fc) := Aft.cell ((unhide HBY4).cell 0 rfl) (unhide HBY4).hi
  have hB1 : ∀ u : Aft w4, u.to.cell? ⟨Y, 1, none⟩ = some (.slice qo g.2.1.length qc) := Aft.cell ((unhide HBY4).cell 1 rfl) (unhide HBY4).hi
  have hB2 : ∀ u : Aft w4, u.to.cell? ⟨Y, 2, none⟩ = some (.slice bo g.2.2.length bc) := Aft.cell ((unhide HBY4).cell 2 rfl) (unhide HBY4).hi
  have HCK : Hid (∀ u : Aft w4, _) := fun u : Aft w4 => (unhide HS).ck u.to (q14.trans u.q)
  have HMY : Hid (∀ u : Aft w4, _) := fun u : Aft w4 => (unhide HS).may u.to (q14.trans u.q)
  have HRC : Hid (∀ u : Aft w4, _) := fun u : Aft w4 => rCk_any g es eo po dd ec pc dc u.to ((unhide HG).q' ((qw1.trans q14).trans u.q))
  have HRY : Hid (∀ u : Aft w4, _) := fun u : Aft w4 => rMay_any g es eo po dd ec pc dc u.to ((unhide HG).q' ((qw1.trans q14).trans u.q))
  have HSG : Hid (∀ u : Aft w4, Calls Tryz.prog 12 #[.agg #[.slice fo fs.length fc, .slice qo g.2.1.length qc, .slice bo g.2.2.length bc], .agg #[.slice eo es.length ec, .slice po g.2.1.length pc, .slice dd g.2.2.length dc]] u.to fun e w' => e = .returned (.bool true) ∧ Q u.to w') := by
    show ∀ u : Aft w4, _
    intro u
    have h := sameH_any g g fs es fo qo bo eo po dd fc qc bc ec pc dc u.to ((unhide HF).q' (q14.trans u.q)) ((unhide HG).q' ((qw1.trans q14).trans u.q))
    rwa [(eqGh_iff g g).2 rfl] at h
  have HAW : Hid (∀ u : Aft w4, _) := fun u : Aft w4 => gawake_any u.to
  have hne := Aft.ne w4
  generalize mkI g (bl n) = m1 at *
  generalize mkIs g (bl n) = s1 at *
  generalize ckE g = ck at *
  generalize gmB g = gm at *
  clear HG HF HS HX HBY HBY4 z0 z1 z2 z3
  go_wp2_with fail
  refine wp_region_aft (by kernel_rfl) (by kernel_rfl) ?_
  repeat (go_big_quiet_step (first | (go_at_call 8; exact Calls.aft (unhide HCK _)) | (go_at_call 10; exact Calls.aft (unhide HMY _)) | (go_at_call 9; exact Calls.aft (unhide HRC _)) | (go_at_call 11; exact Calls.aft (unhide HRY _)) | (go_at_call 12; exact Calls.aft (unhide HSG _)) | (go_at_call 13; exact Calls.aft (unhide HAW _)) | (go_at_call 7; exact Calls.aft ((num_any _ _).mono (fun e w' ⟨h1, h2⟩ => ⟨h1, h2 ▸ Q.refl _⟩)))))
  refine wpQuiet_nil ?_
  intro _ hw'
  obtain ⟨u, hw''⟩ := hw'
  subst hw''
  have qu := u.q
  generalize u.to = w9 at qu ⊢
  clear hA0 hA1 hA2 hB0 hB1 hB2 hne
  go_wp2_with fail
  go_ret
  exact ⟨rfl, (qw1.trans q14).trans qu⟩

theorem Tryz.laidOut : laidOutB Tryz.prog = true := by kernel_rfl
set_option maxRecDepth 100000 in
theorem graphs_lifted (os : Os) (started : os.Started) (H : Type) (enc : TypeId × Value → H) :
    ReturnsInHanded {} Tryz.checked os 3 .any (fun w args => (Rows.graphsSpec.pre enc Tryz.prog Tryz.f3 [] false w args ∧ laidMetH Tryz.prog Rows.graphsRow.laid w) ∧ sizedMet enc Tryz.prog Tryz.f3 (OpenSpec.ofChange Rows.graphsSpec) false w args) (Rows.graphsSpec.post enc Tryz.prog Tryz.f3 false true false false) := by
  refine returnsInHanded_of_change_and (C := Tryz.checked) (X := fun w _ => laidMetH Tryz.prog Rows.graphsRow.laid w) (fun _ _ _ hh h => h.of_heap hh) Tryz.own started (by kernel_rfl) Tryz.func3
    (ChangeSpec.witness_shaped (enc := enc) (C := Tryz.checked) (os := os) (X := fun w _ => laidMetH Tryz.prog Rows.graphsRow.laid w) false (World.laidAll Tryz.prog os Rows.graphsRow.laid) #[.agg #[.slice none 0 0, .slice none 0 0, .slice none 0 0], .string ByteArray.empty] 8 (World.laidAll_os _ _ _)
      (World.shaped_of_ZipB (by kernel_rfl) (by kernel_rfl)) (by kernel_rfl) (by kernel_rfl) (by kernel_rfl)
      (by rw [MakeChecks.laidMetH_plain _ _ _ (by kernel_rfl)]; exact laidMet_laidAll _ (by kernel_rfl) (by kernel_rfl))) ?_
  intro W base args ds gs before hval0 hW _ hsz0 hL _
  have hval : ∀ (j : Nat) t v, Tryz.f3.params[j]? = some t → args[j]? = some v → Value.okWide Tryz.prog W .any base t v := hval0
  have hW' := hW
  obtain ⟨p, q, hA0, hV, rfl, hfz, hnd⟩ := hW
  have hA : DataW.TrodAll enc Tryz.prog W 0 (fun _ => true) true Tryz.f3.params.toList args.toList ds p := hA0
  rw [Tryz.params3] at hA hval
  rw [Tryz.params3] at hsz0
  obtain ⟨v0, vs0, d0, ds0, p0, q0, hargs, rfl, rfl, h0, r0⟩ := trodAll_cons hA
  obtain ⟨v1, vs1, d1, ds1, p1, q1, rfl, rfl, rfl, h1, r1⟩ := trodAll_cons r0
  obtain ⟨rfl, rfl, rfl⟩ := trodAll_nil r1
  obtain rfl : args = #[v0, v1] := by cases args; simp_all
  obtain ⟨rfl, rfl⟩ := trodVars_none hV
  have k0 := h0
  have lt0 : ∀ x ∈ p0, x.block < W.heap.size := by obtain ⟨m, hm⟩ := k0; exact DataW.trod_lt m _ _ _ hm
  obtain ⟨g0, es0, eo0, po0, dd0, ec0, pc0, dc0, rfl, w0⟩ := Tryz.is_graph (hval 0 26 v0 rfl rfl) h0 (fun m hm => by simpa using List.all_eq_true.1 hsz0 m (DataW.weights_mem_each (j := 0) (t := 26) rfl rfl m hm))
  obtain ⟨a1, rfl, rfl, rfl, w1⟩ := open_string Tryz.underlying9 (hval 1 9 v1 rfl rfl) h1
  clear hA0 hval0
  refine (graphs_any W g0 es0 eo0 po0 dd0 ec0 pc0 dc0 w0 a1 w1).mono fun e W' ⟨he, bel⟩ => ?_
  subst he
  exact ⟨_, rfl, _, _, _, [], _, [], hW', trodAll_mk1 (shut_bool Tryz.underlying4 _), (trodAll_cons_mk (Below.trod Tryz.laidOut (by kernel_rfl) (of_decide_eq_true (by kernel_rfl)) k0 bel lt0) (trodAll_cons_mk (shut_string Tryz.underlying9 w1) trodAll_mk0)), rfl, bel.frame _, fun h => by cases h⟩

theorem graphs_holds : Rows.GraphsSaid :=
  OpenClaim.holds_of_wide 3 Tryz.f3 rfl rfl rfl rfl rfl rfl rfl ⟨rfl, rfl, rfl, rfl, rfl⟩ rfl rfl rfl rfl rfl (by kernel_rfl) Tryz.func3 (by kernel_rfl)
    (of_decide_eq_true (by kernel_rfl)) (by unfold Func.isWrapper; first | (rw [if_pos (by decide +kernel)]; kernel_rfl) | (rw [if_neg (by decide +kernel)]; exact ⟨rfl, rfl⟩))
    (fun os started H enc _ => graphs_lifted os started H enc)
theorem graphs_card : Rows.GraphsCardSaid :=
  Claim7.holds_tied_plain_at .later [] [.data, .pinned] true (true, "c3db72c03ce8b3f95378e856e85ef8fdf0b5aff6cc3dfc3a8cf5cffeb5a0569d") false graphs_holds (fun _ h => by cases h) (by kernel_rfl) (fun _ h => by cases h) graphs_row_tie rfl ⟨rfl, rfl⟩ (by kernel_rfl) rfl
    (fun f fn hf hfn => by
      obtain rfl : f = 3 := Option.some.inj ((show Tryz.prog.funcNamed Rows.graphsRow.func = some 3 by kernel_rfl).symm.trans hf) |>.symm
      obtain rfl : fn = Tryz.f3 := (Option.some.inj (Tryz.func3.symm.trans hfn)).symm
      exact ⟨by kernel_rfl, fun j t ht => by
        rw [Tryz.params3] at ht
        have hm : t ∈ [26, 9] := by simpa using Array.mem_of_getElem? ht
        have hall : ([26, 9].all fun u => !Tryz.prog.wantsStandIn u) = true := by kernel_rfl
        exact (show Tryz.prog.wantsStandIn t = false by simpa using List.all_eq_true.1 hall t hm)⟩)
    (by kernel_rfl)
#print axioms graphs_card

end Go.Proofs.YtdcdghofkpbljaaGreatDoor
