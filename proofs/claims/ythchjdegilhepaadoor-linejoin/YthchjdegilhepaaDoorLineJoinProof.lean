/- The statement on two texts of lines holds for all texts: put one behind the other, they are the lines of both; no conditions. -/
import Derived.Test.YthchjdegilhepaaDoorRows
import Derived.Test.YthchjdegilhepaaDoorCards
import Derived.Test.YthchjdegilhepaaDoorTie
import Derived.LaidMore
import Derived.Lay
import Derived.SevenTiedAt
import Derived.Stop.Joined
import Derived.ProofKit
import Derived.OpenShut
import Derived.ShutString
import Derived.ChangeOld
import Derived.Below
import Derived.SizedLaws
import Derived.Test.YthchjdegilhepaaDoorLnAwake
import Derived.Test.YthchjdegilhepaaDoorLnMore
import Derived.Test.YthchjdegilhepaaDoorStAppend
namespace Go.Proofs.YthchjdegilhepaaDoor
open Go.ChangeShapes Go.WideShapes Go.ChangeAt Go.RowKit
open Go.ChangeMaps (open_string shut_string)

set_option maxHeartbeats 4000000 in
theorem lineJoin_any (s : ByteArray) (hs : s.size ≤ reachBytes) (t : ByteArray) (ht : t.size ≤ reachBytes) (w : World) :
    Calls Tryd.prog 6 #[.string s, .string t] w fun e w' => e = .returned (.bool true) ∧ Q w w' := by
  unfold reachBytes at hs ht
  obtain ⟨i0, hi, hz0, hz1, hz2⟩ := info_parts Tryd.infoL
  have hst : (s ++ t).size = s.size + t.size := ByteArray.size_append
  have HCS := hide (fun w => cutl_any s w (by unfold maxLen; omega))
  have HCT := hide (fun w => cutl_any t w (by unfold maxLen; omega))
  have HCU := hide (fun w => cutl_any (s ++ t) w (by unfold maxLen; omega))
  unfold CutSays at HCS HCT HCU
  rcases ln_cases (bl s) with ⟨hc1, hc2, hc3⟩ | ⟨x, hx1, hx2, hx3⟩
  · rw [hc2, hc3] at HCS
    generalize lnS (bl t) = ps at *
    generalize lnE (bl t) = pe at *
    generalize lnS (bl (s ++ t)) = qs at *
    generalize lnE (bl (s ++ t)) = qe at *
    clear hc1 hc2 hc3
    go_enter Tryd.func6, Tryd.ntmps6
    go_wp2_with fail
    refine (lnawake_any _).mono ?_
    rintro e w1 ⟨rfl, q1⟩
    go_wp2_with fail
    refine (unhide HCS _).mono ?_
    rintro e w2 ⟨ao, cap, rfl, _, q2⟩
    go_wp2_with fail
    refine (unhide HCT _).mono ?_
    rintro e w3 ⟨bo, bcap, rfl, _, q3⟩
    go_wp2_with fail
    refine (unhide HCU _).mono ?_
    rintro e w4 ⟨co, ccap, rfl, _, q4⟩
    go_wp2_with (go_at_call 11; refine (num_any _ _).mono ?_; rintro e w' ⟨rfl, rfl⟩)
    go_ret
    exact ⟨rfl, q1.trans (q2.trans (q3.trans q4))⟩
  rcases ln_cases (bl t) with ⟨hc1, hc2, hc3⟩ | ⟨y, hy1, hy2, hy3⟩
  · rw [hx2, hx3] at HCS
    rw [hc2, hc3] at HCT
    generalize lnS (bl (s ++ t)) = qs at *
    generalize lnE (bl (s ++ t)) = qe at *
    clear hc1 hc2 hc3 hx1 hx2 hx3
    go_enter Tryd.func6, Tryd.ntmps6
    go_wp2_with fail
    refine (lnawake_any _).mono ?_
    rintro e w1 ⟨rfl, q1⟩
    go_wp2_with fail
    refine (unhide HCS _).mono ?_
    rintro e w2 ⟨ao, cap, rfl, _, q2⟩
    go_wp2_with fail
    refine (unhide HCT _).mono ?_
    rintro e w3 ⟨bo, bcap, rfl, _, q3⟩
    go_wp2_with fail
    refine (unhide HCU _).mono ?_
    rintro e w4 ⟨co, ccap, rfl, _, q4⟩
    go_wp2_with (go_at_call 11; refine (num_any _ _).mono ?_; rintro e w' ⟨rfl, rfl⟩)
    go_ret
    exact ⟨rfl, q1.trans (q2.trans (q3.trans q4))⟩
  have hxl := (lnS_len (bl s)).1
  have hyl := (lnS_len (bl t)).1
  rw [hx2] at hxl
  rw [hy2] at hyl
  by_cases hlen : 2048 < s.size + t.size
  · obtain ⟨hu2, hu3⟩ := ln_bad (ln_long (l := bl (s ++ t)) (by rw [bl_size, hst]; exact hlen))
    rw [hx2, hx3] at HCS
    rw [hy2, hy3] at HCT
    rw [hu2, hu3] at HCU
    clear hu2 hu3 hx1 hx2 hx3 hy1 hy2 hy3
    go_enter Tryd.func6, Tryd.ntmps6
    go_wp2_with fail
    refine (lnawake_any _).mono ?_
    rintro e w1 ⟨rfl, q1⟩
    go_wp2_with fail
    refine (unhide HCS _).mono ?_
    rintro e w2 ⟨ao, cap, rfl, _, q2⟩
    go_wp2_with fail
    refine (unhide HCT _).mono ?_
    rintro e w3 ⟨bo, bcap, rfl, _, q3⟩
    go_wp2_with fail
    refine (unhide HCU _).mono ?_
    rintro e w4 ⟨co, ccap, rfl, _, q4⟩
    go_wp2_with (go_at_call 11; refine (num_any _ _).mono ?_; rintro e w' ⟨rfl, rfl⟩)
    go_ret
    exact ⟨ret_bool (decide_eq_true (by omega)), q1.trans (q2.trans (q3.trans q4))⟩
  obtain ⟨hu2, hu3⟩ := ln_good (lnC_of (l := bl (s ++ t)) (by rw [bl_app]; exact lnT_app (lnC_some hx1).2 (lnC_some hy1).2) (by rw [bl_size, hst]; omega))
  have hul := (lnS_len (bl (s ++ t))).1
  rw [hu2] at hul
  rw [hx2, hx3] at HCS
  rw [hy2, hy3] at HCT
  rw [hu2, hu3] at HCU
  clear hu2 hu3 hx1 hx2 hx3 hy1 hy2 hy3
  go_enter Tryd.func6, Tryd.ntmps6
  go_wp2_with fail
  refine (lnawake_any _).mono ?_
  rintro e w1 ⟨rfl, q1⟩
  go_wp2_with fail
  refine (unhide HCS _).mono ?_
  rintro e w2 ⟨ao, cap, rfl, own2, q2⟩
  go_wp2_with fail
  refine (unhide HCT _).mono ?_
  rintro e w3 ⟨bo, bcap, rfl, own3, q3⟩
  go_wp2_with fail
  refine (unhide HCU _).mono ?_
  rintro e w4 ⟨co, ccap, rfl, own4, q4⟩
  have R2 := hide ((OwnL.row own2).q (q3.trans q4))
  have R3 := hide ((OwnL.row own3).q q4)
  have R4 := hide (OwnL.row own4)
  have q := q1.trans (q2.trans (q3.trans q4))
  have hl2 := own_le own2
  have hl3 := own_le own3
  clear own2 own3 own4 q1 q2 q3 q4
  go_wp2_with fail
  refine (num_any _ _).mono ?_
  rintro e w4' ⟨rfl, rfl⟩
  go_wp2_with fail
  refine (num_any _ _).mono ?_
  rintro e w4'' ⟨rfl, rfl⟩
  go_wp2_with fail
  refine (num_any _ _).mono ?_
  rintro e w5 ⟨rfl, rfl⟩
  have qa : Q w5 (w5.alloc (.cells #[] 39)) := (Q.refl _).alloc _
  have RA := hide ((unhide R2).q qa)
  go_wp2_with (at_builtin; refine wpList_append_row rfl _ _ 22 rfl w5.heap.size 39 i0 (.agg #[.bool false, .string ByteArray.empty]) 2 24 Tryd.underlying22 hi hz0 hz1 hz2 rfl (by decide) (some ⟨w5.heap.size, 0, none⟩) 0 0 [] rfl (own_new (Nat.le_refl _)) ao x.length cap (lay lv x) rfl (SrcRow.row lv_len (by decide) (unhide RA)) (one_layL x) (by unfold maxLen; omega) (by omega) qa.size ?_)
  intro ao6 cap6 w6 own6 grow6
  have hq6 : Q w5 w6 := Below.grown qa grow6 qa.size (fun r hr => by cases hr; exact Nat.le_refl _)
  have HO6 : Hid (OwnL w6 w5.heap.size ao6 cap6 x) := by
    show World.ownsRow _ _ _ _ _ _ _
    simpa using own6
  try rw [Nat.zero_add]
  have R36 := hide ((unhide R3).q hq6)
  clear own6 grow6
  go_wp2_with (at_builtin; refine wpList_append_row rfl _ _ 22 rfl w5.heap.size 39 i0 (.agg #[.bool false, .string ByteArray.empty]) 2 24 Tryd.underlying22 hi hz0 hz1 hz2 rfl (by decide) ao6 x.length cap6 (lay lv x) rfl (unhide HO6) bo y.length bcap (lay lv y) rfl (SrcRow.row lv_len (by decide) (unhide R36)) (one_layL y) (by unfold maxLen; omega) (by omega) hq6.size ?_)
  intro ao7 cap7 w7 own7 grow7
  have hq7 : Q w5 w7 := Below.grown hq6 grow7 hq6.size (fun r hr => ((unhide HO6).lt r hr).1)
  have HO7 : Hid (OwnL w7 w5.heap.size ao7 cap7 (x ++ y)) := by
    show World.ownsRow _ _ _ _ (.slice _ (x ++ y).length _) (x ++ y).length (lay lv (x ++ y))
    rw [List.length_append, lay_app]; exact own7
  have R47 := hide ((unhide R4).q hq7)
  have HSM := hide (sameL_any co ao7 ccap cap7 (x ++ y) (x ++ y) w7 (unhide R47) (OwnL.row (unhide HO7)) (by omega))
  rw [decide_eq_true (rfl : x ++ y = x ++ y), List.length_append] at HSM
  clear own7 grow7
  go_wp2_with fail
  refine (unhide HSM).mono ?_
  rintro e w8 ⟨rfl, q8⟩
  go_wp2_with fail
  go_ret
  exact ⟨rfl, q.trans (hq7.trans q8)⟩

set_option maxRecDepth 100000 in
theorem lineJoin_lifted (os : Os) (started : os.Started) (H : Type) (enc : TypeId × Value → H) :
    ReturnsInHanded {} Tryd.checked os 6 .any (fun w args => (Rows.lineJoinSpec.pre enc Tryd.prog Tryd.f6 [] false w args ∧ laidMetH Tryd.prog Rows.lineJoinRow.laid w) ∧ sizedMet enc Tryd.prog Tryd.f6 (OpenSpec.ofChange Rows.lineJoinSpec) false w args) (Rows.lineJoinSpec.post enc Tryd.prog Tryd.f6 false true false false) := by
  refine returnsInHanded_of_change_and (C := Tryd.checked) (X := fun w _ => laidMetH Tryd.prog Rows.lineJoinRow.laid w) (fun _ _ _ hh h => h.of_heap hh) Tryd.own started (by kernel_rfl) Tryd.func6
    (ChangeSpec.witness_shaped (enc := enc) (C := Tryd.checked) (os := os) (X := fun w _ => laidMetH Tryd.prog Rows.lineJoinRow.laid w) false (World.laidAll Tryd.prog os Rows.lineJoinRow.laid) #[.string ByteArray.empty, .string ByteArray.empty] 8 (World.laidAll_os _ _ _)
      (World.shaped_of_ZipB (by kernel_rfl) (by kernel_rfl)) (by kernel_rfl) (by kernel_rfl) (by kernel_rfl)
      (by rw [MakeChecks.laidMetH_plain _ _ _ (by kernel_rfl)]; exact laidMet_laidAll _ (by kernel_rfl) (by kernel_rfl))) ?_
  intro W base args ds gs before hval0 hW _ hsz0 hL _
  have hval : ∀ (j : Nat) t v, Tryd.f6.params[j]? = some t → args[j]? = some v → Value.okWide Tryd.prog W .any base t v := hval0
  have hW' := hW
  obtain ⟨p, q, hA0, hV, rfl, hfz, hnd⟩ := hW
  have hA : DataW.TrodAll enc Tryd.prog W 0 (fun _ => true) true Tryd.f6.params.toList args.toList ds p := hA0
  rw [Tryd.params6] at hA hval
  rw [Tryd.params6] at hsz0
  obtain ⟨v0, vs0, d0, ds0, p0, q0, hargs, rfl, rfl, h0, r0⟩ := trodAll_cons hA
  obtain ⟨v1, vs1, d1, ds1, p1, q1, rfl, rfl, rfl, h1, r1⟩ := trodAll_cons r0
  obtain ⟨rfl, rfl, rfl⟩ := trodAll_nil r1
  obtain rfl : args = #[v0, v1] := by cases args; simp_all
  obtain ⟨rfl, rfl⟩ := trodVars_none hV
  obtain ⟨a0, rfl, rfl, rfl, w0⟩ := open_string Tryd.underlying9 (hval 0 9 v0 rfl rfl) h0
  have y0 : a0.size ≤ reachBytes := by have h := sized_string hsz0 (j := 0) (t := 9) rfl rfl; first | exact Nat.le_trans (Nat.le_of_eq (bl_size _).symm) h | (rw [bl_toList, bl_size] at h; exact h)
  obtain ⟨a1, rfl, rfl, rfl, w1⟩ := open_string Tryd.underlying9 (hval 1 9 v1 rfl rfl) h1
  have y1 : a1.size ≤ reachBytes := by have h := sized_string hsz0 (j := 1) (t := 9) rfl rfl; first | exact Nat.le_trans (Nat.le_of_eq (bl_size _).symm) h | (rw [bl_toList, bl_size] at h; exact h)
  clear hA0 hval0
  simp only [List.append_nil] at hW'
  refine (lineJoin_any a0 y0 a1 y1 W).mono fun e W' ⟨he, bel⟩ => ?_
  subst he
  exact ⟨_, rfl, _, _, _, [], [], [], hW', trodAll_mk1 (shut_bool Tryd.underlying4 _), (trodAll_cons_mk (shut_string Tryd.underlying9 w0) (trodAll_cons_mk (shut_string Tryd.underlying9 w1) trodAll_mk0)), rfl, bel.frame _, fun h => by cases h⟩

theorem lineJoin_holds : Rows.LineJoinSaid :=
  OpenClaim.holds_of_wide 6 Tryd.f6 rfl rfl rfl rfl rfl rfl rfl ⟨rfl, rfl, rfl, rfl, rfl⟩ rfl rfl rfl rfl rfl (by kernel_rfl) Tryd.func6 (by kernel_rfl)
    (of_decide_eq_true (by kernel_rfl)) (by unfold Func.isWrapper; first | (rw [if_pos (by decide +kernel)]; kernel_rfl) | (rw [if_neg (by decide +kernel)]; exact ⟨rfl, rfl⟩))
    (fun os started H enc _ => lineJoin_lifted os started H enc)
theorem lineJoin_card : Rows.LineJoinCardSaid :=
  Claim7.holds_tied_plain_at .later [] [.data, .pinned] true (true, "be002fb75483f9dd850ebf38b52f8a9eb6525c7705505c172b325be768154826") false lineJoin_holds (fun _ h => by cases h) (by kernel_rfl) (fun _ h => by cases h) lineJoin_row_tie rfl ⟨rfl, rfl⟩ (by kernel_rfl) rfl
    (fun f fn hf hfn => by
      obtain rfl : f = 6 := Option.some.inj ((show Tryd.prog.funcNamed Rows.lineJoinRow.func = some 6 by kernel_rfl).symm.trans hf) |>.symm
      obtain rfl : fn = Tryd.f6 := (Option.some.inj (Tryd.func6.symm.trans hfn)).symm
      exact ⟨by kernel_rfl, fun j t ht => by
        rw [Tryd.params6] at ht
        have hm : t ∈ [9, 9] := by simpa using Array.mem_of_getElem? ht
        have hall : ([9, 9].all fun u => !Tryd.prog.wantsStandIn u) = true := by kernel_rfl
        exact (show Tryd.prog.wantsStandIn t = false by simpa using List.all_eq_true.1 hall t hm)⟩)
    (by kernel_rfl)
#print axioms lineJoin_card
end Go.Proofs.YthchjdegilhepaaDoor
