/- The texts of two logs, one behind the other, are the text of both; no conditions. -/
import Derived.Test.YtgbegdgacjodcaaDoorRows
import Derived.Test.YtgbegdgacjodcaaDoorCards
import Derived.Test.YtgbegdgacjodcaaDoorTie
import Derived.LaidMore
import Derived.Lay
import Derived.SevenTiedAt
import Derived.Stop.Joined
import Derived.ProofKit
import Derived.OpenShut
import Derived.ShutString
import Derived.ChangeOld
import Derived.Below
import Derived.SizedLaws
import Derived.Test.YtgbegdgacjodcaaDoorLoAwake
import Derived.Test.YtgbegdgacjodcaaDoorLoFit
import Derived.Test.YtgbegdgacjodcaaDoorLoOpen
namespace Go.Proofs.YtgbegdgacjodcaaDoor
open Go.ChangeShapes Go.WideShapes Go.ChangeAt Go.RowKit

theorem two_txt (xs ys : Rs) : (⟨(loL xs).toArray⟩ : ByteArray) ++ ⟨(loL ys).toArray⟩ = ⟨(loL (xs ++ ys)).toArray⟩ := of_bl (by
  rw [bl_app]
  show loL xs ++ loL ys = _
  rw [loL_app])

set_option maxRecDepth 20000 in
set_option maxHeartbeats 16000000 in
theorem logTwo_any (w : World) (xs : Rs) (ao : Option Addr) (acap : Nat) (ha : IsRs w xs ao acap) (ys : Rs) (bo : Option Addr) (bcap : Nat) (hb : IsRs w ys bo bcap) (hv : Vs w) :
    Calls Tryd.prog 5 #[.slice ao xs.length acap, .slice bo ys.length bcap] w fun e w' => e = .returned (.bool true) ∧ Q w w' := by
  obtain ⟨i0, hi, hz0, hz1, hz2⟩ := info_parts Tryd.infoR
  have ha40 : xs.length * 40 ≤ reachBytes := by have h1 := ha.s; have h2 := ha.n; omega
  have hb40 : ys.length * 40 ≤ reachBytes := by have h1 := hb.s; have h2 := hb.n; omega
  unfold reachBytes at ha40 hb40
  have HR1 := hide ha.r
  have HR2 := hide hb.r
  have HZ1 := hide ha.z
  have HZ2 := hide hb.z
  have HV := hide hv
  have HA := hide (loawake_any w hv)
  have HT1 := hide (fun u (q : Q w u) => loText_any xs ao acap u (hv.q q) (RowG.q HR1.out q) HZ1.out (by omega))
  have HT2 := hide (fun u (q : Q w u) => loText_any ys bo bcap u (hv.q q) (RowG.q HR2.out q) HZ2.out (by omega))
  clear ha hb hv
  cases h1 : loOk xs
  · obtain ⟨e1, e2⟩ := lo_no h1
    rw [e1, e2] at HT1
    have HE : Hid (∀ m, loE ys = m → True) := fun _ _ => trivial
    clear h1 e1 e2 HE
    generalize (⟨(loT ys).toArray⟩ : ByteArray) = y at HT2
    generalize loE ys = m at HT2
    go_enter Tryd.func5, Tryd.ntmps5
    go_wp2_with fail
    refine (unhide HA).mono ?_
    rintro e w1 ⟨rfl, q1⟩
    have HQ := hide q1
    clear q1
    go_wp2_with fail
    refine (unhide HT1 _ (unhide HQ)).mono ?_
    rintro e w2 ⟨rfl, q2⟩
    replace HQ := hide ((unhide HQ).trans q2)
    clear q2
    go_wp2_with fail
    refine (unhide HT2 _ (unhide HQ)).mono ?_
    rintro e w3 ⟨rfl, q3⟩
    replace HQ := hide ((unhide HQ).trans q3)
    clear q3
    go_wp2_with (go_at_call 8; refine (num_any _ _).mono ?_; rintro e w' ⟨rfl, hw'⟩; have hw2 := hw'.symm; clear hw'; subst hw2)
    go_ret
    exact ⟨rfl, unhide HQ⟩
  obtain ⟨e1, e2⟩ := lo_yes h1
  rw [e1, e2] at HT1
  have HS1 := hide (lo_fit h1)
  have HX1 := hide h1
  clear e1 e2 h1
  cases h2 : loOk ys
  · obtain ⟨e1, e2⟩ := lo_no h2
    rw [e1, e2] at HT2
    clear h2 e1 e2 HS1 HX1
    generalize (⟨(loL xs).toArray⟩ : ByteArray) = y at HT1
    go_enter Tryd.func5, Tryd.ntmps5
    go_wp2_with fail
    refine (unhide HA).mono ?_
    rintro e w1 ⟨rfl, q1⟩
    have HQ := hide q1
    clear q1
    go_wp2_with fail
    refine (unhide HT1 _ (unhide HQ)).mono ?_
    rintro e w2 ⟨rfl, q2⟩
    replace HQ := hide ((unhide HQ).trans q2)
    clear q2
    go_wp2_with fail
    refine (unhide HT2 _ (unhide HQ)).mono ?_
    rintro e w3 ⟨rfl, q3⟩
    replace HQ := hide ((unhide HQ).trans q3)
    clear q3
    go_wp2_with (go_at_call 8; refine (num_any _ _).mono ?_; rintro e w' ⟨rfl, hw'⟩; have hw2 := hw'.symm; clear hw'; subst hw2)
    go_ret
    exact ⟨rfl, unhide HQ⟩
  obtain ⟨e1, e2⟩ := lo_yes h2
  rw [e1, e2] at HT2
  have HS2 := hide (lo_fit h2)
  have HX2 := hide h2
  clear e1 e2 h2
  have hsum : IntKind.i64.wrap ((xs.length : Int) + (ys.length : Int)) = (xs.length : Int) + (ys.length : Int) := by rw [IntKind.wrap_i64]; omega
  by_cases h3 : xs.length + ys.length ≤ 256
  · have h3' : (xs.length : Int) + (ys.length : Int) ≤ 256 := by omega
    have hok := lo_app HX1.out HX2.out h3
    have HN : Hid ((xs ++ ys).length = xs.length + ys.length) := List.length_append
    have HT3 := hide (fun u co cc (hv : Vs u) (hr : RowR u co (xs ++ ys)) => loText_any (xs ++ ys) co cc u hv hr (rsz_app HZ1.out HZ2.out) (by rw [List.length_append]; omega))
    rw [(lo_yes hok).1, (lo_yes hok).2, ← two_txt, unhide HN] at HT3
    have HLT : Hid (ldL (bl ((⟨(loL xs).toArray⟩ : ByteArray) ++ ⟨(loL ys).toArray⟩)) = xs ++ ys) := by
      show _ = _
      rw [two_txt]
      exact ldL_text hok
    have z1 : (⟨(loL xs).toArray⟩ : ByteArray).size ≤ 537600 := by rw [mk_size']; exact HS1.out
    have z2 : (⟨(loL ys).toArray⟩ : ByteArray).size ≤ 537600 := by rw [mk_size']; exact HS2.out
    clear hok HS1 HS2
    generalize (⟨(loL xs).toArray⟩ : ByteArray) = tx at *
    generalize (⟨(loL ys).toArray⟩ : ByteArray) = ty at *
    have HLD := hide (fun u (hv : Vs u) => loLoad_any (tx ++ ty) u hv (by have h := bl_size (tx ++ ty); rw [bl_app, List.length_append, bl_size, bl_size] at h; omega))
    rw [unhide HLT, unhide HN] at HLD
    have HSM := hide (fun u (po qo : Option Addr) (pc qc : Nat) (h1 : RowR u po (xs ++ ys)) (h2 : RowR u qo (xs ++ ys)) => sameR_any po qo pc qc (xs ++ ys) (xs ++ ys) u h1 h2 (by rw [List.length_append]; unfold maxLen; omega))
    rw [decide_eq_true (rfl : xs ++ ys = xs ++ ys), unhide HN] at HSM
    have e5 : ((tx ++ ty).toList == (tx ++ ty).toList) = true := by simp
    clear HLT HN HX1 HX2
    go_enter Tryd.func5, Tryd.ntmps5
    go_wp2_with fail
    refine (unhide HA).mono ?_
    rintro e w1 ⟨rfl, q1⟩
    have HQ := hide q1
    clear q1
    go_wp2_with fail
    refine (unhide HT1 _ (unhide HQ)).mono ?_
    rintro e w2 ⟨rfl, q2⟩
    replace HQ := hide ((unhide HQ).trans q2)
    clear q2
    go_wp2_with fail
    refine (unhide HT2 _ (unhide HQ)).mono ?_
    rintro e w3 ⟨rfl, q3⟩
    replace HQ := hide ((unhide HQ).trans q3)
    clear q3
    have HQ0 := HQ
    go_wp2_with (first
      | (go_at_call 8; refine (num_any _ _).mono ?_; rintro e w' ⟨rfl, hw'⟩; have hw2 := hw'.symm; clear hw'; subst hw2)
      | (at_builtin; refine wpList_append_row rfl _ _ 22 rfl w3.heap.size 33 i0 (.agg #[.string ByteArray.empty, .int .i64 0, .string ByteArray.empty]) 3 40 Tryd.underlying22 hi hz0 hz1 hz2 rfl (by decide) (some ⟨w3.heap.size, 0, none⟩) 0 0 [] rfl (World.ownsRow_made w3 #[] 0 (Nat.le_refl _) (by unfold maxLen; omega) rfl) ao xs.length acap (lay rv xs) rfl (SrcRow.row rv_len (by decide) (RowG.q HR1.out ((unhide HQ0).alloc _))) (one_layR xs) (by unfold maxLen; omega) (by omega) (le_alloc (Nat.le_refl _) _) ?_))
    intro ao4 cap4 w4 hown4 hgrow4
    have hq4 : Q w3 w4 := Below.grown ((Q.refl w3).alloc _) hgrow4 (le_alloc (Nat.le_refl _) _) (fun r hr => by cases hr; exact Nat.le_refl _)
    have own4 : OwnR w4 w3.heap.size ao4 cap4 xs := by simpa using hown4
    have HO4 := hide own4
    have HQ4 := hide hq4
    clear hown4 hgrow4 own4 hq4
    go_wp2_with (at_builtin; refine wpList_append_row rfl _ _ 22 rfl w3.heap.size 33 i0 (.agg #[.string ByteArray.empty, .int .i64 0, .string ByteArray.empty]) 3 40 Tryd.underlying22 hi hz0 hz1 hz2 rfl (by decide) ao4 xs.length cap4 (lay rv xs) rfl HO4.out bo ys.length bcap (lay rv ys) rfl (SrcRow.row rv_len (by decide) (RowG.q HR2.out ((unhide HQ0).trans (unhide HQ4)))) (one_layR ys) (by unfold maxLen; omega) (by omega) (unhide HQ4).size ?_)
    intro ao5 cap5 w5 hown5 hgrow5
    have HQ5 : Hid (Q w3 w5) := Below.grown (unhide HQ4) hgrow5 (unhide HQ4).size (fun r hr => (HO4.out.lt r hr).1)
    have HR5 : Hid (RowR w5 ao5 (xs ++ ys)) := OwnR.row (B := w3.heap.size) (cap := cap5) (by
      show World.ownsRow _ _ _ _ (.slice _ (xs ++ ys).length _) (xs ++ ys).length (lay rv (xs ++ ys))
      rw [lay_app, List.length_append]; exact hown5)
    replace HQ := hide ((unhide HQ).trans (unhide HQ5))
    clear hown5 hgrow5 HO4 HQ4 HQ5 HQ0
    go_wp2_with fail
    refine (unhide HT3 _ _ _ (HV.out.q (unhide HQ)) HR5.out).mono ?_
    rintro e w6 ⟨rfl, q6⟩
    replace HQ := hide ((unhide HQ).trans q6)
    replace HR5 := hide (RowG.q (unhide HR5) q6)
    clear q6
    go_wp2_with (go_at_call 8; refine (num_any _ _).mono ?_; rintro e w' ⟨rfl, hw'⟩; have hw2 := hw'.symm; clear hw'; subst hw2)
    refine (unhide HLD _ (HV.out.q (unhide HQ))).mono ?_
    rintro e w7 ⟨lo, lc, rfl, ownl, q7⟩
    replace HQ := hide ((unhide HQ).trans q7)
    replace HR5 := hide (RowG.q (unhide HR5) q7)
    have HRL := hide (OwnR.row ownl)
    clear q7 ownl
    go_wp2_with fail
    refine (unhide HSM _ _ _ _ _ HRL.out HR5.out).mono ?_
    rintro e w8 ⟨rfl, q8⟩
    go_wp2_with fail
    go_ret
    exact ⟨rfl, (unhide HQ).trans q8⟩
  · have h3' : 256 < (xs.length : Int) + (ys.length : Int) := by omega
    clear h3 HS1 HS2 HX1 HX2
    generalize (⟨(loL xs).toArray⟩ : ByteArray) = tx at *
    generalize (⟨(loL ys).toArray⟩ : ByteArray) = ty at *
    go_enter Tryd.func5, Tryd.ntmps5
    go_wp2_with fail
    refine (unhide HA).mono ?_
    rintro e w1 ⟨rfl, q1⟩
    have HQ := hide q1
    clear q1
    go_wp2_with fail
    refine (unhide HT1 _ (unhide HQ)).mono ?_
    rintro e w2 ⟨rfl, q2⟩
    replace HQ := hide ((unhide HQ).trans q2)
    clear q2
    go_wp2_with fail
    refine (unhide HT2 _ (unhide HQ)).mono ?_
    rintro e w3 ⟨rfl, q3⟩
    replace HQ := hide ((unhide HQ).trans q3)
    clear q3
    go_wp2_with (go_at_call 8; refine (num_any _ _).mono ?_; rintro e w' ⟨rfl, hw'⟩; have hw2 := hw'.symm; clear hw'; subst hw2)
    go_ret
    exact ⟨rfl, unhide HQ⟩

theorem Tryd.laidOut : laidOutB Tryd.prog = true := by kernel_rfl
set_option maxRecDepth 100000 in
theorem logTwo_lifted (os : Os) (started : os.Started) (H : Type) (enc : TypeId × Value → H) :
    ReturnsInHanded {} Tryd.checked os 5 .any (fun w args => (Rows.logTwoSpec.pre enc Tryd.prog Tryd.f5 [] false w args ∧ laidMetH Tryd.prog Rows.logTwoRow.laid w) ∧ sizedMet enc Tryd.prog Tryd.f5 (OpenSpec.ofChange Rows.logTwoSpec) false w args) (Rows.logTwoSpec.post enc Tryd.prog Tryd.f5 false true false false) := by
  refine returnsInHanded_of_change_and (C := Tryd.checked) (X := fun w _ => laidMetH Tryd.prog Rows.logTwoRow.laid w) (fun _ _ _ hh h => h.of_heap hh) Tryd.own started (by kernel_rfl) Tryd.func5
    (ChangeSpec.witness_shaped (enc := enc) (C := Tryd.checked) (os := os) (X := fun w _ => laidMetH Tryd.prog Rows.logTwoRow.laid w) false (World.laidAll Tryd.prog os Rows.logTwoRow.laid) #[.slice none 0 0, .slice none 0 0] 8 (World.laidAll_os _ _ _)
      (World.shaped_of_ZipB (by kernel_rfl) (by kernel_rfl)) (by kernel_rfl) (by kernel_rfl) (by kernel_rfl)
      (by rw [MakeChecks.laidMetH_plain _ _ _ (by kernel_rfl)]; exact laidMet_laidAll _ (by kernel_rfl) (by kernel_rfl))) ?_
  intro W base args ds gs before hval0 hW _ hsz0 hL _
  have hval : ∀ (j : Nat) t v, Tryd.f5.params[j]? = some t → args[j]? = some v → Value.okWide Tryd.prog W .any base t v := hval0
  have hW' := hW
  obtain ⟨p, q, hA0, hV, rfl, hfz, hnd⟩ := hW
  have hA : DataW.TrodAll enc Tryd.prog W 0 (fun _ => true) true Tryd.f5.params.toList args.toList ds p := hA0
  rw [Tryd.params5] at hA hval
  rw [Tryd.params5] at hsz0
  obtain ⟨v0, vs0, d0, ds0, p0, q0, hargs, rfl, rfl, h0, r0⟩ := trodAll_cons hA
  obtain ⟨v1, vs1, d1, ds1, p1, q1, rfl, rfl, rfl, h1, r1⟩ := trodAll_cons r0
  obtain ⟨rfl, rfl, rfl⟩ := trodAll_nil r1
  obtain rfl : args = #[v0, v1] := by cases args; simp_all
  obtain ⟨rfl, rfl⟩ := trodVars_none hV
  have k0 := h0
  have lt0 : ∀ x ∈ p0, x.block < W.heap.size := by obtain ⟨m, hm⟩ := k0; exact DataW.trod_lt m _ _ _ hm
  obtain ⟨n0, hn0⟩ := h0
  obtain ⟨x0, y0, z0, rfl⟩ := okWide_slice Tryd.underlying22 (hval 0 22 v0 rfl rfl)
  obtain ⟨a0, cap0, rs0, he0, w0⟩ := Tryd.is_recs (c := .slice x0 y0 z0) (y := (d0, p0)) hn0 (fun m (hm : m ∈ DataW.weights Tryd.prog 22 d0) => by simpa using List.all_eq_true.1 hsz0 m (DataW.weights_mem_each (j := 0) (t := 22) rfl rfl m hm))
  injection he0 with f0 f100 f200
  subst f0 f100 f200
  have k1 := h1
  have lt1 : ∀ x ∈ p1, x.block < W.heap.size := by obtain ⟨m, hm⟩ := k1; exact DataW.trod_lt m _ _ _ hm
  obtain ⟨n1, hn1⟩ := h1
  obtain ⟨x1, y1, z1, rfl⟩ := okWide_slice Tryd.underlying22 (hval 1 22 v1 rfl rfl)
  obtain ⟨a1, cap1, rs1, he1, w1⟩ := Tryd.is_recs (c := .slice x1 y1 z1) (y := (d1, p1)) hn1 (fun m (hm : m ∈ DataW.weights Tryd.prog 22 d1) => by simpa using List.all_eq_true.1 hsz0 m (DataW.weights_mem_each (j := 1) (t := 22) rfl rfl m hm))
  injection he1 with f1 f101 f201
  subst f1 f101 f201
  clear hA0 hval0
  refine (logTwo_any W rs0 x0 z0 w0 rs1 x1 z1 w1 (vs_of_laid (laid := Rows.logTwoRow.laid) (by kernel_rfl) (by kernel_rfl) (by kernel_rfl) hL)).mono fun e W' ⟨he, bel⟩ => ?_
  subst he
  exact ⟨_, rfl, _, _, _, [], _, [], hW', trodAll_mk1 (shut_bool Tryd.underlying4 _), (trodAll_cons_mk (Below.trod Tryd.laidOut (by kernel_rfl) (of_decide_eq_true (by kernel_rfl)) k0 bel lt0) (trodAll_cons_mk (Below.trod Tryd.laidOut (by kernel_rfl) (of_decide_eq_true (by kernel_rfl)) k1 bel lt1) trodAll_mk0)), rfl, bel.frame _, fun h => by cases h⟩

theorem logTwo_holds : Rows.LogTwoSaid :=
  OpenClaim.holds_of_wide 5 Tryd.f5 rfl rfl rfl rfl rfl rfl rfl ⟨rfl, rfl, rfl, rfl, rfl⟩ rfl rfl rfl rfl rfl (by kernel_rfl) Tryd.func5 (by kernel_rfl)
    (of_decide_eq_true (by kernel_rfl)) (by unfold Func.isWrapper; first | (rw [if_pos (by decide +kernel)]; kernel_rfl) | (rw [if_neg (by decide +kernel)]; exact ⟨rfl, rfl⟩))
    (fun os started H enc _ => logTwo_lifted os started H enc)
theorem logTwo_card : Rows.LogTwoCardSaid :=
  Claim7.holds_tied_plain_at .later [] [.data, .data, .data, .data, .sentinel, .sentinel, .pinned] true (true, "ccc20aa36e42e557f1d7cf2c5106c05d03d6dcfa28120e4e77c31c16c3dd47bd") true logTwo_holds (fun _ h => by cases h) (by kernel_rfl) (fun _ h => by cases h) logTwo_row_tie rfl ⟨rfl, rfl⟩ (by kernel_rfl) rfl
    (fun f fn hf hfn => by
      obtain rfl : f = 5 := Option.some.inj ((show Tryd.prog.funcNamed Rows.logTwoRow.func = some 5 by kernel_rfl).symm.trans hf) |>.symm
      obtain rfl : fn = Tryd.f5 := (Option.some.inj (Tryd.func5.symm.trans hfn)).symm
      exact ⟨by kernel_rfl, fun j t ht => by
        rw [Tryd.params5] at ht
        have hm : t ∈ [22, 22] := by simpa using Array.mem_of_getElem? ht
        have hall : ([22, 22].all fun u => !Tryd.prog.wantsStandIn u) = true := by kernel_rfl
        exact (show Tryd.prog.wantsStandIn t = false by simpa using List.all_eq_true.1 hall t hm)⟩)
    (by kernel_rfl)
#print axioms logTwo_card

end Go.Proofs.YtgbegdgacjodcaaDoor
