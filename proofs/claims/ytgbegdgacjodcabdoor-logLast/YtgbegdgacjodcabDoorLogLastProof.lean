/- A record more is the last one of its output, and leaves the others'; no conditions. -/
import Derived.Test.YtgbegdgacjodcabDoorRows
import Derived.Test.YtgbegdgacjodcabDoorCards
import Derived.Test.YtgbegdgacjodcabDoorTie
import Derived.LaidMore
import Derived.Lay
import Derived.SevenTiedAt
import Derived.Stop.Joined
import Derived.ProofKit
import Derived.OpenShut
import Derived.ShutString
import Derived.ChangeOld
import Derived.Below
import Derived.SizedLaws
import Derived.Test.YtgbegdgacjodcabDoorLoAwake
import Derived.Test.YtgbegdgacjodcabDoorLoFit
import Derived.Test.YtgbegdgacjodcabDoorLoOpen
namespace Go.Proofs.YtgbegdgacjodcabDoor
open Go.ChangeShapes Go.WideShapes Go.ChangeAt Go.RowKit
open Go.ChangeMaps (open_string shut_string)

theorem lav_snoc {rs : Rs} {r : Rc} {n : Tx} (h : loOk (rs ++ [r]) = true) : ((r.1 == n) = true ∧ laV (rs ++ [r]) n = r ∧ laB (rs ++ [r]) n = true) ∨ ((r.1 == n) = false ∧ laV (rs ++ [r]) n = laV rs n ∧ laB (rs ++ [r]) n = laB rs n) := by
  unfold laV laB
  rw [la_snoc h]
  cases (r.1 == n)
  · exact Or.inr ⟨rfl, rfl, rfl⟩
  · exact Or.inl ⟨rfl, rfl, rfl⟩

set_option maxRecDepth 20000 in
set_option maxHeartbeats 16000000 in
theorem logLast_any (w : World) (rs : Rs) (ao : Option Addr) (cap : Nat) (hd : IsRs w rs ao cap) (r : Rc) (hz : RcZ r) (n : ByteArray) (_ : n.size ≤ maxLen) (hv : Vs w) :
    Calls Tryd.prog 3 #[.slice ao rs.length cap, rcV r, .string n] w fun e w' => e = .returned (.bool true) ∧ Q w w' := by
  have heq := eqR
  have hgd := Tryd.guardR
  obtain ⟨i0, hi, hz0, hz1, hz2⟩ := info_parts Tryd.infoR
  have HR := hide hd.r
  have h40 : (rs.length + 2) * 40 ≤ 140737488355328 := by have h1 := hd.s; have h2 := hd.n; unfold reachBytes at h1; omega
  have HZ := hide hd.z
  have HZM := hide (rsz_app hd.z (fun x hx => by rw [List.mem_singleton.1 hx]; exact hz) : RsZ (rs ++ [r]))
  have HV := hide hv
  have HA := hide (fun u (q : Q w u) => loawake_any u (hv.q q))
  have HL1 := hide (fun u (q : Q w u) => loLast_any rs n ao cap u (RowG.q HR.out q) HZ.out (by omega))
  have HL2 := hide (fun u bo bc (hr : RowR u bo (rs ++ [r])) => loLast_any (rs ++ [r]) n bo bc u hr HZM.out (by rw [List.length_append]; show rs.length + 1 ≤ _; omega))
  have HM2 := hide (fun u bo bc (hr : RowR u bo (rs ++ [r])) => loMay_any (rs ++ [r]) bo bc u hr HZM.out (by rw [List.length_append]; show rs.length + 1 ≤ _; omega))
  rw [show (rs ++ [r]).length = rs.length + 1 by rw [List.length_append]; rfl] at HL2 HM2
  have HSN := hide (fun h => lav_snoc (rs := rs) (r := r) (n := bl n) h)
  have HNO := hide (fun h => lav_no (la_no (rs := rs ++ [r]) (n := bl n) h))
  have HTB := hide (txt_beq r.1 n)
  have HRV : Hid (rv r = [.string ⟨r.1.toArray⟩, .int .i64 r.2.1, .string ⟨r.2.2.toArray⟩]) := rfl
  have HONE := hide (one_rv r)
  rw [unhide HRV] at HONE
  have HSO : Hid (∀ (B : Nat) (w3 : World) (g3 : Nat) (cp3 : Nat), w3.ownsRow B 24 3 (.slice (some ⟨g3, 0, none⟩) (rs.length + 1) cp3) (rs.length + 1) (lay rv rs ++ rv r) → RowR w3 (some ⟨g3, 0, none⟩) (rs ++ [r])) := fun B w3 g3 cp3 h => OwnR.row (OwnR.snoc h)
  rw [unhide HRV] at HSO
  clear hd hz hv HRV HZ HZM
  obtain ⟨v2, hv2⟩ : ∃ y, loOk (rs ++ [r]) = y := ⟨_, rfl⟩
  rw [hv2] at HM2 HSN HNO
  clear hv2
  generalize laV (rs ++ [r]) (bl n) = Y at HL2 HSN HNO
  generalize laB (rs ++ [r]) (bl n) = vy at HL2 HSN HNO
  generalize laV rs (bl n) = X at HL1 HSN
  generalize laB rs (bl n) = vx at HL1 HSN
  have HYR : Hid (∀ z : Rc, Y = z → (⟨Y.1.toArray⟩ : ByteArray) = ⟨z.1.toArray⟩ ∧ Y.2.1 = z.2.1 ∧ (⟨Y.2.2.toArray⟩ : ByteArray) = ⟨z.2.2.toArray⟩) := fun z h => by rw [h]; exact ⟨rfl, rfl, rfl⟩
  have hyr := unhide HYR r
  have hyx := unhide HYR X
  have hyz := unhide HYR ([], 0, [])
  dsimp only at hyz
  clear HYR
  generalize (r.1 == bl n) = vn at HSN HTB
  unfold rcV at *
  generalize (⟨r.1.toArray⟩ : ByteArray) = x1 at *
  generalize (⟨r.2.2.toArray⟩ : ByteArray) = x3 at *
  generalize hx2 : r.2.1 = x2 at *
  clear hx2
  generalize (⟨X.1.toArray⟩ : ByteArray) = y1 at *
  generalize (⟨X.2.2.toArray⟩ : ByteArray) = y3 at *
  generalize hy2 : X.2.1 = y2 at *
  clear hy2
  generalize (⟨Y.1.toArray⟩ : ByteArray) = z1 at *
  generalize (⟨Y.2.2.toArray⟩ : ByteArray) = z3 at *
  generalize hz2' : Y.2.1 = z2 at *
  clear hz2'
  have HYR := hide hyr
  have HYX := hide hyx
  have HYZ := hide hyz
  clear hyr hyx hyz
  have HB0 := hide (bxR_b w x1 x2 x3)
  have HQ := hide (bxR_q w x1 x2 x3)
  have HQ0 := hide (Q.refl (bxR w x1 x2 x3))
  unfold bxR at HB0 HQ HQ0
  go_enter Tryd.func3, Tryd.ntmps3
  go_wp2_with fail
  generalize w.alloc (.cells #[.string x1, .int .i64 x2, .string x3] 24) = v0 at *
  generalize hN0 : w.heap.size = N0 at *
  refine (unhide HA _ (unhide HQ)).mono ?_
  rintro e w1 ⟨rfl, q1⟩
  replace HQ := hide ((unhide HQ).trans q1)
  replace HQ0 := hide ((unhide HQ0).trans q1)
  clear q1
  go_wp2_with fail
  refine (unhide HL1 _ (unhide HQ)).mono ?_
  rintro e w2 ⟨rfl, q2⟩
  have HB2 := hide (bxR_b w2 y1 y2 y3)
  replace HQ := hide ((unhide HQ).trans (q2.trans (bxR_q w2 y1 y2 y3)))
  replace HQ0 := hide ((unhide HQ0).trans (q2.trans (bxR_q w2 y1 y2 y3)))
  have HQ2 := hide (Q.refl (bxR w2 y1 y2 y3))
  have HS2 : Hid ((bxR w2 y1 y2 y3).heap.size = w2.heap.size + 1) := size_alloc _ _
  have HRR := hide (RowG.q HR.out (unhide HQ))
  unfold bxR at HB2 HQ HQ0 HQ2 HS2 HRR
  clear q2
  go_upto_region 4 with fail
  generalize w2.alloc (.cells #[.string y1, .int .i64 y2, .string y3] 24) = v3 at *
  go_wp2_with (at_builtin; refine wpList_append_row rfl _ _ 22 rfl v3.heap.size 24 i0 (.agg #[.string ByteArray.empty, .int .i64 0, .string ByteArray.empty]) 3 40 Tryd.underlying22 hi hz0 hz1 hz2 rfl (by decide) (some ⟨v3.heap.size, 0, none⟩) 0 0 [] rfl (World.ownsRow_made v3 #[] 0 (Nat.le_refl _) (by unfold maxLen; omega) rfl) ao rs.length cap (lay rv rs) rfl (SrcRow.row rv_len (by decide) (RowG.q (unhide HRR) ((Q.refl _).alloc _))) (one_layR rs) (by unfold maxLen; omega) (by omega) (le_alloc (Nat.le_refl _) _) ?_)
  intro ao4 cap4 w4 hown4 hgrow4
  have hq4 : Q v3 w4 := Below.grown ((Q.refl v3).alloc _) hgrow4 (le_alloc (Nat.le_refl _) _) (fun r hr => by cases hr; exact Nat.le_refl _)
  have own4 : OwnR w4 v3.heap.size ao4 cap4 rs := by simpa using hown4
  have HO4 := hide own4
  have HQ4 := hide hq4
  clear hown4 hgrow4 own4 hq4
  have hb := (unhide HB0).q ((unhide HQ0).trans (unhide HQ4))
  have c0 := hb.cell 0 rfl
  have c1 := hb.cell 1 rfl
  have c2 := hb.cell 2 rfl
  have hB4 := (unhide HQ4).size
  clear hb
  go_wp2_with (at_builtin; refine wpList_append_lies _ rfl _ _ 22 rfl v3.heap.size 24 i0 _ 3 40 Tryd.underlying22 hi hz0 hz1 hz2 rfl (by decide) _ rs.length (lay rv rs) rfl ((unhide HO4).alloc _) ⟨w4.heap.size, 0, none⟩ 1 1 [.string x1, .int .i64 x2, .string x3] rfl rfl (news_new w4 #[.string x1, .int .i64 x2, .string x3] _) (unhide HONE) (by decide) (by unfold maxLen; omega) (by omega) (le_alloc hB4 _) (w4.heap.size + 1) (size_alloc _ _) ?_)
  intro g5 cp5 w5 hown5 hgrow5 hor5 hlt5
  have HQ5 : Hid (Q v3 w5) := Below.grown ((unhide HQ4).alloc _) hgrow5 (le_alloc (unhide HQ4).size _) (fun r hr => ((unhide HO4).lt r hr).1)
  have HR5 := hide (unhide HSO _ _ _ _ hown5)
  clear hown5 hgrow5 hor5 c0 c1 c2 HO4 HQ4 HSO HONE
  go_wp2_with fail
  refine (unhide HL2 _ _ _ HR5.out).mono ?_
  rintro e w6 ⟨rfl, q6⟩
  have HB6 := hide (bxR_b w6 z1 z2 z3)
  have HQ6 := hide (Q.refl (bxR w6 z1 z2 z3))
  replace HQ5 := hide ((unhide HQ5).trans (q6.trans (bxR_q w6 z1 z2 z3)))
  replace HR5 := hide (RowG.q (unhide HR5) (q6.trans (bxR_q w6 z1 z2 z3)))
  unfold bxR at HB6 HQ6 HQ5 HR5
  clear q6
  go_wp2_with fail
  generalize w6.alloc (.cells #[.string z1, .int .i64 z2, .string z3] 24) = v6 at *
  refine (unhide HM2 _ _ _ HR5.out).mono ?_
  rintro e w7 ⟨rfl, q7⟩
  have k0 := (unhide HB0).q ((unhide HQ0).trans ((unhide HQ5).trans q7))
  have k2 := (unhide HB2).q ((unhide HQ2).trans ((unhide HQ5).trans q7))
  have k6 := (unhide HB6).q q7
  have HQE := hide ((unhide HQ).trans ((unhide HQ5).trans q7))
  clear q7 HB0 HB2 HB6 HQ HQ0 HQ2 HQ5 HQ6 HR5 HL1 HL2 HM2 HA HRR
  have a0 := k0.cell 0 rfl
  have a1 := k0.cell 1 rfl
  have a2 := k0.cell 2 rfl
  have b0 := k2.cell 0 rfl
  have b1 := k2.cell 1 rfl
  have b2 := k2.cell 2 rfl
  have d0 := k6.cell 0 rfl
  have d1 := k6.cell 1 rfl
  have d2 := k6.cell 2 rfl
  clear k0 k2 k6
  generalize w2.heap.size = N2 at *
  generalize w6.heap.size = N6 at *
  have s1 : (x1.toList == x1.toList) = true := by simp
  have s3 : (x3.toList == x3.toList) = true := by simp
  have t1 : (y1.toList == y1.toList) = true := by simp
  have t3 : (y3.toList == y3.toList) = true := by simp
  have u1 : (vx == vx) = true := by simp
  cases v2
  · obtain ⟨hY, rfl⟩ := unhide HNO rfl
    obtain ⟨rfl, rfl, rfl⟩ := unhide HYZ hY
    clear hY HSN HNO HYR HYX HYZ HTB
    go_wp2_with fail
    go_ret
    exact ⟨rfl, unhide HQE⟩
  · rcases unhide HSN rfl with ⟨rfl, hY, rfl⟩ | ⟨rfl, hY, rfl⟩
    · obtain ⟨rfl, rfl, rfl⟩ := unhide HYR hY
      have hx := unhide HTB
      clear hY HSN HNO HYR HYX HYZ HTB
      go_wp2_with fail
      go_ret
      exact ⟨rfl, unhide HQE⟩
    · obtain ⟨rfl, rfl, rfl⟩ := unhide HYX hY
      have hx := unhide HTB
      clear hY HSN HNO HYR HYX HYZ HTB
      go_wp2_with fail
      go_ret
      exact ⟨rfl, unhide HQE⟩

theorem Tryd.laidOut : laidOutB Tryd.prog = true := by kernel_rfl
set_option maxRecDepth 100000 in
theorem logLast_lifted (os : Os) (started : os.Started) (H : Type) (enc : TypeId × Value → H) :
    ReturnsInHanded {} Tryd.checked os 3 .any (fun w args => (Rows.logLastSpec.pre enc Tryd.prog Tryd.f3 [] false w args ∧ laidMetH Tryd.prog Rows.logLastRow.laid w) ∧ sizedMet enc Tryd.prog Tryd.f3 (OpenSpec.ofChange Rows.logLastSpec) false w args) (Rows.logLastSpec.post enc Tryd.prog Tryd.f3 false true false false) := by
  refine returnsInHanded_of_change_and (C := Tryd.checked) (X := fun w _ => laidMetH Tryd.prog Rows.logLastRow.laid w) (fun _ _ _ hh h => h.of_heap hh) Tryd.own started (by kernel_rfl) Tryd.func3
    (ChangeSpec.witness_shaped (enc := enc) (C := Tryd.checked) (os := os) (X := fun w _ => laidMetH Tryd.prog Rows.logLastRow.laid w) false (World.laidAll Tryd.prog os Rows.logLastRow.laid) #[.slice none 0 0, .agg #[.string ByteArray.empty, .int .i64 0, .string ByteArray.empty], .string ByteArray.empty] 8 (World.laidAll_os _ _ _)
      (World.shaped_of_ZipB (by kernel_rfl) (by kernel_rfl)) (by kernel_rfl) (by kernel_rfl) (by kernel_rfl)
      (by rw [MakeChecks.laidMetH_plain _ _ _ (by kernel_rfl)]; exact laidMet_laidAll _ (by kernel_rfl) (by kernel_rfl))) ?_
  intro W base args ds gs before hval0 hW _ hsz0 hL _
  have hval : ∀ (j : Nat) t v, Tryd.f3.params[j]? = some t → args[j]? = some v → Value.okWide Tryd.prog W .any base t v := hval0
  have hW' := hW
  obtain ⟨p, q, hA0, hV, rfl, hfz, hnd⟩ := hW
  have hA : DataW.TrodAll enc Tryd.prog W 0 (fun _ => true) true Tryd.f3.params.toList args.toList ds p := hA0
  rw [Tryd.params3] at hA hval
  rw [Tryd.params3] at hsz0
  obtain ⟨v0, vs0, d0, ds0, p0, q0, hargs, rfl, rfl, h0, r0⟩ := trodAll_cons hA
  obtain ⟨v1, vs1, d1, ds1, p1, q1, rfl, rfl, rfl, h1, r1⟩ := trodAll_cons r0
  obtain ⟨v2, vs2, d2, ds2, p2, q2, rfl, rfl, rfl, h2, r2⟩ := trodAll_cons r1
  obtain ⟨rfl, rfl, rfl⟩ := trodAll_nil r2
  obtain rfl : args = #[v0, v1, v2] := by cases args; simp_all
  obtain ⟨rfl, rfl⟩ := trodVars_none hV
  have k0 := h0
  have lt0 : ∀ x ∈ p0, x.block < W.heap.size := by obtain ⟨m, hm⟩ := k0; exact DataW.trod_lt m _ _ _ hm
  obtain ⟨n0, hn0⟩ := h0
  obtain ⟨x0, y0, z0, rfl⟩ := okWide_slice Tryd.underlying22 (hval 0 22 v0 rfl rfl)
  obtain ⟨a0, cap0, rs0, he0, w0⟩ := Tryd.is_recs (c := .slice x0 y0 z0) (y := (d0, p0)) hn0 (fun m (hm : m ∈ DataW.weights Tryd.prog 22 d0) => by simpa using List.all_eq_true.1 hsz0 m (DataW.weights_mem_each (j := 0) (t := 22) rfl rfl m hm))
  injection he0 with f0 f100 f200
  subst f0 f100 f200
  have k1 := h1
  have lt1 : ∀ x ∈ p1, x.block < W.heap.size := by obtain ⟨m, hm⟩ := k1; exact DataW.trod_lt m _ _ _ hm
  obtain ⟨r1', rfl, w1⟩ := Tryd.is_rec (hval 1 24 v1 rfl rfl) h1
  obtain ⟨a2, rfl, rfl, rfl, w2⟩ := open_string Tryd.underlying9 (hval 2 9 v2 rfl rfl) h2
  clear hA0 hval0
  refine (logLast_any W rs0 x0 z0 w0 r1' w1 a2 w2 (vs_of_laid (laid := Rows.logLastRow.laid) (by kernel_rfl) (by kernel_rfl) (by kernel_rfl) hL)).mono fun e W' ⟨he, bel⟩ => ?_
  subst he
  exact ⟨_, rfl, _, _, _, [], _, [], hW', trodAll_mk1 (shut_bool Tryd.underlying4 _), (trodAll_cons_mk (Below.trod Tryd.laidOut (by kernel_rfl) (of_decide_eq_true (by kernel_rfl)) k0 bel lt0) (trodAll_cons_mk (Below.trod Tryd.laidOut (by kernel_rfl) (of_decide_eq_true (by kernel_rfl)) k1 bel lt1) (trodAll_cons_mk (shut_string Tryd.underlying9 w2) trodAll_mk0))), rfl, bel.frame _, fun h => by cases h⟩

theorem logLast_holds : Rows.LogLastSaid :=
  OpenClaim.holds_of_wide 3 Tryd.f3 rfl rfl rfl rfl rfl rfl rfl ⟨rfl, rfl, rfl, rfl, rfl⟩ rfl rfl rfl rfl rfl (by kernel_rfl) Tryd.func3 (by kernel_rfl)
    (of_decide_eq_true (by kernel_rfl)) (by unfold Func.isWrapper; first | (rw [if_pos (by decide +kernel)]; kernel_rfl) | (rw [if_neg (by decide +kernel)]; exact ⟨rfl, rfl⟩))
    (fun os started H enc _ => logLast_lifted os started H enc)
theorem logLast_card : Rows.LogLastCardSaid :=
  Claim7.holds_tied_plain_at .later [] [.data, .data, .data, .data, .sentinel, .sentinel, .pinned] true (true, "24e60f6f5039ff5b6a9b2c6abd0a24dc39ea0c97356618e69ae056e6fdc7bf21") true logLast_holds (fun _ h => by cases h) (by kernel_rfl) (fun _ h => by cases h) logLast_row_tie rfl ⟨rfl, rfl⟩ (by kernel_rfl) rfl
    (fun f fn hf hfn => by
      obtain rfl : f = 3 := Option.some.inj ((show Tryd.prog.funcNamed Rows.logLastRow.func = some 3 by kernel_rfl).symm.trans hf) |>.symm
      obtain rfl : fn = Tryd.f3 := (Option.some.inj (Tryd.func3.symm.trans hfn)).symm
      exact ⟨by kernel_rfl, fun j t ht => by
        rw [Tryd.params3] at ht
        have hm : t ∈ [22, 24, 9] := by simpa using Array.mem_of_getElem? ht
        have hall : ([22, 24, 9].all fun u => !Tryd.prog.wantsStandIn u) = true := by kernel_rfl
        exact (show Tryd.prog.wantsStandIn t = false by simpa using List.all_eq_true.1 hall t hm)⟩)
    (by kernel_rfl)
#print axioms logLast_card

end Go.Proofs.YtgbegdgacjodcabDoor
