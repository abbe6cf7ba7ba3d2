/- Compacted, each output has its last record, and no other one; no conditions. -/
import Derived.Test.YtgbegdgacjodcaaGreatDoorRows
import Derived.Test.YtgbegdgacjodcaaGreatDoorCards
import Derived.Test.YtgbegdgacjodcaaGreatDoorTie
import Derived.LaidMore
import Derived.Lay
import Derived.SevenTiedAt
import Derived.Stop.Joined
import Derived.ProofKit
import Derived.OpenShut
import Derived.ShutString
import Derived.ChangeOld
import Derived.Below
import Derived.SizedLaws
import Derived.Test.YtgbegdgacjodcaaGreatDoorLoAwake
import Derived.Test.YtgbegdgacjodcaaGreatDoorLoFit
import Derived.Test.YtgbegdgacjodcaaGreatDoorLoOpen
import Derived.Test.YtgbegdgacjodcaaGreatDoorLoRef
namespace Go.Proofs.YtgbegdgacjodcaaGreatDoor
open Go.ChangeShapes Go.WideShapes Go.ChangeAt Go.RowKit
open Go.ChangeMaps (open_string shut_string)

theorem cm_two {rs : Rs} {k i : Nat} {x y : Rc} (hk : k < i) (hx : (cmR rs)[k]? = some x) (hy : (cmR rs)[i]? = some y) : (x.1 == y.1) = false := by
  obtain ⟨l1, e1⟩ := List.getElem?_eq_some_iff.1 hx
  obtain ⟨l2, e2⟩ := List.getElem?_eq_some_iff.1 hy
  have := List.pairwise_iff_getElem.1 (cm_one rs) k i l1 l2 hk
  rw [e1, e2] at this
  simpa using this
theorem cm_self {rs : Rs} (h : loOk rs = true) {i : Nat} {y : Rc} (hy : (cmR rs)[i]? = some y) : laV rs y.1 = y ∧ laB rs y.1 = true :=
  lav_yes (la_self h (List.mem_of_getElem? hy))
theorem cm_same2 {rs : Rs} (h : loOk rs = true) (n : Tx) : laV (cmR rs) n = laV rs n ∧ laB (cmR rs) n = laB rs n := by
  unfold laV laB
  rw [la_cm h]; exact ⟨rfl, rfl⟩
theorem cm_fix {rs : Rs} (h : loOk rs = true) : cpL (cmR rs) = cmR rs ∧ loE (cmR rs) = 0 :=
  ⟨by rw [cpl_yes (cm_ok h), cm_again], (lo_yes (cm_ok h)).2⟩

set_option maxRecDepth 20000 in
set_option maxHeartbeats 16000000 in
theorem logCompacts_any (w : World) (rs : Rs) (ao : Option Addr) (cap : Nat) (hd : IsRs w rs ao cap) (n : ByteArray) (_ : n.size ≤ maxLen) (hv : Vs w) :
    Calls Tryz.prog 5 #[.slice ao rs.length cap, .string n] w fun e w' => e = .returned (.bool true) ∧ Q w w' := by
  have heq := eqR
  have hgd := Tryz.guardR
  have h40 : rs.length * 40 ≤ reachBytes := by have h1 := hd.s; have h2 := hd.n; omega
  unfold reachBytes at h40
  have HR := hide hd.r
  have HZ := hide hd.z
  have HN := hide hd.n
  have HC := hide hd.cap
  have HA := hide (loawake_any w hv)
  have HCM := hide (fun u (q : Q w u) => loCompact_any rs ao cap u (RowG.q HR.out q) HZ.out (by omega))
  have HRM := hide (fun u (q : Q w u) => rloMay_any rs ao cap u (RowG.q HR.out q) HZ.out HN.out HC.out)
  have HLS := hide (fun (x : ByteArray) u (q : Q w u) => loLast_any rs x ao cap u (RowG.q HR.out q) HZ.out (by omega))
  clear hd hv
  cases h1 : loOk rs
  · rw [cpl_no h1, (lo_no h1).2] at HCM
    rw [h1] at HRM
    clear h1
    go_enter Tryz.func5, Tryz.ntmps5
    go_wp2_with fail
    refine (unhide HA).mono ?_
    rintro e w1 ⟨rfl, q1⟩
    have HQ := hide q1
    clear q1
    go_wp2_with fail
    refine (unhide HCM _ (unhide HQ)).mono ?_
    rintro e w2 ⟨bo, bc, rfl, _, q2⟩
    replace HQ := hide ((unhide HQ).trans q2)
    clear q2
    go_wp2_with (go_at_call 14; refine (num_any _ _).mono ?_; rintro e w' ⟨rfl, hw'⟩; have hw2 := hw'.symm; clear hw'; subst hw2)
    refine (unhide HRM _ (unhide HQ)).mono ?_
    rintro e w3 ⟨rfl, q3⟩
    go_wp2_with fail
    go_ret
    exact ⟨rfl, (unhide HQ).trans q3⟩
  have hok2 := cm_ok h1
  obtain ⟨h256, hall⟩ := lo_parts hok2
  rw [cpl_yes h1, (lo_yes h1).2] at HCM
  have HTWO : Hid (∀ (k i : Nat) (x y : Rc), k < i → (cmR rs)[k]? = some x → (cmR rs)[i]? = some y → (x.1 == y.1) = false) := fun k i x y => cm_two
  have HSELF : Hid (∀ (i : Nat) (y : Rc), (cmR rs)[i]? = some y → laV rs y.1 = y ∧ laB rs y.1 = true) := fun i y h => cm_self h1 h
  have HSAME := hide (cm_same2 h1 (bl n))
  have HFIX := hide (cm_fix h1)
  have HZA := hide (rsz_ok hall)
  clear h1 hok2 hall HRM
  generalize cmR rs = A at *
  have HLA := hide (fun u bo bc (hr : RowR u bo A) => loLast_any A n bo bc u hr HZA.out (by omega))
  have HCA := hide (fun u bo bc (hr : RowR u bo A) => loCompact_any A bo bc u hr HZA.out (by omega))
  have HLN := hide (fun u (q : Q w u) => unhide HLS n u q)
  rw [HSAME.out.1, HSAME.out.2] at HLA
  rw [HFIX.out.1, HFIX.out.2] at HCA
  have HSM := hide (fun u (po qo : Option Addr) (pc qc : Nat) (h1 : RowR u po A) (h2 : RowR u qo A) => sameR_any po qo pc qc A A u h1 h2 (by unfold maxLen; omega))
  rw [decide_eq_true (rfl : A = A)] at HSM
  clear HSAME HFIX HZA
  generalize laV rs (bl n) = X at HLA HLN
  generalize laB rs (bl n) = vx at HLA HLN
  unfold rcV at HLA HLN
  obtain ⟨X1, X2, X3⟩ := X
  dsimp only at HLA HLN
  generalize (⟨X1.toArray⟩ : ByteArray) = x1 at HLA HLN
  generalize (⟨X3.toArray⟩ : ByteArray) = x3 at HLA HLN
  have s1 : (x1.toList == x1.toList) = true := by simp
  have s3 : (x3.toList == x3.toList) = true := by simp
  have u1 : (vx == vx) = true := by simp
  go_enter Tryz.func5, Tryz.ntmps5
  go_wp2_with fail
  refine (unhide HA).mono ?_
  rintro e w1 ⟨rfl, q1⟩
  have HQ := hide q1
  clear q1
  go_wp2_with fail
  refine (unhide HCM _ (unhide HQ)).mono ?_
  rintro e w2 ⟨bo, bc, rfl, ownA, q2⟩
  replace HQ := hide ((unhide HQ).trans q2)
  have HRA := hide (OwnR.row ownA)
  clear q2 ownA HCM HA
  go_wp2_with (go_at_call 14; refine (num_any _ _).mono ?_; rintro e w' ⟨rfl, hw'⟩; have hw2 := hw'.symm; clear hw'; subst hw2)
  go_loopw [7] (fun i wr => ∃ j : Nat, j ≤ A.length ∧ i = .int .i64 j ∧ Q w2 wr) (fun i _ => A.length - (intOf i).toNat)
  case atStart => exact ⟨0, Nat.zero_le _, rfl, Q.refl _⟩
  case round =>
    obtain ⟨j, hj, rfl, hq⟩ := hrel
    rename World => wz
    by_cases hlt : j < A.length
    · rcases (unhide HRA).q hq with he | ⟨g, o, rfl, hg, hcell⟩
      · rw [he] at hlt; simp at hlt
      obtain ⟨r, hx⟩ : ∃ r, A[j]? = some r := ⟨A[j], List.getElem?_eq_getElem hlt⟩
      have HCELL := hide hcell
      have HX := hide hx
      have j0 : (0 : Int) ≤ (j : Int) := Int.natCast_nonneg _
      have j1 : (j : Int) < (A.length : Int) := by omega
      clear hcell hx
      go_wp2_with fail
      go_loopw [8] (fun i wr => ∃ k : Nat, k ≤ j ∧ i = .int .i64 k ∧ Q wz wr) (fun i _ => j - (intOf i).toNat)
      case atStart => exact ⟨0, Nat.zero_le _, rfl, Q.refl _⟩
      case round =>
        obtain ⟨k, hk, rfl, hqi⟩ := hrel
        rename World => wi
        by_cases hkj : k < j
        · obtain ⟨y, hy⟩ : ∃ y, A[k]? = some y := ⟨A[k], List.getElem?_eq_getElem (by omega)⟩
          have p0 := (hqi.cell (p := ⟨g, o + j * 3, none⟩) hg).trans (HCELL.out j 0 r _ HX.out (by decide) rfl)
          have p1 := (hqi.cell (p := ⟨g, o + k * 3, none⟩) hg).trans (HCELL.out k 0 y _ hy (by decide) rfl)
          have hne := HTWO.out k j y r hkj hy HX.out
          have hxb := txt_beq y.1 ⟨r.1.toArray⟩
          rw [show bl (⟨r.1.toArray⟩ : ByteArray) = r.1 from rfl, hne] at hxb
          have k0 : (0 : Int) ≤ (k : Int) := Int.natCast_nonneg _
          have k1 : (k : Int) < (A.length : Int) := by omega
          have k2 : (k : Int) < (j : Int) := by omega
          clear hy hne
          generalize (⟨r.1.toArray⟩ : ByteArray) = y1 at *
          generalize (⟨y.1.toArray⟩ : ByteArray) = y2 at *
          go_wp2_with fail
          go_quiet (fail)
          go_wp2_with fail
          go_roundw
          case rel => exact ⟨k + 1, by omega, by go_num, hqi.drewN _⟩
          case measure => simp [intOf]; omega
        · have hkj2 : k = j := by omega
          subst hkj2
          have p0 := (hqi.cell (p := ⟨g, o + k * 3, none⟩) hg).trans (HCELL.out k 0 r _ HX.out (by decide) rfl)
          have HQI := hide ((unhide HQ).trans (hq.trans hqi))
          have HL := hide (unhide HLS ⟨r.1.toArray⟩ wi (unhide HQI))
          obtain ⟨l1, l2⟩ := HSELF.out k r HX.out
          rw [show bl (⟨r.1.toArray⟩ : ByteArray) = r.1 from rfl, l1, l2] at HL
          have HCR : Hid (∀ u, Q wi u → u.cell? ⟨g, o + k * 3, none⟩ = some (.string ⟨r.1.toArray⟩) ∧ u.cell? ⟨g, o + k * 3 + 1, none⟩ = some (.int .i64 r.2.1) ∧ u.cell? ⟨g, o + k * 3 + 2, none⟩ = some (.string ⟨r.2.2.toArray⟩)) := fun u q =>
            ⟨((hqi.trans q).cell (p := ⟨g, o + k * 3, none⟩) hg).trans (HCELL.out k 0 r _ HX.out (by decide) rfl), ((hqi.trans q).cell (p := ⟨g, o + k * 3 + 1, none⟩) hg).trans (HCELL.out k 1 r _ HX.out (by decide) rfl), ((hqi.trans q).cell (p := ⟨g, o + k * 3 + 2, none⟩) hg).trans (HCELL.out k 2 r _ HX.out (by decide) rfl)⟩
          clear l1 l2
          unfold rcV at HL
          generalize (⟨r.1.toArray⟩ : ByteArray) = y1 at *
          generalize (⟨r.2.2.toArray⟩ : ByteArray) = y3 at *
          generalize r.2.1 = y2 at *
          have t1 : (y1.toList == y1.toList) = true := by simp
          have t3 : (y3.toList == y3.toList) = true := by simp
          go_wp2_with fail
          refine (unhide HL).mono ?_
          rintro e w5 ⟨rfl, q5⟩
          have HQ5 := hide (q5.trans (bxR_q w5 y1 y2 y3))
          obtain ⟨a0, a1, a2⟩ := bxR_at (x := y1) (t := y2) (y := y3) (Q.refl (bxR w5 y1 y2 y3))
          obtain ⟨b0, b1, b2⟩ := unhide HCR _ (unhide HQ5)
          unfold bxR at HQ5 a0 a1 a2 b0 b1 b2
          clear q5 p0
          go_wp2_with fail
          go_quiet (fail)
          go_wp2_with fail
          go_roundw
          case rel => exact ⟨k + 1, by omega, by go_num, (hq.trans (hqi.trans (unhide HQ5))).drewN _⟩
          case measure => simp [intOf]; omega
    · have hjA : ¬ ((j : Int) < (A.length : Int)) := by omega
      replace HQ := hide ((unhide HQ).trans hq)
      replace HRA := hide (RowG.q (unhide HRA) hq)
      clear HTWO HSELF HLS
      go_wp2_with fail
      refine (unhide HLN _ (unhide HQ)).mono ?_
      rintro e w5 ⟨rfl, q5⟩
      have HX5 := hide (bxR_b w5 x1 X2 x3)
      have HQ5 := hide (Q.refl (bxR w5 x1 X2 x3))
      replace HQ := hide ((unhide HQ).trans (q5.trans (bxR_q w5 x1 X2 x3)))
      replace HRA := hide (RowG.q (unhide HRA) (q5.trans (bxR_q w5 x1 X2 x3)))
      unfold bxR at HX5 HQ5 HQ HRA
      clear q5
      go_wp2_with fail
      generalize w5.alloc (.cells #[.string x1, .int .i64 X2, .string x3] 31) = v5 at *
      refine (unhide HLA _ _ _ (unhide HRA)).mono ?_
      rintro e w6 ⟨rfl, q6⟩
      have HX6 := hide (bxR_b w6 x1 X2 x3)
      have HQ6 := hide (Q.refl (bxR w6 x1 X2 x3))
      replace HQ := hide ((unhide HQ).trans (q6.trans (bxR_q w6 x1 X2 x3)))
      replace HQ5 := hide ((unhide HQ5).trans (q6.trans (bxR_q w6 x1 X2 x3)))
      replace HRA := hide (RowG.q (unhide HRA) (q6.trans (bxR_q w6 x1 X2 x3)))
      unfold bxR at HX6 HQ6 HQ HQ5 HRA
      clear q6
      go_wp2_with fail
      generalize w6.alloc (.cells #[.string x1, .int .i64 X2, .string x3] 31) = v6 at *
      refine (unhide HCA _ _ _ (unhide HRA)).mono ?_
      rintro e w7 ⟨co, cc, rfl, ownC, q7⟩
      have HRC := hide (OwnR.row ownC)
      replace HQ := hide ((unhide HQ).trans q7)
      replace HRA := hide (RowG.q (unhide HRA) q7)
      have k5 := (unhide HX5).q ((unhide HQ5).trans q7)
      have k6 := (unhide HX6).q ((unhide HQ6).trans q7)
      have a0 := k5.cell 0 rfl
      have a1 := k5.cell 1 rfl
      have a2 := k5.cell 2 rfl
      have b0 := k6.cell 0 rfl
      have b1 := k6.cell 1 rfl
      have b2 := k6.cell 2 rfl
      clear q7 ownC k5 k6 HX5 HX6 HQ5 HQ6
      generalize w5.heap.size = N5 at *
      generalize w6.heap.size = N6 at *
      go_wp2_with (go_at_call 14; refine (num_any _ _).mono ?_; rintro e w' ⟨rfl, hw'⟩; have hw2 := hw'.symm; clear hw'; subst hw2)
      refine (unhide HSM _ _ _ _ _ (unhide HRA) (unhide HRC)).mono ?_
      rintro e w8 ⟨rfl, q8⟩
      go_wp2_with fail
      go_ret
      exact ⟨rfl, (unhide HQ).trans q8⟩

theorem Tryz.laidOut : laidOutB Tryz.prog = true := by kernel_rfl
set_option maxRecDepth 100000 in
theorem logCompacts_lifted (os : Os) (started : os.Started) (H : Type) (enc : TypeId × Value → H) :
    ReturnsInHanded {} Tryz.checked os 5 .any (fun w args => (Rows.logCompactsSpec.pre enc Tryz.prog Tryz.f5 [] false w args ∧ laidMetH Tryz.prog Rows.logCompactsRow.laid w) ∧ sizedMet enc Tryz.prog Tryz.f5 (OpenSpec.ofChange Rows.logCompactsSpec) false w args) (Rows.logCompactsSpec.post enc Tryz.prog Tryz.f5 false true false false) := by
  refine returnsInHanded_of_change_and (C := Tryz.checked) (X := fun w _ => laidMetH Tryz.prog Rows.logCompactsRow.laid w) (fun _ _ _ hh h => h.of_heap hh) Tryz.own started (by kernel_rfl) Tryz.func5
    (ChangeSpec.witness_shaped (enc := enc) (C := Tryz.checked) (os := os) (X := fun w _ => laidMetH Tryz.prog Rows.logCompactsRow.laid w) false (World.laidAll Tryz.prog os Rows.logCompactsRow.laid) #[.slice none 0 0, .string ByteArray.empty] 8 (World.laidAll_os _ _ _)
      (World.shaped_of_ZipB (by kernel_rfl) (by kernel_rfl)) (by kernel_rfl) (by kernel_rfl) (by kernel_rfl)
      (by rw [MakeChecks.laidMetH_plain _ _ _ (by kernel_rfl)]; exact laidMet_laidAll _ (by kernel_rfl) (by kernel_rfl))) ?_
  intro W base args ds gs before hval0 hW _ hsz0 hL _
  have hval : ∀ (j : Nat) t v, Tryz.f5.params[j]? = some t → args[j]? = some v → Value.okWide Tryz.prog W .any base t v := hval0
  have hW' := hW
  obtain ⟨p, q, hA0, hV, rfl, hfz, hnd⟩ := hW
  have hA : DataW.TrodAll enc Tryz.prog W 0 (fun _ => true) true Tryz.f5.params.toList args.toList ds p := hA0
  rw [Tryz.params5] at hA hval
  rw [Tryz.params5] at hsz0
  obtain ⟨v0, vs0, d0, ds0, p0, q0, hargs, rfl, rfl, h0, r0⟩ := trodAll_cons hA
  obtain ⟨v1, vs1, d1, ds1, p1, q1, rfl, rfl, rfl, h1, r1⟩ := trodAll_cons r0
  obtain ⟨rfl, rfl, rfl⟩ := trodAll_nil r1
  obtain rfl : args = #[v0, v1] := by cases args; simp_all
  obtain ⟨rfl, rfl⟩ := trodVars_none hV
  have k0 := h0
  have lt0 : ∀ x ∈ p0, x.block < W.heap.size := by obtain ⟨m, hm⟩ := k0; exact DataW.trod_lt m _ _ _ hm
  obtain ⟨n0, hn0⟩ := h0
  obtain ⟨x0, y0, z0, rfl⟩ := okWide_slice Tryz.underlying22 (hval 0 22 v0 rfl rfl)
  obtain ⟨a0, cap0, rs0, he0, w0⟩ := Tryz.is_recs (c := .slice x0 y0 z0) (y := (d0, p0)) hn0 (fun m (hm : m ∈ DataW.weights Tryz.prog 22 d0) => by simpa using List.all_eq_true.1 hsz0 m (DataW.weights_mem_each (j := 0) (t := 22) rfl rfl m hm))
  injection he0 with f0 f100 f200
  subst f0 f100 f200
  obtain ⟨a1, rfl, rfl, rfl, w1⟩ := open_string Tryz.underlying9 (hval 1 9 v1 rfl rfl) h1
  clear hA0 hval0
  refine (logCompacts_any W rs0 x0 z0 w0 a1 w1 (vs_of_laid (laid := Rows.logCompactsRow.laid) (by kernel_rfl) (by kernel_rfl) (by kernel_rfl) hL)).mono fun e W' ⟨he, bel⟩ => ?_
  subst he
  exact ⟨_, rfl, _, _, _, [], _, [], hW', trodAll_mk1 (shut_bool Tryz.underlying4 _), (trodAll_cons_mk (Below.trod Tryz.laidOut (by kernel_rfl) (of_decide_eq_true (by kernel_rfl)) k0 bel lt0) (trodAll_cons_mk (shut_string Tryz.underlying9 w1) trodAll_mk0)), rfl, bel.frame _, fun h => by cases h⟩

theorem logCompacts_holds : Rows.LogCompactsSaid :=
  OpenClaim.holds_of_wide 5 Tryz.f5 rfl rfl rfl rfl rfl rfl rfl ⟨rfl, rfl, rfl, rfl, rfl⟩ rfl rfl rfl rfl rfl (by kernel_rfl) Tryz.func5 (by kernel_rfl)
    (of_decide_eq_true (by kernel_rfl)) (by unfold Func.isWrapper; first | (rw [if_pos (by decide +kernel)]; kernel_rfl) | (rw [if_neg (by decide +kernel)]; exact ⟨rfl, rfl⟩))
    (fun os started H enc _ => logCompacts_lifted os started H enc)
theorem logCompacts_card : Rows.LogCompactsCardSaid :=
  Claim7.holds_tied_plain_at .later [] [.data, .data, .data, .data, .sentinel, .sentinel, .pinned] true (true, "58d9983032dbccffcfbffa442944cf77f3c44ff1702e3859a6311647efee5fd6") true logCompacts_holds (fun _ h => by cases h) (by kernel_rfl) (fun _ h => by cases h) logCompacts_row_tie rfl ⟨rfl, rfl⟩ (by kernel_rfl) rfl
    (fun f fn hf hfn => by
      obtain rfl : f = 5 := Option.some.inj ((show Tryz.prog.funcNamed Rows.logCompactsRow.func = some 5 by kernel_rfl).symm.trans hf) |>.symm
      obtain rfl : fn = Tryz.f5 := (Option.some.inj (Tryz.func5.symm.trans hfn)).symm
      exact ⟨by kernel_rfl, fun j t ht => by
        rw [Tryz.params5] at ht
        have hm : t ∈ [22, 9] := by simpa using Array.mem_of_getElem? ht
        have hall : ([22, 9].all fun u => !Tryz.prog.wantsStandIn u) = true := by kernel_rfl
        exact (show Tryz.prog.wantsStandIn t = false by simpa using List.all_eq_true.1 hall t hm)⟩)
    (by kernel_rfl)
#print axioms logCompacts_card

end Go.Proofs.YtgbegdgacjodcaaGreatDoor
