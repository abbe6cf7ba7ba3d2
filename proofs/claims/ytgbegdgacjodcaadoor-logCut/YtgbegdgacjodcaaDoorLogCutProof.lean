/- Of a text that was cut anywhere all that is whole ahead of the cut is loaded, and nothing else; no conditions. -/
import Derived.Test.YtgbegdgacjodcaaDoorRows
import Derived.Test.YtgbegdgacjodcaaDoorCards
import Derived.Test.YtgbegdgacjodcaaDoorTie
import Derived.LaidMore
import Derived.Lay
import Derived.SevenTiedAt
import Derived.Stop.Joined
import Derived.ProofKit
import Derived.OpenShut
import Derived.ShutString
import Derived.ChangeOld
import Derived.Below
import Derived.SizedLaws
import Derived.Test.YtgbegdgacjodcaaDoorLoAwake
import Derived.Test.YtgbegdgacjodcaaDoorLoFit
import Derived.Test.YtgbegdgacjodcaaDoorLoOpen
namespace Go.Proofs.YtgbegdgacjodcaaDoor
open Go.ChangeShapes Go.WideShapes Go.ChangeAt Go.RowKit

theorem cut_at (n : Nat) (hn : n ≤ 2 ^ 63 - 2) (cut : Int) :
    ∃ k : Nat, k ≤ n ∧ wrap64 ((IntKind.u64.wrap cut).tmod ((n : Int) + 1)) = (k : Int) := by
  have h0 : 0 ≤ IntKind.u64.wrap cut := by rw [IntKind.wrap_u64]; omega
  rw [Int.tmod_eq_emod_of_nonneg h0]
  have a := Int.emod_nonneg (IntKind.u64.wrap cut) (show (n : Int) + 1 ≠ 0 by omega)
  have b := Int.emod_lt_of_pos (IntKind.u64.wrap cut) (show 0 < (n : Int) + 1 by omega)
  generalize IntKind.u64.wrap cut % ((n : Int) + 1) = r at a b
  have e : wrap64 r = ((r.toNat : Nat) : Int) := by simp only [wrap64]; omega
  exact ⟨r.toNat, by omega, e⟩
theorem nlC_yes {x : ByteArray} {j : Nat} (h : j < x.size) (hc : x[j] = 10) : nlC ((bl x).take (j + 1)) = nlC ((bl x).take j) + 1 := by
  rw [show (bl x).take (j + 1) = (bl x).take j ++ [x[j]] from take_snoc x j h]
  unfold nlC
  rw [List.count_append, hc]; rfl
theorem nlC_no {x : ByteArray} {j : Nat} (h : j < x.size) (hc : x[j] ≠ 10) : nlC ((bl x).take (j + 1)) = nlC ((bl x).take j) := by
  rw [show (bl x).take (j + 1) = (bl x).take j ++ [x[j]] from take_snoc x j h]
  unfold nlC
  have h0 : [x[j]].count 10 = 0 := List.count_eq_zero.2 (by simpa using Ne.symm hc)
  rw [List.count_append, h0]; omega
theorem nlC_le (l : Tx) : nlC l ≤ l.length := List.count_le_length

set_option maxRecDepth 20000 in
set_option maxHeartbeats 16000000 in
theorem logCut_any (w : World) (rs : Rs) (ao : Option Addr) (cap : Nat) (hd : IsRs w rs ao cap) (cut : Int) (_ : Lit.wf (.int .i64 cut) = true) (hv : Vs w) :
    Calls Tryd.prog 3 #[.slice ao rs.length cap, .int .i64 cut] w fun e w' => e = .returned (.bool true) ∧ Q w w' := by
  have h40 : rs.length * 40 ≤ reachBytes := by have h1 := hd.s; have h2 := hd.n; omega
  unfold reachBytes at h40
  have hcap := hd.n
  have HR := hide hd.r
  have HZ := hide hd.z
  have HV := hide hv
  have HA := hide (loawake_any w hv)
  have HT := hide (fun u (q : Q w u) => loText_any rs ao cap u (hv.q q) (RowG.q HR.out q) HZ.out (by omega))
  clear hd hv
  cases h1 : loOk rs
  · obtain ⟨e1, e2⟩ := lo_no h1
    rw [e1, e2] at HT
    clear h1 e1 e2
    go_enter Tryd.func3, Tryd.ntmps3
    go_wp2_with fail
    refine (unhide HA).mono ?_
    rintro e w1 ⟨rfl, q1⟩
    have HQ := hide q1
    clear q1
    go_wp2_with fail
    refine (unhide HT _ (unhide HQ)).mono ?_
    rintro e w2 ⟨rfl, q2⟩
    replace HQ := hide ((unhide HQ).trans q2)
    clear q2
    go_wp2_with (go_at_call 8; refine (num_any _ _).mono ?_; rintro e w' ⟨rfl, hw'⟩; have hw2 := hw'.symm; clear hw'; subst hw2)
    go_ret
    exact ⟨rfl, unhide HQ⟩
  obtain ⟨e1, e2⟩ := lo_yes h1
  obtain ⟨h256, hall⟩ := lo_parts h1
  rw [e1, e2] at HT
  have hsz := lo_fit h1
  have HCT := hide (fun k hk => cut_text rs 256 k hall h256 hk)
  have HWH := hide (ldL_text h1)
  have hxz : (⟨(loL rs).toArray⟩ : ByteArray).size ≤ 537600 := by rw [mk_size']; exact hsz
  have HBL : Hid (bl (⟨(loL rs).toArray⟩ : ByteArray) = loL rs) := rfl
  clear e1 e2 h1 hsz hall
  generalize (⟨(loL rs).toArray⟩ : ByteArray) = x at HT HBL hxz
  rw [← unhide HBL] at HCT HWH
  have HXL := hide (bl_size x)
  clear HBL
  obtain ⟨k, hk, hke⟩ := cut_at x.size (by omega) cut
  obtain ⟨hm, hld⟩ := unhide HCT k (by rw [HXL.out]; exact hk)
  have HLK := hide hld
  have HMM := hide (nlC_le ((bl x).take k))
  clear HCT hld
  have HCNT : Hid (∀ j, nlC ((bl x).take j) ≤ j) := fun j => by have := nlC_le ((bl x).take j); rw [List.length_take] at this; omega
  obtain ⟨m, hme⟩ : ∃ m, nlC ((bl x).take k) = m := ⟨_, rfl⟩
  have HME := hide hme
  rw [hme] at HLK hm
  clear hme HMM
  have n1 : ¬ ((x.size : Int) + 1 = 0) := by omega
  have k0 : (0 : Int) ≤ (k : Int) := Int.natCast_nonneg _
  have k1 : (k : Int) ≤ (x.size : Int) := by omega
  have m0 : (0 : Int) ≤ (m : Int) := Int.natCast_nonneg _
  have m1 : (m : Int) ≤ (rs.length : Int) := by omega
  have m2 : (m : Int) ≤ (cap : Int) := by omega
  have HTL : Hid ((rs.take m).length = m) := by show _ = _; rw [List.length_take]; omega
  have HL1 := hide (fun u (q : Q w u) => loLoad_any (x.extract 0 k) u (HV.out.q q) (by rw [ByteArray.size_extract]; omega))
  have HL2 := hide (fun u (q : Q w u) => loLoad_any x u (HV.out.q q) (by omega))
  rw [show ldL (bl (x.extract 0 k)) = rs.take m by rw [sz_take]; exact HLK.out, unhide HTL] at HL1
  rw [unhide HWH] at HL2
  have HS1 := hide (fun u (po : Option Addr) (pc : Nat) (h1 : RowR u po (rs.take m)) (q : Q w u) => sameR_any po ao pc cap (rs.take m) (rs.take m) u h1 (RowG.take (RowG.q HR.out q) m) (by rw [HTL.out]; unfold maxLen; omega))
  have HS2 := hide (fun u (po : Option Addr) (pc : Nat) (h1 : RowR u po rs) (q : Q w u) => sameR_any po ao pc cap rs rs u h1 (RowG.q HR.out q) (by unfold maxLen; omega))
  rw [decide_eq_true (rfl : rs.take m = rs.take m), unhide HTL] at HS1
  rw [decide_eq_true (rfl : rs = rs)] at HS2
  clear HLK HWH HTL
  go_enter Tryd.func3, Tryd.ntmps3
  go_wp2_with fail
  refine (unhide HA).mono ?_
  rintro e w1 ⟨rfl, q1⟩
  have HQ := hide q1
  clear q1
  go_wp2_with fail
  refine (unhide HT _ (unhide HQ)).mono ?_
  rintro e w2 ⟨rfl, q2⟩
  replace HQ := hide ((unhide HQ).trans q2)
  clear q2
  go_wp2_with (go_at_call 8; refine (num_any _ _).mono ?_; rintro e w' ⟨rfl, hw'⟩; have hw2 := hw'.symm; clear hw'; subst hw2)
  go_loopw [8, 9] (fun c i wr => ∃ j : Nat, j ≤ k ∧ i = .int .i64 j ∧ c = .int .i64 (nlC ((bl x).take j) : Nat) ∧ Q w wr) (fun _ i _ => k - (intOf i).toNat)
  case atStart => exact ⟨0, Nat.zero_le _, rfl, rfl, unhide HQ⟩
  case round =>
    obtain ⟨j, hj, rfl, rfl, hq⟩ := hrel
    have j0 : (0 : Int) ≤ (j : Int) := Int.natCast_nonneg _
    by_cases hjk : j < k
    · have hjx : j < x.size := by omega
      have j1 : (j : Int) < (x.size : Int) := by omega
      have j2 : (j : Int) < (k : Int) := by omega
      have hcn := HCNT.out j
      by_cases h10 : x[j] = 10
      · have g10 : ((x[j].toNat : Int) == 10) = true := by rw [h10]; rfl
        have HN := hide (nlC_yes hjx h10)
        generalize nlC ((bl x).take j) = c at HN hcn
        have hw : IntKind.i64.wrap ((c : Int) + 1) = (c : Int) + 1 := by rw [IntKind.wrap_i64]; omega
        clear h10
        go_wp2_with fail
        go_roundw
        case rel => exact ⟨j + 1, by omega, by go_num, by rw [unhide HN]; go_num, hq⟩
        case measure => simp [intOf]; omega
      · have g10 : ((x[j].toNat : Int) == 10) = false := beq_eq_false_iff_ne.2 fun e => h10 (UInt8.toNat_inj.1 (by show _ = 10; omega))
        have HN := hide (nlC_no hjx h10)
        generalize nlC ((bl x).take j) = c at HN hcn
        clear h10
        go_wp2_with fail
        go_roundw
        case rel => exact ⟨j + 1, by omega, by go_num, by rw [unhide HN], hq⟩
        case measure => simp [intOf]; omega
    · have hjk2 : j = k := by omega
      subst hjk2
      rw [HME.out]
      rename World => w5
      have HU : Hid (Q w w5.drew) := hq.drew
      clear hq HCNT
      go_upto_region 13 with fail
      go_region_held3 (fun _ => True) (trivial)
        (first
          | (go_at_call_of 10 (Value.string (x.extract 0 j)); refine (unhide HL1 _ (unhide HU)).mono ?_; rintro e u2 ⟨lo, lc, rfl, own2, q2⟩; have HR2 := hide (OwnR.row own2); replace HU : Hid (Q w u2) := (unhide HU).trans q2; clear own2 q2)
          | (go_at_call_of 9 (Value.slice lo m lc); refine (unhide HS1 _ _ _ HR2.out (unhide HU)).mono ?_; rintro e u3 ⟨rfl, q3⟩; replace HU : Hid (Q w u3) := (unhide HU).trans q3; clear q3 HR2)
          | (go_at_call_of 10 (Value.string x); refine (unhide HL2 _ (unhide HU)).mono ?_; rintro e u4 ⟨ko, kc, rfl, own4, q4⟩; have HR4 := hide (OwnR.row own4); replace HU : Hid (Q w u4) := (unhide HU).trans q4; clear own4 q4)
          | (go_at_call_of 9 (Value.slice ko rs.length kc); refine (unhide HS2 _ _ _ HR4.out (unhide HU)).mono ?_; rintro e u5 ⟨rfl, q5⟩; replace HU : Hid (Q w u5) := (unhide HU).trans q5; clear q5 HR4))
      go_wp2_with fail
      go_ret
      exact ⟨rfl, unhide HU⟩

theorem Tryd.laidOut : laidOutB Tryd.prog = true := by kernel_rfl
set_option maxRecDepth 100000 in
theorem logCut_lifted (os : Os) (started : os.Started) (H : Type) (enc : TypeId × Value → H) :
    ReturnsInHanded {} Tryd.checked os 3 .any (fun w args => (Rows.logCutSpec.pre enc Tryd.prog Tryd.f3 [] false w args ∧ laidMetH Tryd.prog Rows.logCutRow.laid w) ∧ sizedMet enc Tryd.prog Tryd.f3 (OpenSpec.ofChange Rows.logCutSpec) false w args) (Rows.logCutSpec.post enc Tryd.prog Tryd.f3 false true false false) := by
  refine returnsInHanded_of_change_and (C := Tryd.checked) (X := fun w _ => laidMetH Tryd.prog Rows.logCutRow.laid w) (fun _ _ _ hh h => h.of_heap hh) Tryd.own started (by kernel_rfl) Tryd.func3
    (ChangeSpec.witness_shaped (enc := enc) (C := Tryd.checked) (os := os) (X := fun w _ => laidMetH Tryd.prog Rows.logCutRow.laid w) false (World.laidAll Tryd.prog os Rows.logCutRow.laid) #[.slice none 0 0, .int .i64 0] 8 (World.laidAll_os _ _ _)
      (World.shaped_of_ZipB (by kernel_rfl) (by kernel_rfl)) (by kernel_rfl) (by kernel_rfl) (by kernel_rfl)
      (by rw [MakeChecks.laidMetH_plain _ _ _ (by kernel_rfl)]; exact laidMet_laidAll _ (by kernel_rfl) (by kernel_rfl))) ?_
  intro W base args ds gs before hval0 hW _ hsz0 hL _
  have hval : ∀ (j : Nat) t v, Tryd.f3.params[j]? = some t → args[j]? = some v → Value.okWide Tryd.prog W .any base t v := hval0
  have hW' := hW
  obtain ⟨p, q, hA0, hV, rfl, hfz, hnd⟩ := hW
  have hA : DataW.TrodAll enc Tryd.prog W 0 (fun _ => true) true Tryd.f3.params.toList args.toList ds p := hA0
  rw [Tryd.params3] at hA hval
  rw [Tryd.params3] at hsz0
  obtain ⟨v0, vs0, d0, ds0, p0, q0, hargs, rfl, rfl, h0, r0⟩ := trodAll_cons hA
  obtain ⟨v1, vs1, d1, ds1, p1, q1, rfl, rfl, rfl, h1, r1⟩ := trodAll_cons r0
  obtain ⟨rfl, rfl, rfl⟩ := trodAll_nil r1
  obtain rfl : args = #[v0, v1] := by cases args; simp_all
  obtain ⟨rfl, rfl⟩ := trodVars_none hV
  have k0 := h0
  have lt0 : ∀ x ∈ p0, x.block < W.heap.size := by obtain ⟨m, hm⟩ := k0; exact DataW.trod_lt m _ _ _ hm
  obtain ⟨n0, hn0⟩ := h0
  obtain ⟨x0, y0, z0, rfl⟩ := okWide_slice Tryd.underlying22 (hval 0 22 v0 rfl rfl)
  obtain ⟨a0, cap0, rs0, he0, w0⟩ := Tryd.is_recs (c := .slice x0 y0 z0) (y := (d0, p0)) hn0 (fun m (hm : m ∈ DataW.weights Tryd.prog 22 d0) => by simpa using List.all_eq_true.1 hsz0 m (DataW.weights_mem_each (j := 0) (t := 22) rfl rfl m hm))
  injection he0 with f0 f100 f200
  subst f0 f100 f200
  obtain ⟨a1, rfl, rfl, rfl, w1⟩ := open_int Tryd.underlying3 (hval 1 3 v1 rfl rfl) h1
  clear hA0 hval0
  refine (logCut_any W rs0 x0 z0 w0 a1 w1 (vs_of_laid (laid := Rows.logCutRow.laid) (by kernel_rfl) (by kernel_rfl) (by kernel_rfl) hL)).mono fun e W' ⟨he, bel⟩ => ?_
  subst he
  exact ⟨_, rfl, _, _, _, [], _, [], hW', trodAll_mk1 (shut_bool Tryd.underlying4 _), (trodAll_cons_mk (Below.trod Tryd.laidOut (by kernel_rfl) (of_decide_eq_true (by kernel_rfl)) k0 bel lt0) (trodAll_cons_mk (shut_int Tryd.underlying3 w1) trodAll_mk0)), rfl, bel.frame _, fun h => by cases h⟩

theorem logCut_holds : Rows.LogCutSaid :=
  OpenClaim.holds_of_wide 3 Tryd.f3 rfl rfl rfl rfl rfl rfl rfl ⟨rfl, rfl, rfl, rfl, rfl⟩ rfl rfl rfl rfl rfl (by kernel_rfl) Tryd.func3 (by kernel_rfl)
    (of_decide_eq_true (by kernel_rfl)) (by unfold Func.isWrapper; first | (rw [if_pos (by decide +kernel)]; kernel_rfl) | (rw [if_neg (by decide +kernel)]; exact ⟨rfl, rfl⟩))
    (fun os started H enc _ => logCut_lifted os started H enc)
theorem logCut_card : Rows.LogCutCardSaid :=
  Claim7.holds_tied_plain_at .later [] [.data, .data, .data, .data, .sentinel, .sentinel, .pinned] true (true, "ccc20aa36e42e557f1d7cf2c5106c05d03d6dcfa28120e4e77c31c16c3dd47bd") true logCut_holds (fun _ h => by cases h) (by kernel_rfl) (fun _ h => by cases h) logCut_row_tie rfl ⟨rfl, rfl⟩ (by kernel_rfl) rfl
    (fun f fn hf hfn => by
      obtain rfl : f = 3 := Option.some.inj ((show Tryd.prog.funcNamed Rows.logCutRow.func = some 3 by kernel_rfl).symm.trans hf) |>.symm
      obtain rfl : fn = Tryd.f3 := (Option.some.inj (Tryd.func3.symm.trans hfn)).symm
      exact ⟨by kernel_rfl, fun j t ht => by
        rw [Tryd.params3] at ht
        have hm : t ∈ [22, 3] := by simpa using Array.mem_of_getElem? ht
        have hall : ([22, 3].all fun u => !Tryd.prog.wantsStandIn u) = true := by kernel_rfl
        exact (show Tryd.prog.wantsStandIn t = false by simpa using List.all_eq_true.1 hall t hm)⟩)
    (by kernel_rfl)
#print axioms logCut_card

end Go.Proofs.YtgbegdgacjodcaaDoor
