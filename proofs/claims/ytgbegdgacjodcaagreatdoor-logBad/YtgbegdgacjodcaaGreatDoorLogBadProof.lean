/- Behind a line that is none nothing is loaded, whatever it is; no conditions. -/
import Derived.Test.YtgbegdgacjodcaaGreatDoorRows
import Derived.Test.YtgbegdgacjodcaaGreatDoorCards
import Derived.Test.YtgbegdgacjodcaaGreatDoorTie
import Derived.LaidMore
import Derived.Lay
import Derived.SevenTiedAt
import Derived.Stop.Joined
import Derived.ProofKit
import Derived.OpenShut
import Derived.ShutString
import Derived.ChangeOld
import Derived.Below
import Derived.SizedLaws
import Derived.Test.YtgbegdgacjodcaaGreatDoorLoAwake
import Derived.Test.YtgbegdgacjodcaaGreatDoorLoFit
import Derived.Test.YtgbegdgacjodcaaGreatDoorLoOpen
import Derived.Test.YtgbegdgacjodcaaGreatDoorLoRef
import Derived.Test.YtgbegdgacjodcaaGreatDoorBitPlain
namespace Go.Proofs.YtgbegdgacjodcaaGreatDoor
open Go.ChangeShapes Go.WideShapes Go.ChangeAt Go.RowKit

def badL : List Tx := [[10], [120, 10], [97, 9, 48, 9, 120, 10], [0, 10], [97, 9, 49, 9, 120, 9, 10], [63]]
theorem bad_fs {l : Tx} (h : l ∈ badL) (x : Tx) : fsL (l ++ x) = none := by
  have go : ∀ a : Tx, (10 : UInt8) ∉ a → gtL (a ++ [10]) = none → fsL ((a ++ [10]) ++ x) = none := fun a h1 h2 => by
    have := fs_bad h1 h2 x
    rwa [show (a ++ [10]) ++ x = a ++ 10 :: x by simp]
  unfold badL at h
  simp only [List.mem_cons, List.not_mem_nil, or_false] at h
  rcases h with rfl | rfl | rfl | rfl | rfl | rfl
  · exact go [] (by decide) (by decide +kernel)
  · exact go [120] (by decide) (by decide +kernel)
  · exact go [97, 9, 48, 9, 120] (by decide) (by decide +kernel)
  · exact go [0] (by decide) (by decide +kernel)
  · exact go [97, 9, 49, 9, 120, 9] (by decide) (by decide +kernel)
  · exact fs_odd (by decide) x
theorem bad_at {j : Nat} (h : j < 6) : ∃ y : ByteArray, (#[Value.string ⟨#[10]⟩, .string ⟨#[120, 10]⟩, .string ⟨#[97, 9, 48, 9, 120, 10]⟩, .string ⟨#[0, 10]⟩, .string ⟨#[97, 9, 49, 9, 120, 9, 10]⟩, .string ⟨#[63]⟩] : Array Value)[j]? = some (.string y) ∧ bl y ∈ badL ∧ y.size ≤ 7 := by
  rcases j with _ | _ | _ | _ | _ | _ | j
  · exact ⟨_, rfl, by decide, by decide⟩
  · exact ⟨_, rfl, by decide, by decide⟩
  · exact ⟨_, rfl, by decide, by decide⟩
  · exact ⟨_, rfl, by decide, by decide⟩
  · exact ⟨_, rfl, by decide, by decide⟩
  · exact ⟨_, rfl, by decide, by decide⟩
  · omega
theorem cut_nm (n : Nat) (hn : n ≤ 1000) (cut : Int) :
    ∃ k : Nat, k ≤ n ∧ wrap64 ((IntKind.u64.wrap cut).tmod ((n : Int) + 1)) = (k : Int) := by
  have h0 : 0 ≤ IntKind.u64.wrap cut := by rw [IntKind.wrap_u64]; omega
  rw [Int.tmod_eq_emod_of_nonneg h0]
  have a := Int.emod_nonneg (IntKind.u64.wrap cut) (show (n : Int) + 1 ≠ 0 by omega)
  have b := Int.emod_lt_of_pos (IntKind.u64.wrap cut) (show 0 < (n : Int) + 1 by omega)
  generalize IntKind.u64.wrap cut % ((n : Int) + 1) = r at a b
  have e : wrap64 r = ((r.toNat : Nat) : Int) := by simp only [wrap64]; omega
  exact ⟨r.toNat, by omega, e⟩
theorem RowR.drop {w : World} {g o : Nat} {xs : Rs} (h : RowR w (some ⟨g, o, none⟩) xs) (t : Nat) : RowR w (some ⟨g, o + t * 3, none⟩) (xs.drop t) := by
  rcases h with h | ⟨g', o', e, hg, hc⟩
  · left; rw [h]; simp
  · cases e
    refine Or.inr ⟨g, o + t * 3, rfl, hg, fun j i x v hx hi hv => ?_⟩
    rw [List.getElem?_drop] at hx
    have := hc (t + j) i x v hx hi hv
    rwa [show o + t * 3 + (j * 3 + i) = o + ((t + j) * 3 + i) by rw [Nat.add_mul]; omega]
theorem RowR.nil (w : World) (ao : Option Addr) : RowR w ao [] := Or.inl rfl

theorem RowR.map {w : World} {ao : Option Addr} {xs : Rs} (h : RowR w ao xs) (t : Nat) : RowR w (Option.map (fun x => x.add (t * 3)) ao) (xs.drop t) := by
  rcases h with h | ⟨g, o, rfl, hg, hc⟩
  · left; rw [h]; simp
  · show RowR w (some ((⟨g, o, none⟩ : Addr).add (t * 3))) _
    rw [add_plain]
    exact RowR.drop (Or.inr ⟨g, o, rfl, hg, hc⟩) t

set_option maxRecDepth 20000 in
set_option maxHeartbeats 16000000 in
theorem logBad_any (w : World) (rs : Rs) (ao : Option Addr) (cap : Nat) (hd : IsRs w rs ao cap) (at' : Int) (_ : Lit.wf (.int .i64 at') = true) (bad : Int) (_ : Lit.wf (.int .i64 bad) = true) (hv : Vs w) :
    Calls Tryz.prog 4 #[.slice ao rs.length cap, .int .i64 at', .int .i64 bad] w fun e w' => e = .returned (.bool true) ∧ Q w w' := by
  have h40 : rs.length * 40 ≤ reachBytes := by have h1 := hd.s; have h2 := hd.n; omega
  unfold reachBytes at h40
  have hcap := hd.n
  have hcapm := hd.cap
  unfold maxLen at hcapm
  have HR := hide hd.r
  have HZ := hide hd.z
  have HN := hide hd.n
  have HC := hide hd.cap
  have HV := hide hv
  have HA := hide (loawake_any w hv)
  have HM := hide (fun u (q : Q w u) => loMay_any rs ao cap u (RowG.q HR.out q) HZ.out (by omega))
  have HRM := hide (fun u (q : Q w u) => rloMay_any rs ao cap u (RowG.q HR.out q) HZ.out HN.out HC.out)
  clear hd hv
  cases h1 : loOk rs
  · rw [h1] at HM HRM
    clear h1
    go_enter Tryz.func4, Tryz.ntmps4
    go_wp2_with fail
    refine (unhide HA).mono ?_
    rintro e w1 ⟨rfl, q1⟩
    have HQ := hide q1
    clear q1
    go_wp2_with fail
    refine (unhide HM _ (unhide HQ)).mono ?_
    rintro e w2 ⟨rfl, q2⟩
    replace HQ := hide ((unhide HQ).trans q2)
    clear q2
    go_wp2_with fail
    refine (unhide HRM _ (unhide HQ)).mono ?_
    rintro e w3 ⟨rfl, q3⟩
    go_wp2_with fail
    go_ret
    exact ⟨rfl, (unhide HQ).trans q3⟩
  rw [h1] at HM HRM
  by_cases h20 : 20 < rs.length
  · have h20' : (20 : Int) < (rs.length : Int) := by omega
    clear h1
    go_enter Tryz.func4, Tryz.ntmps4
    go_wp2_with fail
    refine (unhide HA).mono ?_
    rintro e w1 ⟨rfl, q1⟩
    have HQ := hide q1
    clear q1
    go_wp2_with fail
    refine (unhide HM _ (unhide HQ)).mono ?_
    rintro e w2 ⟨rfl, q2⟩
    replace HQ := hide ((unhide HQ).trans q2)
    clear q2
    go_wp2_with fail
    refine (unhide HRM _ (unhide HQ)).mono ?_
    rintro e w3 ⟨rfl, q3⟩
    go_wp2_with fail
    go_ret
    exact ⟨rfl, (unhide HQ).trans q3⟩
  have h20' : (rs.length : Int) ≤ 20 := by omega
  obtain ⟨k, hk, hke⟩ := cut_nm rs.length (by omega) at'
  obtain ⟨j, hj, hje0⟩ := umod bad 6 (by decide) (by decide)
  have hje : wrap64 ((IntKind.u64.wrap bad).tmod 6) = (j : Int) := hje0
  clear hje0
  obtain ⟨y, hy, hyb, hyz⟩ := bad_at hj
  have n1 : ¬ ((rs.length : Int) + 1 = 0) := by omega
  have k0 : (0 : Int) ≤ (k : Int) := Int.natCast_nonneg _
  have k1 : (k : Int) ≤ (rs.length : Int) := by omega
  have k2 : (k : Int) ≤ (cap : Int) := by omega
  have j0 : (0 : Int) ≤ (j : Int) := Int.natCast_nonneg _
  have j1 : (j : Int) < 6 := by omega
  have HTL : Hid ((rs.take k).length = k) := by show _ = _; rw [List.length_take]; omega
  have HDL : Hid ((rs.drop k).length = rs.length - k) := by show _ = _; rw [List.length_drop]
  have ht := lo_take h1 k
  have hdr := lo_drop h1 k
  have HLD : Hid (ldL (loL (rs.take k) ++ (bl y ++ loL (rs.drop k))) = rs.take k) := ldL_stop ht (bad_fs hyb _)
  have HT1 := hide (fun u (q : Q w u) => loText_any (rs.take k) ao cap u (HV.out.q q) (RowG.take (RowG.q HR.out q) k) (rsz_take HZ.out k) (by rw [HTL.out]; omega))
  have HT2 := hide (fun u (a2 : Option Addr) (c2 : Nat) (hr : RowR u a2 (rs.drop k)) (q : Q w u) => loText_any (rs.drop k) a2 c2 u (HV.out.q q) hr (rsz_drop HZ.out k) (by rw [HDL.out]; omega))
  rw [(lo_yes ht).1, (lo_yes ht).2, unhide HTL] at HT1
  rw [(lo_yes hdr).1, (lo_yes hdr).2, unhide HDL] at HT2
  have zt : (⟨(loL (rs.take k)).toArray⟩ : ByteArray).size ≤ 537600 := by rw [mk_size']; exact lo_fit ht
  have zd : (⟨(loL (rs.drop k)).toArray⟩ : ByteArray).size ≤ 537600 := by rw [mk_size']; exact lo_fit hdr
  have HBT : Hid (bl (⟨(loL (rs.take k)).toArray⟩ : ByteArray) = loL (rs.take k)) := rfl
  have HBD : Hid (bl (⟨(loL (rs.drop k)).toArray⟩ : ByteArray) = loL (rs.drop k)) := rfl
  rw [← unhide HBT, ← unhide HBD] at HLD
  clear HBT HBD ht hdr h1 hyb
  generalize (⟨(loL (rs.take k)).toArray⟩ : ByteArray) = xa at *
  generalize (⟨(loL (rs.drop k)).toArray⟩ : ByteArray) = xb at *
  have HLL := hide (fun u (q : Q w u) => loLoad_any (xa ++ y ++ xb) u (HV.out.q q) (by have h := bl_size (xa ++ y ++ xb); rw [bl_app, bl_app, List.length_append, List.length_append, bl_size, bl_size, bl_size] at h; omega))
  rw [show ldL (bl (xa ++ y ++ xb)) = rs.take k by rw [bl_app, bl_app, List.append_assoc]; exact HLD.out, unhide HTL] at HLL
  have HSM := hide (fun u (po : Option Addr) (pc : Nat) (h1 : RowR u po (rs.take k)) (q : Q w u) => sameR_any po ao pc cap (rs.take k) (rs.take k) u h1 (RowG.take (RowG.q HR.out q) k) (by rw [HTL.out]; unfold maxLen; omega))
  rw [decide_eq_true (rfl : rs.take k = rs.take k), unhide HTL] at HSM
  clear HLD HTL HDL
  go_enter Tryz.func4, Tryz.ntmps4
  go_wp2_with fail
  refine (unhide HA).mono ?_
  rintro e w1 ⟨rfl, q1⟩
  have HQ := hide q1
  clear q1
  go_wp2_with fail
  refine (unhide HM _ (unhide HQ)).mono ?_
  rintro e w2 ⟨rfl, q2⟩
  replace HQ := hide ((unhide HQ).trans q2)
  clear q2 HM HRM
  go_wp2_with fail
  refine (unhide HT1 _ (unhide HQ)).mono ?_
  rintro e w3 ⟨rfl, q3⟩
  replace HQ := hide ((unhide HQ).trans q3)
  clear q3
  have hkc : ((k : Int) = (cap : Int)) ∨ ((k : Int) < (cap : Int)) := by omega
  rcases hkc with hkc | hkc
  · have hck : cap = k := by omega
    subst hck
    have hrow : RowR w3 ao (rs.drop cap) := by rw [List.drop_of_length_le (by omega)]; exact Or.inl rfl
    have HROW := hide hrow
    clear hrow
    rw [show rs.length - cap = 0 by omega] at HT2
    go_wp2_with fail
    refine (unhide HT2 _ _ _ HROW.out (unhide HQ)).mono ?_
    rintro e w4 ⟨rfl, q4⟩
    replace HQ := hide ((unhide HQ).trans q4)
    clear q4
    go_upto_region 8 with fail
    have d0 : (w4.alloc (.cells #[.string ⟨#[10]⟩, .string ⟨#[120, 10]⟩, .string ⟨#[97, 9, 48, 9, 120, 10]⟩, .string ⟨#[0, 10]⟩, .string ⟨#[97, 9, 49, 9, 120, 9, 10]⟩, .string ⟨#[63]⟩] 9)).cell? ⟨w4.heap.size, j, none⟩ = some (.string y) := (Blk.new w4 _ _).cell j hy
    have HU0 := hide ((unhide HQ).alloc (.cells #[.string ⟨#[10]⟩, .string ⟨#[120, 10]⟩, .string ⟨#[97, 9, 48, 9, 120, 10]⟩, .string ⟨#[0, 10]⟩, .string ⟨#[97, 9, 49, 9, 120, 9, 10]⟩, .string ⟨#[63]⟩] 9))
    clear hy
    go_upto_region 9 with fail
    clear d0
    generalize (w4.alloc (.cells #[.string ⟨#[10]⟩, .string ⟨#[120, 10]⟩, .string ⟨#[97, 9, 48, 9, 120, 10]⟩, .string ⟨#[0, 10]⟩, .string ⟨#[97, 9, 49, 9, 120, 9, 10]⟩, .string ⟨#[63]⟩] 9)) = wb at *
    have HU := hide ((unhide HU0).drew)
    clear HU0 HQ HA HT1 HT2 HROW hje j0 j1 hj hyz zt zd
    go_region_held3 (fun _ => True) (trivial)
      (first
        | (go_at_call 14; refine (num_any _ _).mono ?_; rintro e w' ⟨rfl, hw'⟩; have hw2 := hw'.symm; clear hw'; subst hw2)
        | (go_at_call 9; refine (unhide HLL _ (unhide HU)).mono ?_; rintro e u2 ⟨lo, lc, rfl, own2, q2⟩; have HR2 := hide (OwnR.row own2); replace HU : Hid (Q w u2) := (unhide HU).trans q2; clear own2 q2)
        | (go_at_call 15; refine (unhide HSM _ _ _ HR2.out (unhide HU)).mono ?_; rintro e u3 ⟨rfl, q3⟩; replace HU : Hid (Q w u3) := (unhide HU).trans q3; clear q3 HR2))
    go_wp2_with fail
    go_ret
    exact ⟨rfl, unhide HU⟩
  · have HROW := hide (RowR.map (RowG.q HR.out (unhide HQ)) k)
    go_wp2_with fail
    refine (unhide HT2 _ _ _ HROW.out (unhide HQ)).mono ?_
    rintro e w4 ⟨rfl, q4⟩
    replace HQ := hide ((unhide HQ).trans q4)
    clear q4
    go_upto_region 8 with fail
    have d0 : (w4.alloc (.cells #[.string ⟨#[10]⟩, .string ⟨#[120, 10]⟩, .string ⟨#[97, 9, 48, 9, 120, 10]⟩, .string ⟨#[0, 10]⟩, .string ⟨#[97, 9, 49, 9, 120, 9, 10]⟩, .string ⟨#[63]⟩] 9)).cell? ⟨w4.heap.size, j, none⟩ = some (.string y) := (Blk.new w4 _ _).cell j hy
    have HU0 := hide ((unhide HQ).alloc (.cells #[.string ⟨#[10]⟩, .string ⟨#[120, 10]⟩, .string ⟨#[97, 9, 48, 9, 120, 10]⟩, .string ⟨#[0, 10]⟩, .string ⟨#[97, 9, 49, 9, 120, 9, 10]⟩, .string ⟨#[63]⟩] 9))
    clear hy
    go_upto_region 9 with fail
    clear d0
    generalize (w4.alloc (.cells #[.string ⟨#[10]⟩, .string ⟨#[120, 10]⟩, .string ⟨#[97, 9, 48, 9, 120, 10]⟩, .string ⟨#[0, 10]⟩, .string ⟨#[97, 9, 49, 9, 120, 9, 10]⟩, .string ⟨#[63]⟩] 9)) = wb at *
    have HU := hide ((unhide HU0).drew)
    clear HU0 HQ HA HT1 HT2 HROW hje j0 j1 hj hyz zt zd
    go_region_held3 (fun _ => True) (trivial)
      (first
        | (go_at_call 14; refine (num_any _ _).mono ?_; rintro e w' ⟨rfl, hw'⟩; have hw2 := hw'.symm; clear hw'; subst hw2)
        | (go_at_call 9; refine (unhide HLL _ (unhide HU)).mono ?_; rintro e u2 ⟨lo, lc, rfl, own2, q2⟩; have HR2 := hide (OwnR.row own2); replace HU : Hid (Q w u2) := (unhide HU).trans q2; clear own2 q2)
        | (go_at_call 15; refine (unhide HSM _ _ _ HR2.out (unhide HU)).mono ?_; rintro e u3 ⟨rfl, q3⟩; replace HU : Hid (Q w u3) := (unhide HU).trans q3; clear q3 HR2))
    go_wp2_with fail
    go_ret
    exact ⟨rfl, unhide HU⟩

theorem Tryz.laidOut : laidOutB Tryz.prog = true := by kernel_rfl
set_option maxRecDepth 100000 in
theorem logBad_lifted (os : Os) (started : os.Started) (H : Type) (enc : TypeId × Value → H) :
    ReturnsInHanded {} Tryz.checked os 4 .any (fun w args => (Rows.logBadSpec.pre enc Tryz.prog Tryz.f4 [] false w args ∧ laidMetH Tryz.prog Rows.logBadRow.laid w) ∧ sizedMet enc Tryz.prog Tryz.f4 (OpenSpec.ofChange Rows.logBadSpec) false w args) (Rows.logBadSpec.post enc Tryz.prog Tryz.f4 false true false false) := by
  refine returnsInHanded_of_change_and (C := Tryz.checked) (X := fun w _ => laidMetH Tryz.prog Rows.logBadRow.laid w) (fun _ _ _ hh h => h.of_heap hh) Tryz.own started (by kernel_rfl) Tryz.func4
    (ChangeSpec.witness_shaped (enc := enc) (C := Tryz.checked) (os := os) (X := fun w _ => laidMetH Tryz.prog Rows.logBadRow.laid w) false (World.laidAll Tryz.prog os Rows.logBadRow.laid) #[.slice none 0 0, .int .i64 0, .int .i64 0] 8 (World.laidAll_os _ _ _)
      (World.shaped_of_ZipB (by kernel_rfl) (by kernel_rfl)) (by kernel_rfl) (by kernel_rfl) (by kernel_rfl)
      (by rw [MakeChecks.laidMetH_plain _ _ _ (by kernel_rfl)]; exact laidMet_laidAll _ (by kernel_rfl) (by kernel_rfl))) ?_
  intro W base args ds gs before hval0 hW _ hsz0 hL _
  have hval : ∀ (j : Nat) t v, Tryz.f4.params[j]? = some t → args[j]? = some v → Value.okWide Tryz.prog W .any base t v := hval0
  have hW' := hW
  obtain ⟨p, q, hA0, hV, rfl, hfz, hnd⟩ := hW
  have hA : DataW.TrodAll enc Tryz.prog W 0 (fun _ => true) true Tryz.f4.params.toList args.toList ds p := hA0
  rw [Tryz.params4] at hA hval
  rw [Tryz.params4] at hsz0
  obtain ⟨v0, vs0, d0, ds0, p0, q0, hargs, rfl, rfl, h0, r0⟩ := trodAll_cons hA
  obtain ⟨v1, vs1, d1, ds1, p1, q1, rfl, rfl, rfl, h1, r1⟩ := trodAll_cons r0
  obtain ⟨v2, vs2, d2, ds2, p2, q2, rfl, rfl, rfl, h2, r2⟩ := trodAll_cons r1
  obtain ⟨rfl, rfl, rfl⟩ := trodAll_nil r2
  obtain rfl : args = #[v0, v1, v2] := by cases args; simp_all
  obtain ⟨rfl, rfl⟩ := trodVars_none hV
  have k0 := h0
  have lt0 : ∀ x ∈ p0, x.block < W.heap.size := by obtain ⟨m, hm⟩ := k0; exact DataW.trod_lt m _ _ _ hm
  obtain ⟨n0, hn0⟩ := h0
  obtain ⟨x0, y0, z0, rfl⟩ := okWide_slice Tryz.underlying22 (hval 0 22 v0 rfl rfl)
  obtain ⟨a0, cap0, rs0, he0, w0⟩ := Tryz.is_recs (c := .slice x0 y0 z0) (y := (d0, p0)) hn0 (fun m (hm : m ∈ DataW.weights Tryz.prog 22 d0) => by simpa using List.all_eq_true.1 hsz0 m (DataW.weights_mem_each (j := 0) (t := 22) rfl rfl m hm))
  injection he0 with f0 f100 f200
  subst f0 f100 f200
  obtain ⟨a1, rfl, rfl, rfl, w1⟩ := open_int Tryz.underlying3 (hval 1 3 v1 rfl rfl) h1
  obtain ⟨a2, rfl, rfl, rfl, w2⟩ := open_int Tryz.underlying3 (hval 2 3 v2 rfl rfl) h2
  clear hA0 hval0
  refine (logBad_any W rs0 x0 z0 w0 a1 w1 a2 w2 (vs_of_laid (laid := Rows.logBadRow.laid) (by kernel_rfl) (by kernel_rfl) (by kernel_rfl) hL)).mono fun e W' ⟨he, bel⟩ => ?_
  subst he
  exact ⟨_, rfl, _, _, _, [], _, [], hW', trodAll_mk1 (shut_bool Tryz.underlying4 _), (trodAll_cons_mk (Below.trod Tryz.laidOut (by kernel_rfl) (of_decide_eq_true (by kernel_rfl)) k0 bel lt0) (trodAll_cons_mk (shut_int Tryz.underlying3 w1) (trodAll_cons_mk (shut_int Tryz.underlying3 w2) trodAll_mk0))), rfl, bel.frame _, fun h => by cases h⟩

theorem logBad_holds : Rows.LogBadSaid :=
  OpenClaim.holds_of_wide 4 Tryz.f4 rfl rfl rfl rfl rfl rfl rfl ⟨rfl, rfl, rfl, rfl, rfl⟩ rfl rfl rfl rfl rfl (by kernel_rfl) Tryz.func4 (by kernel_rfl)
    (of_decide_eq_true (by kernel_rfl)) (by unfold Func.isWrapper; first | (rw [if_pos (by decide +kernel)]; kernel_rfl) | (rw [if_neg (by decide +kernel)]; exact ⟨rfl, rfl⟩))
    (fun os started H enc _ => logBad_lifted os started H enc)
theorem logBad_card : Rows.LogBadCardSaid :=
  Claim7.holds_tied_plain_at .later [] [.data, .data, .data, .data, .sentinel, .sentinel, .pinned] true (true, "58d9983032dbccffcfbffa442944cf77f3c44ff1702e3859a6311647efee5fd6") true logBad_holds (fun _ h => by cases h) (by kernel_rfl) (fun _ h => by cases h) logBad_row_tie rfl ⟨rfl, rfl⟩ (by kernel_rfl) rfl
    (fun f fn hf hfn => by
      obtain rfl : f = 4 := Option.some.inj ((show Tryz.prog.funcNamed Rows.logBadRow.func = some 4 by kernel_rfl).symm.trans hf) |>.symm
      obtain rfl : fn = Tryz.f4 := (Option.some.inj (Tryz.func4.symm.trans hfn)).symm
      exact ⟨by kernel_rfl, fun j t ht => by
        rw [Tryz.params4] at ht
        have hm : t ∈ [22, 3, 3] := by simpa using Array.mem_of_getElem? ht
        have hall : ([22, 3, 3].all fun u => !Tryz.prog.wantsStandIn u) = true := by kernel_rfl
        exact (show Tryz.prog.wantsStandIn t = false by simpa using List.all_eq_true.1 hall t hm)⟩)
    (by kernel_rfl)
#print axioms logBad_card

end Go.Proofs.YtgbegdgacjodcaaGreatDoor
