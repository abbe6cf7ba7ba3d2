/- Logs, whole: any records, any text, any name: what Text, Load, Last, Compact and May answer is what the document's own text answers; the records that were handed stay, with the room behind them; no conditions. -/
import Derived.Test.YtgbegdgacjodcaaGreatDoorRows
import Derived.Test.YtgbegdgacjodcaaGreatDoorCards
import Derived.Test.YtgbegdgacjodcaaGreatDoorTie
import Derived.LaidMore
import Derived.Lay
import Derived.SevenTiedAt
import Derived.Stop.Joined
import Derived.ProofKit
import Derived.OpenShut
import Derived.ShutString
import Derived.ChangeOld
import Derived.Below
import Derived.SizedLaws
import Derived.Test.YtgbegdgacjodcaaGreatDoorLoAwake
import Derived.Test.YtgbegdgacjodcaaGreatDoorLoLend
import Derived.Test.YtgbegdgacjodcaaGreatDoorLoOpen
import Derived.Test.YtgbegdgacjodcaaGreatDoorLoRef
import Derived.Test.YtgbegdgacjodcaaGreatDoorLoRLast
import Derived.Test.YtgbegdgacjodcaaGreatDoorLoRCompact
import Derived.Test.YtgbegdgacjodcaaGreatDoorLoRLoad
namespace Go.Proofs.YtgbegdgacjodcaaGreatDoor
open Go.ChangeShapes Go.WideShapes Go.ChangeAt Go.RowKit
open Go.ChangeMaps (open_string shut_string)

theorem cpl_len (rs : Rs) : (cpL rs).length ≤ 256 := by
  unfold cpL
  split
  · rename_i h
    have h1 := (lo_parts h).1
    have h2 := cmR_len rs
    omega
  · simp
theorem sameR_self (ao bo : Option Addr) (cap bcap : Nat) (ps : Rs) (w : World) (ha : RowR w ao ps) (hb : RowR w bo ps) (hn : ps.length ≤ 256) :
    Calls Tryz.prog 15 #[.slice ao ps.length cap, .slice bo ps.length bcap] w fun e w' => e = .returned (.bool true) ∧ Q w w' := by
  have h := sameR_any ao bo cap bcap ps ps w ha hb (by unfold maxLen; omega)
  rwa [decide_eq_true (rfl : ps = ps)] at h

set_option maxRecDepth 20000 in
set_option maxHeartbeats 16000000 in
theorem logs_any (w : World) (rs : Rs) (ao : Option Addr) (cap : Nat) (hd : IsRs w rs ao cap) (s : ByteArray) (hs : s.size ≤ reachBytes) (n : ByteArray) (_ : n.size ≤ maxLen) (hv : Vs w) :
    Calls Tryz.prog 3 #[.slice ao rs.length cap, .string s, .string n] w fun e w' => e = .returned (.bool true) ∧ Q w w' := by
  have heq := eqR
  have hgd := Tryz.guardR
  have HR := hide hd.r
  have HZ := hide hd.z
  have HN := hide hd.n
  have HC := hide hd.cap
  have H40 : Hid ((rs.length + 2) * 40 ≤ 140737488355328) := by show _ ≤ _; have h1 := hd.s; have h2 := hd.n; unfold reachBytes at h1; omega
  have H47 : Hid (rs.length ≤ 140737488355328) := by have := H40.out; show _ ≤ _; omega
  have hs' : s.size ≤ 140737488355328 := by unfold reachBytes at hs; omega
  have HS := hide hs'
  have HV := hide hv
  have HLL : Hid ((ldL (bl s)).length ≤ 256) := ld_le 256 _
  have HCL := hide (cpl_len rs)
  clear hd hs hs' hv
  go_enter Tryz.func3, Tryz.ntmps3
  go_wp2_with fail
  refine (lendR_any rs ao cap w HR.out H40.out).mono ?_
  rintro e w1 ⟨g, c1, rfl, hc1, hc2, own1, q1⟩
  have HXR := hide (RowR.front (OwnR.row own1))
  have HXO := hide own1
  have HC1 := hide hc1
  have HW := hide q1
  have HQ1 := hide (Q.refl w1)
  clear own1 hc1 hc2 q1
  obtain ⟨tE, htE⟩ : ∃ y, loE rs = y := ⟨_, rfl⟩
  obtain ⟨xt, hxt⟩ : ∃ y, (⟨(loT rs).toArray⟩ : ByteArray) = y := ⟨_, rfl⟩
  obtain ⟨vk, hvk⟩ : ∃ y, loOk rs = y := ⟨_, rfl⟩
  obtain ⟨X, hX⟩ : ∃ y, laV rs (bl n) = y := ⟨_, rfl⟩
  obtain ⟨vb, hvb⟩ : ∃ y, laB rs (bl n) = y := ⟨_, rfl⟩
  obtain ⟨L, hL⟩ : ∃ y, ldL (bl s) = y := ⟨_, rfl⟩
  obtain ⟨P, hP⟩ : ∃ y, cpL rs = y := ⟨_, rfl⟩
  have F1 := hide (fun u (q : Q w1 u) => loText_any rs (some ⟨g, 0, none⟩) c1 u ((unhide HV).q ((unhide HW).trans q)) (RowG.q HXR.out q) HZ.out H47.out)
  have F2 := hide (fun u (q : Q w1 u) => rloText_any rs ao cap u (RowG.q HR.out ((unhide HW).trans q)) HZ.out HN.out HC.out)
  have F3 := hide (fun u (q : Q w1 u) => loLoad_any s u ((unhide HV).q ((unhide HW).trans q)) HS.out)
  have F4 := hide (fun u (q : Q w1 u) => loLast_any rs n (some ⟨g, 0, none⟩) c1 u (RowG.q HXR.out q) HZ.out H47.out)
  have F5 := hide (fun u (q : Q w1 u) => rloLast_any rs n ao cap u (RowG.q HR.out ((unhide HW).trans q)) HZ.out HN.out HC.out)
  have F6 := hide (fun u (q : Q w1 u) => loCompact_any rs (some ⟨g, 0, none⟩) c1 u (RowG.q HXR.out q) HZ.out H47.out)
  have F7 := hide (fun u (q : Q w1 u) => rloCompact_any rs ao cap u (RowG.q HR.out ((unhide HW).trans q)) HZ.out HN.out HC.out)
  have F8 := hide (fun u => rloLoad_any s u HS.out)
  have F9 := hide (fun u (q : Q w1 u) => loMay_any rs (some ⟨g, 0, none⟩) c1 u (RowG.q HXR.out q) HZ.out H47.out)
  have F10 := hide (fun u (q : Q w1 u) => rloMay_any rs ao cap u (RowG.q HR.out ((unhide HW).trans q)) HZ.out HN.out HC.out)
  have F11 := hide (fun u (q : Q w1 u) (B : Nat) (h : OwnR u B (some ⟨g, 0, none⟩) c1 (rs ++ [xR, xR])) => keptR_any rs g c1 B ao cap u h (RowG.q HR.out ((unhide HW).trans q)) H40.out HC1.out)
  have F12 := hide (fun u (q : Q w1 u) => loawake_any u ((unhide HV).q ((unhide HW).trans q)))
  rw [htE, hxt] at F1 F2
  rw [hL] at F3 F8 HLL
  rw [hX, hvb] at F4 F5
  rw [hP, htE] at F6 F7
  rw [hP] at HCL
  rw [hvk] at F9 F10
  clear htE hxt hvk hX hvb hL hP HV
  obtain ⟨X1, X2, X3⟩ := X
  unfold rcV at F4 F5
  dsimp only at F4 F5
  generalize (⟨X1.toArray⟩ : ByteArray) = x1 at F4 F5
  generalize (⟨X3.toArray⟩ : ByteArray) = x3 at F4 F5
  have e1 : (xt.toList == xt.toList) = true := by simp
  have e2 : (x1.toList == x1.toList) = true := by simp
  have e3 : (x3.toList == x3.toList) = true := by simp
  have e4 : (vb != vb) = false := by simp
  have e5 : (vk != vk) = false := by simp
  have e6 : (xt.toList != xt.toList) = false := by simp
  go_wp2_with fail
  refine (unhide F1 w1 (unhide HQ1)).mono ?_
  rintro e w2 ⟨rfl, q2⟩
  replace HQ1 := hide ((unhide HQ1).trans q2)
  clear q2
  go_wp2_with fail
  refine (unhide F2 w2 (unhide HQ1)).mono ?_
  rintro e w3 ⟨rfl, q3⟩
  replace HQ1 := hide ((unhide HQ1).trans q3)
  clear q3
  go_wp2_with fail
  refine (unhide F3 w3 (unhide HQ1)).mono ?_
  rintro e w4 ⟨lo, lc, rfl, ownL, q4⟩
  have HB3 := hide (unhide HQ1).size
  have HB4 := hide q4.size
  replace HQ1 := hide ((unhide HQ1).trans q4)
  have HOL := hide ownL
  have HQ4 := hide (Q.refl w4)
  clear q4 ownL
  go_wp2_with fail
  refine (unhide F4 w4 (unhide HQ1)).mono ?_
  rintro e w5 ⟨rfl, q5⟩
  have HX5 := hide (bxR_b w5 x1 X2 x3)
  replace HQ1 := hide ((unhide HQ1).trans (q5.trans (bxR_q w5 x1 X2 x3)))
  replace HQ4 := hide ((unhide HQ4).trans (q5.trans (bxR_q w5 x1 X2 x3)))
  have HQ5 := hide (Q.refl (bxR w5 x1 X2 x3))
  unfold bxR at HX5 HQ1 HQ4 HQ5
  clear q5
  go_wp2_with fail
  generalize w5.alloc (.cells #[.string x1, .int .i64 X2, .string x3] 31) = v5 at *
  refine (unhide F5 v5 (unhide HQ1)).mono ?_
  rintro e w6 ⟨rfl, q6⟩
  have HX6 := hide (bxR_b w6 x1 X2 x3)
  replace HQ1 := hide ((unhide HQ1).trans (q6.trans (bxR_q w6 x1 X2 x3)))
  replace HQ4 := hide ((unhide HQ4).trans (q6.trans (bxR_q w6 x1 X2 x3)))
  replace HQ5 := hide ((unhide HQ5).trans (q6.trans (bxR_q w6 x1 X2 x3)))
  have HQ6 := hide (Q.refl (bxR w6 x1 X2 x3))
  unfold bxR at HX6 HQ1 HQ4 HQ5 HQ6
  clear q6
  go_wp2_with fail
  generalize w6.alloc (.cells #[.string x1, .int .i64 X2, .string x3] 31) = v6 at *
  refine (unhide F6 v6 (unhide HQ1)).mono ?_
  rintro e w7 ⟨po, pc, rfl, ownP, q7⟩
  have HB6 := hide (unhide HQ4).size
  replace HQ1 := hide ((unhide HQ1).trans q7)
  replace HQ4 := hide ((unhide HQ4).trans q7)
  replace HQ5 := hide ((unhide HQ5).trans q7)
  replace HQ6 := hide ((unhide HQ6).trans q7)
  have HOP := hide ownP
  have HQ7 := hide (Q.refl w7)
  clear q7 ownP
  go_wp2_with fail
  refine (unhide F7 w7 (unhide HQ1)).mono ?_
  rintro e w8 ⟨qo, qc, rfl, ownQ, q8⟩
  replace HQ1 := hide ((unhide HQ1).trans q8)
  replace HQ4 := hide ((unhide HQ4).trans q8)
  replace HQ5 := hide ((unhide HQ5).trans q8)
  replace HQ6 := hide ((unhide HQ6).trans q8)
  replace HQ7 := hide ((unhide HQ7).trans q8)
  have HRQ := hide (OwnR.row ownQ)
  clear q8 ownQ
  generalize w5.heap.size = N5 at *
  generalize w6.heap.size = N6 at *
  go_wp2_with (go_at_call 14; refine (num_any _ _).mono ?_; rintro e w' ⟨rfl, hw'⟩; have hw2 := hw'.symm; clear hw'; subst hw2)
  refine (unhide F8 w8).mono ?_
  rintro e w9 ⟨mo, mc, rfl, ownM, q9⟩
  replace HQ1 := hide ((unhide HQ1).trans q9)
  replace HQ4 := hide ((unhide HQ4).trans q9)
  replace HQ5 := hide ((unhide HQ5).trans q9)
  replace HQ6 := hide ((unhide HQ6).trans q9)
  replace HQ7 := hide ((unhide HQ7).trans q9)
  replace HRQ := hide (RowG.q (unhide HRQ) q9)
  have HRM := hide (OwnR.row ownM)
  clear q9 ownM
  go_wp2_with fail
  refine (sameR_self lo mo lc mc L w9 (RowG.q (OwnR.row HOL.out) (unhide HQ4)) HRM.out HLL.out).mono ?_
  rintro e w10 ⟨rfl, q10⟩
  replace HQ1 := hide ((unhide HQ1).trans q10)
  replace HQ4 := hide ((unhide HQ4).trans q10)
  replace HQ5 := hide ((unhide HQ5).trans q10)
  replace HQ6 := hide ((unhide HQ6).trans q10)
  replace HQ7 := hide ((unhide HQ7).trans q10)
  replace HRQ := hide (RowG.q (unhide HRQ) q10)
  clear q10 HRM
  have k5 := (unhide HX5).q (unhide HQ5)
  have k6 := (unhide HX6).q (unhide HQ6)
  have a0 := k5.cell 0 rfl
  have a1 := k5.cell 1 rfl
  have a2 := k5.cell 2 rfl
  have b0 := k6.cell 0 rfl
  have b1 := k6.cell 1 rfl
  have b2 := k6.cell 2 rfl
  clear k5 k6
  go_wp2_with fail
  refine (sameR_self po qo pc qc P w10 (RowG.q (OwnR.row HOP.out) (unhide HQ7)) HRQ.out HCL.out).mono ?_
  rintro e w11 ⟨rfl, q11⟩
  replace HQ1 := hide ((unhide HQ1).trans q11)
  replace HQ4 := hide ((unhide HQ4).trans q11)
  replace HQ7 := hide ((unhide HQ7).trans q11)
  clear q11 a0 a1 a2 b0 b1 b2 HQ5 HQ6 HX5 HX6 HRQ
  go_wp2_with (go_at_call 14; refine (num_any _ _).mono ?_; rintro e w' ⟨rfl, hw'⟩; have hw2 := hw'.symm; clear hw'; subst hw2)
  refine (unhide F9 w11 (unhide HQ1)).mono ?_
  rintro e w12 ⟨rfl, q12⟩
  replace HQ1 := hide ((unhide HQ1).trans q12)
  replace HQ4 := hide ((unhide HQ4).trans q12)
  replace HQ7 := hide ((unhide HQ7).trans q12)
  clear q12
  go_wp2_with fail
  refine (unhide F10 w12 (unhide HQ1)).mono ?_
  rintro e w13 ⟨rfl, q13⟩
  replace HQ1 := hide ((unhide HQ1).trans q13)
  replace HQ4 := hide ((unhide HQ4).trans q13)
  replace HQ7 := hide ((unhide HQ7).trans q13)
  clear q13
  have HL13 : Hid (OwnR w13 w3.heap.size lo lc L) := own_q HOL.out (unhide HQ4)
  have HP13 : Hid (OwnR w13 v6.heap.size po pc P) := own_q HOP.out (unhide HQ7)
  have HSP := hide (spoilR_any lo lc w3.heap.size L w13 HL13.out (by have := HLL.out; omega))
  have HLTL : Hid (∀ k, (Value.slice lo L.length lc).ownBlock = some k → w3.heap.size ≤ k ∧ k < w4.heap.size) := fun k hk => HOL.out.lt k hk
  have HLTP : Hid (∀ k, (Value.slice po P.length pc).ownBlock = some k → v6.heap.size ≤ k) := fun k hk => (HOP.out.lt k hk).1
  go_wp2_with fail
  refine (unhide HSP).mono ?_
  rintro e w14 ⟨rfl, f14⟩
  have HP14 : Hid (OwnR w14 v6.heap.size po pc P) := own_fr HP13.out f14 (fun k hk hk2 => by
    have h1 := HLTP.out k hk
    have h2 := (HLTL.out k hk2).2
    have h3 := HB6.out
    omega)
  have HQ14 : Hid (Q w1 w14) := (Below.trans (unhide HQ1) (f14.below (unhide HQ1).size (fun k hk => by have h1 := (HLTL.out k hk).1; have h2 := HB3.out; omega)))
  have HSP2 := hide (spoilR_any po pc v6.heap.size P w14 HP14.out (by have := HCL.out; omega))
  have HB16 : Hid (w1.heap.size ≤ v6.heap.size) := by show _ ≤ _; have h6 := HB6.out; have h3 := HB3.out; have h4 := HB4.out; omega
  clear f14 HSP HP13 HL13
  go_wp2_with fail
  refine (unhide HSP2).mono ?_
  rintro e w15 ⟨rfl, f15⟩
  have HQ15 : Hid (Q w1 w15) := (Below.trans (unhide HQ14) (f15.below (unhide HQ14).size (fun k hk => by have h1 := HLTP.out k hk; have h2 := HB16.out; omega)))
  clear f15 HSP2
  go_wp2_with fail
  refine (unhide F11 w15 (unhide HQ15) w.heap.size (own_q HXO.out (unhide HQ15))).mono ?_
  rintro e w16 ⟨rfl, q16⟩
  replace HQ15 := hide ((unhide HQ15).trans q16)
  clear q16
  go_wp2_with fail
  refine (unhide F12 w16 (unhide HQ15)).mono ?_
  rintro e w17 ⟨rfl, q17⟩
  go_wp2_with fail
  go_ret
  exact ⟨rfl, (unhide HW).trans ((unhide HQ15).trans q17)⟩

theorem Tryz.laidOut : laidOutB Tryz.prog = true := by kernel_rfl
set_option maxRecDepth 100000 in
theorem logs_lifted (os : Os) (started : os.Started) (H : Type) (enc : TypeId × Value → H) :
    ReturnsInHanded {} Tryz.checked os 3 .any (fun w args => (Rows.logsSpec.pre enc Tryz.prog Tryz.f3 [] false w args ∧ laidMetH Tryz.prog Rows.logsRow.laid w) ∧ sizedMet enc Tryz.prog Tryz.f3 (OpenSpec.ofChange Rows.logsSpec) false w args) (Rows.logsSpec.post enc Tryz.prog Tryz.f3 false true false false) := by
  refine returnsInHanded_of_change_and (C := Tryz.checked) (X := fun w _ => laidMetH Tryz.prog Rows.logsRow.laid w) (fun _ _ _ hh h => h.of_heap hh) Tryz.own started (by kernel_rfl) Tryz.func3
    (ChangeSpec.witness_shaped (enc := enc) (C := Tryz.checked) (os := os) (X := fun w _ => laidMetH Tryz.prog Rows.logsRow.laid w) false (World.laidAll Tryz.prog os Rows.logsRow.laid) #[.slice none 0 0, .string ByteArray.empty, .string ByteArray.empty] 8 (World.laidAll_os _ _ _)
      (World.shaped_of_ZipB (by kernel_rfl) (by kernel_rfl)) (by kernel_rfl) (by kernel_rfl) (by kernel_rfl)
      (by rw [MakeChecks.laidMetH_plain _ _ _ (by kernel_rfl)]; exact laidMet_laidAll _ (by kernel_rfl) (by kernel_rfl))) ?_
  intro W base args ds gs before hval0 hW _ hsz0 hL _
  have hval : ∀ (j : Nat) t v, Tryz.f3.params[j]? = some t → args[j]? = some v → Value.okWide Tryz.prog W .any base t v := hval0
  have hW' := hW
  obtain ⟨p, q, hA0, hV, rfl, hfz, hnd⟩ := hW
  have hA : DataW.TrodAll enc Tryz.prog W 0 (fun _ => true) true Tryz.f3.params.toList args.toList ds p := hA0
  rw [Tryz.params3] at hA hval
  rw [Tryz.params3] at hsz0
  obtain ⟨v0, vs0, d0, ds0, p0, q0, hargs, rfl, rfl, h0, r0⟩ := trodAll_cons hA
  obtain ⟨v1, vs1, d1, ds1, p1, q1, rfl, rfl, rfl, h1, r1⟩ := trodAll_cons r0
  obtain ⟨v2, vs2, d2, ds2, p2, q2, rfl, rfl, rfl, h2, r2⟩ := trodAll_cons r1
  obtain ⟨rfl, rfl, rfl⟩ := trodAll_nil r2
  obtain rfl : args = #[v0, v1, v2] := by cases args; simp_all
  obtain ⟨rfl, rfl⟩ := trodVars_none hV
  have k0 := h0
  have lt0 : ∀ x ∈ p0, x.block < W.heap.size := by obtain ⟨m, hm⟩ := k0; exact DataW.trod_lt m _ _ _ hm
  obtain ⟨n0, hn0⟩ := h0
  obtain ⟨x0, y0, z0, rfl⟩ := okWide_slice Tryz.underlying22 (hval 0 22 v0 rfl rfl)
  obtain ⟨a0, cap0, rs0, he0, w0⟩ := Tryz.is_recs (c := .slice x0 y0 z0) (y := (d0, p0)) hn0 (fun m (hm : m ∈ DataW.weights Tryz.prog 22 d0) => by simpa using List.all_eq_true.1 hsz0 m (DataW.weights_mem_each (j := 0) (t := 22) rfl rfl m hm))
  injection he0 with f0 f100 f200
  subst f0 f100 f200
  obtain ⟨a1, rfl, rfl, rfl, w1⟩ := open_string Tryz.underlying9 (hval 1 9 v1 rfl rfl) h1
  have y1 : a1.size ≤ reachBytes := by have h := sized_string hsz0 (j := 1) (t := 9) rfl rfl; first | exact Nat.le_trans (Nat.le_of_eq (bl_size _).symm) h | (rw [bl_toList, bl_size] at h; exact h)
  obtain ⟨a2, rfl, rfl, rfl, w2⟩ := open_string Tryz.underlying9 (hval 2 9 v2 rfl rfl) h2
  clear hA0 hval0
  refine (logs_any W rs0 x0 z0 w0 a1 y1 a2 w2 (vs_of_laid (laid := Rows.logsRow.laid) (by kernel_rfl) (by kernel_rfl) (by kernel_rfl) hL)).mono fun e W' ⟨he, bel⟩ => ?_
  subst he
  exact ⟨_, rfl, _, _, _, [], _, [], hW', trodAll_mk1 (shut_bool Tryz.underlying4 _), (trodAll_cons_mk (Below.trod Tryz.laidOut (by kernel_rfl) (of_decide_eq_true (by kernel_rfl)) k0 bel lt0) (trodAll_cons_mk (shut_string Tryz.underlying9 w1) (trodAll_cons_mk (shut_string Tryz.underlying9 w2) trodAll_mk0))), rfl, bel.frame _, fun h => by cases h⟩

theorem logs_holds : Rows.LogsSaid :=
  OpenClaim.holds_of_wide 3 Tryz.f3 rfl rfl rfl rfl rfl rfl rfl ⟨rfl, rfl, rfl, rfl, rfl⟩ rfl rfl rfl rfl rfl (by kernel_rfl) Tryz.func3 (by kernel_rfl)
    (of_decide_eq_true (by kernel_rfl)) (by unfold Func.isWrapper; first | (rw [if_pos (by decide +kernel)]; kernel_rfl) | (rw [if_neg (by decide +kernel)]; exact ⟨rfl, rfl⟩))
    (fun os started H enc _ => logs_lifted os started H enc)
theorem logs_card : Rows.LogsCardSaid :=
  Claim7.holds_tied_plain_at .later [] [.data, .data, .data, .data, .sentinel, .sentinel, .pinned] true (true, "58d9983032dbccffcfbffa442944cf77f3c44ff1702e3859a6311647efee5fd6") true logs_holds (fun _ h => by cases h) (by kernel_rfl) (fun _ h => by cases h) logs_row_tie rfl ⟨rfl, rfl⟩ (by kernel_rfl) rfl
    (fun f fn hf hfn => by
      obtain rfl : f = 3 := Option.some.inj ((show Tryz.prog.funcNamed Rows.logsRow.func = some 3 by kernel_rfl).symm.trans hf) |>.symm
      obtain rfl : fn = Tryz.f3 := (Option.some.inj (Tryz.func3.symm.trans hfn)).symm
      exact ⟨by kernel_rfl, fun j t ht => by
        rw [Tryz.params3] at ht
        have hm : t ∈ [22, 9, 9] := by simpa using Array.mem_of_getElem? ht
        have hall : ([22, 9, 9].all fun u => !Tryz.prog.wantsStandIn u) = true := by kernel_rfl
        exact (show Tryz.prog.wantsStandIn t = false by simpa using List.all_eq_true.1 hall t hm)⟩)
    (by kernel_rfl)
#print axioms logs_card

end Go.Proofs.YtgbegdgacjodcaaGreatDoor
