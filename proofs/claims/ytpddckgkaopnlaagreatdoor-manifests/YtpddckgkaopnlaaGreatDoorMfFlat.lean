/- What package manifest's readLine answers for a line that is not deep; the conditions: the reader and the table of blanks lie in memory, the line is plain. -/
import Derived.Test.YtpddckgkaopnlaaGreatDoorBnMfFields
namespace Go.Proofs.YtpddckgkaopnlaaGreatDoor
open Go.RowKit

theorem cut_hd (l : Tx) : (cutT l 32).1 = (hdL l).1 ∧ (cutT l 32).2.1 = (hdL l).2 := by
  unfold cutT hdL
  cases ctL 32 l <;> exact ⟨rfl, rfl⟩
theorem ctL_mem {d : UInt8} : ∀ {l : Tx} {x : Tx × Tx}, ctL d l = some x → ∀ c ∈ x.2, c ∈ l
  | [], x, h, c, hc => by cases h
  | a :: r, x, h, c, hc => by
    unfold ctL at h
    split at h
    · cases h; exact List.mem_cons_of_mem _ hc
    · cases hr : ctL d r with
      | none => rw [hr] at h; cases h
      | some y => rw [hr] at h; cases h; exact List.mem_cons_of_mem _ (ctL_mem hr c hc)
theorem hd_plain {l : Tx} (h : plainL l = true) : plainL (hdL l).2 = true := by
  unfold hdL
  cases hc : ctL 32 l with
  | none => rfl
  | some x => exact List.all_eq_true.2 (fun c hcc => List.all_eq_true.1 h c (ctL_mem hc c hcc))

def aT : Value := .func (.func 28) #[] #[]
def aV : Value := .func (.func 29) #[] #[]

set_option maxRecDepth 20000 in
set_option maxHeartbeats 8000000 in
theorem flat_any (B R : Nat) (s : Sm) (t : ByteArray) (w : World) (h : MS B w R s) (hB : B ≤ w.heap.size) (htab : TabB B w) (ht : t.size ≤ 3000) (hp : plainL (bl t) = true) :
    Calls Tryz.prog 12 #[.pointer (some ⟨R, 0, none⟩), .agg #[.bool false, .string t]] w (LSays B R (flL s (bl t)) w) := by
  have HTab := hide htab
  have HP := hide hp
  have HMS := hide h
  clear htab hp h
  go_enter Tryz.func12, Tryz.ntmps12
  go_upto_region 6 with fail
  have hlb := Blk.new w #[.bool false, .string t] 51
  have qlb := (Q.refl w).alloc (.cells #[.bool false, .string t] 51)
  generalize hLB : w.heap.size = LB at hlb ⊢
  have HLB := hide hLB
  generalize w.alloc (.cells #[.bool false, .string t] 51) = w1 at *
  have hBq : Below B w w1 := qlb.mono hB
  have hB1 : B ≤ w1.heap.size := Nat.le_trans hB qlb.size
  obtain ⟨ok, A, vT, vV, hr, hu⟩ := (unhide HMS).q qlb
  have c6 := hr.cells.c6
  have HR := hide hr
  have HOK := hide ok
  have HU := hide hu
  have HL := hide hlb
  clear hr ok hu HMS hlb qlb hLB
  go_cut [8] from 12 (fun v wc => v = .int .i64 (exE (ovL s)) ∧ Hid (Below B w wc) ∧ Hid (∀ s1, ovL s = .ok s1 → SmOk s1 ∧ ∃ A vT vV, Rd B wc R s1 A vT vV) ∧ Hid (Blk wc LB #[.bool false, .string t] 51))
  case first =>
    unfold UnS at HU
    cases hun : s.un with
    | none =>
      rw [hun] at HU
      obtain ⟨rfl, rfl⟩ := unhide HU
      have HC := hide (over_none B R s A _ _ w1 (unhide HR) (unhide HOK) hun)
      clear hun HU
      go_wp2_with fail
      refine (unhide HC).mono ?_
      rintro e w3 ⟨rfl, hb3, ho3, hl3⟩
      have HB3 := hide (Below.trans hBq hb3)
      have HO3 := hide ho3
      have HL3 := hide (hl3 _ _ (unhide HL))
      clear hb3 ho3 hl3
      go_wp2_with fail
      go_meet
      case rel => exact ⟨rfl, HB3, HO3, HL3⟩
    | some u =>
      cases u with
      | inl r =>
        rw [hun] at HU
        obtain ⟨M, RB, h1, h2, h3, h4, h5, h6⟩ := unhide HU
        have HC := hide (over_rule B R s A vT vV r M RB w1 (unhide HR) hB1 (unhide HOK) hun h3 h4)
        subst h2
        clear hun HU h1 h3 h4 h6
        go_wp2_with fail
        refine (unhide HC).mono ?_
        rintro e w3 ⟨rfl, hb3, ho3, hl3⟩
        have HB3 := hide (Below.trans hBq hb3)
        have HO3 := hide ho3
        have HL3 := hide (hl3 _ _ (unhide HL))
        clear hb3 ho3 hl3
        go_wp2_with fail
        go_meet
        case rel => exact ⟨rfl, HB3, HO3, HL3⟩
      | inr u =>
        cases u with
        | inl r =>
          rw [hun] at HU
          obtain ⟨M, RB, h1, h2, h3, h4, h5, h6⟩ := unhide HU
          have HC := hide (over_pool B R s A vT vV r M RB w1 (unhide HR) hB1 (unhide HOK) hun h3 h4)
          subst h2
          clear hun HU h1 h3 h4 h6
          go_wp2_with fail
          refine (unhide HC).mono ?_
          rintro e w3 ⟨rfl, hb3, ho3, hl3⟩
          have HB3 := hide (Below.trans hBq hb3)
          have HO3 := hide ho3
          have HL3 := hide (hl3 _ _ (unhide HL))
          clear hb3 ho3 hl3
          go_wp2_with fail
          go_meet
          case rel => exact ⟨rfl, HB3, HO3, HL3⟩
        | inr x =>
          rw [hun] at HU
          obtain ⟨G, BY, O, RB, y, oo, oc, h1, h2, h3, h4, h5, h6, h7, h8, h9, h10, h11, h12, h13⟩ := unhide HU
          have HC := hide (over_build B R s A vT vV x G BY O RB y oo oc w1 (unhide HR) hB1 (unhide HOK) hun h3 h4 h5 h6 h7 h8 h9 h10 h11 h13)
          subst h2
          clear hun HU h1 h3 h4 h5 h6 h7 h8 h9 h10 h13
          go_wp2_with fail
          refine (unhide HC).mono ?_
          rintro e w3 ⟨rfl, hb3, ho3, hl3⟩
          have HB3 := hide (Below.trans hBq hb3)
          have HO3 := hide ho3
          have HL3 := hide (hl3 _ _ (unhide HL))
          clear hb3 ho3 hl3
          go_wp2_with fail
          go_meet
          case rel => exact ⟨rfl, HB3, HO3, HL3⟩
  case rest =>
    obtain ⟨rfl, HB2, HO2, HL2⟩ := hcut
    clear HU HR HOK HL c6 hB1 hBq
    cases hx : ovL s with
    | error n =>
      have HX : Hid (flL s (bl t) = .error n) := by show _ = _; unfold flL; rw [hx]
      have hn0 : n ≠ 0 := by rcases ovL_err hx with e | e <;> omega
      have g0 : (n == 0) = false := by simpa using hn0
      have g1 : (n != 0) = true := by simpa using hn0
      have ee : exE (Except.error n : Except Int Sm) = n := rfl
      clear hx hn0
      rw [ee]
      clear ee
      go_wp2_with fail
      go_ret
      exact LSays.err HX.out HB2.out
    | ok s1 =>
      have HX : Hid (flL s (bl t) = fwL s1 (bl t)) := by show _ = _; unfold flL; rw [hx]
      have HUN := hide (ovL_un hx)
      obtain ⟨ok1, A1, xT, xV, hr1⟩ := HO2.out s1 hx
      have ee : exE (Except.ok s1 : Except Int Sm) = 0 := rfl
      rw [ee]
      have HR1 := hide hr1
      have HOK1 := hide ok1
      have hB2s : B ≤ wc.heap.size := Nat.le_trans hB HB2.out.size
      have HTab2 := hide ((unhide HTab).below HB2.out)
      clear ee hx ok1 hr1 HO2
      go_wp2_with fail
      refine (alone_any _).mono ?_
      rintro e w3 ⟨rfl, q3⟩
      have hr3 := (unhide HR1).q q3
      obtain ⟨c0, c1, c2, c3, c4, c5, c6, frz⟩ := hr3.cells
      have f5 := frz 5
      have f6 := frz 6
      have hl3 := HL2.out.q q3
      have hne : LB ≠ R := Blk.ne hl3 hr3.blk (by decide)
      have hl4 := hl3.set2 (R := R) hne aT aV
      have hr4 := hr3.under none aT aV
      rw [wU_none (unhide HUN)] at hr4
      have hB4 : Below B w ((w3.setCell ⟨R, 5, none⟩ aT).setCell ⟨R, 6, none⟩ aV) := set2_below (Below.trans HB2.out (q3.mono hB2s)) hr3.lo aT aV
      have HR4 := hide hr4
      have HL4 := hide hl4
      have HB4 := hide hB4
      clear c0 c1 c2 c3 c4 frz hl3 hl4 hr3 hr4 hB4
      go_upto_region 10 with fail
      change Code.wp _ _ _ _ ((w3.setCell ⟨R, 5, none⟩ aT).setCell ⟨R, 6, none⟩ aV)
      generalize (w3.setCell ⟨R, 5, none⟩ aT).setCell ⟨R, 6, none⟩ aV = w4 at *
      have l1 : w4.cell? ⟨LB, 1, none⟩ = some (.string t) := (unhide HL4).cell 1 rfl
      clear c5 c6 f5 f6 q3 HR1 HL2 HB2 HTab2
      have HTab4 := hide ((unhide HTab).below (unhide HB4))
      have hCT := hide (cut1_any t 32 w4 (by unfold maxLen; omega))
      rw [(cut_hd (bl t)).1, (cut_hd (bl t)).2] at hCT
      generalize (cutT (bl t) 32).2.2 = fnd at hCT
      have HPR := hide (hd_plain (unhide HP))
      have HFW : Hid (fwL s1 (bl t) = (if (hdL (bl t)).1 = kRule then ruL s1 (trL (hdL (bl t)).2) else if (hdL (bl t)).1 = kPool then poL s1 (trL (hdL (bl t)).2) else if (hdL (bl t)).1 = kBuild then buL s1 (hdL (bl t)).2 else if (hdL (bl t)).1 = kDefault then deL s1 (wdL (hdL (bl t)).2) else biL s1 (bl t))) := rfl
      go_wp2_with fail
      refine (unhide hCT).mono ?_
      rintro e w5 ⟨x, y, rfl, hxx, hyy, hxs, hys, q5⟩
      have hr5 := (unhide HR4).q q5
      have hB4s : B ≤ w4.heap.size := Nat.le_trans hB (unhide HB4).size
      have hb5 : Below B w w5 := Below.trans (unhide HB4) (q5.mono hB4s)
      have hB5s : B ≤ w5.heap.size := Nat.le_trans hB4s q5.size
      have l5 : w5.cell? ⟨LB, 1, none⟩ = some (.string t) := ((unhide HL4).q q5).cell 1 rfl
      have HR5 := hide hr5
      have HB5 := hide hb5
      have HTab5 := hide ((unhide HTab).below hb5)
      have HFX : Hid (flL s (bl t) = (if bl x = kRule then ruL s1 (trL (bl y)) else if bl x = kPool then poL s1 (trL (bl y)) else if bl x = kBuild then buL s1 (bl y) else if bl x = kDefault then deL s1 (wdL (bl y)) else biL s1 (bl t))) := by
        show _ = _
        rw [HX.out, HFW.out, hxx, hyy]
      rw [← hyy] at HPR
      have hy4 : y.size ≤ 4096 := by omega
      have hz : (⟨(trL (bl y)).toArray⟩ : ByteArray).size ≤ 4096 := by
        rw [← bl_size]; show (trL (bl y)).length ≤ 4096
        have := tr_len (bl y); rw [bl_size] at this; omega
      have HTR := hide (trim_any y w5 (by unfold maxLen; omega))
      clear hr5 hb5 hxx hyy HX HFW hCT HR4 HB4 HL4 HTab4 HTab l1 q5
      have hTZ : trL (bl y) = bl ⟨(trL (bl y)).toArray⟩ := rfl
      by_cases k1 : bl x = kRule
      · have HFE := hide HFX.out
        rw [if_pos k1, hTZ] at HFE
        clear HFX
        have e1 : (x.toList == [114, 117, 108, 101]) = true := is_key k1
        clear k1 hTZ
        generalize (⟨(trL (bl y)).toArray⟩ : ByteArray) = z at *
        go_wp2_with fail
        refine (unhide HTR).mono ?_
        rintro e w6 ⟨rfl, q6⟩
        have hr6 := (unhide HR5).q q6
        have HB6 := hide (Below.trans (unhide HB5) (q6.mono hB5s))
        have HC := hide (readRule_any B R s1 A1 aT aV z w6 hr6 (Nat.le_trans hB5s q6.size) (unhide HOK1) hz)
        clear hr6 q6
        go_wp2_with fail
        refine (unhide HC).mono ?_
        intro e w7 h7
        obtain ⟨en, rfl⟩ := h7.num
        have H7 := hide h7
        clear h7
        go_wp2_with fail
        go_ret
        rw [HFE.out]; exact LSays.after (unhide HB6) (unhide H7)
      rw [if_neg k1] at HFX
      have e1 : (x.toList == [114, 117, 108, 101]) = false := no_key k1
      by_cases k2 : bl x = kPool
      · have HFE := hide HFX.out
        rw [if_pos k2, hTZ] at HFE
        clear HFX
        have e2 : (x.toList == [112, 111, 111, 108]) = true := is_key k2
        clear k1 k2 hTZ
        generalize (⟨(trL (bl y)).toArray⟩ : ByteArray) = z at *
        go_wp2_with fail
        refine (unhide HTR).mono ?_
        rintro e w6 ⟨rfl, q6⟩
        have hr6 := (unhide HR5).q q6
        have HB6 := hide (Below.trans (unhide HB5) (q6.mono hB5s))
        have HC := hide (readPool_any B R s1 A1 aT aV z w6 hr6 (Nat.le_trans hB5s q6.size) (unhide HOK1) hz)
        clear hr6 q6
        go_wp2_with fail
        refine (unhide HC).mono ?_
        intro e w7 h7
        obtain ⟨en, rfl⟩ := h7.num
        have H7 := hide h7
        clear h7
        go_wp2_with fail
        go_ret
        rw [HFE.out]; exact LSays.after (unhide HB6) (unhide H7)
      rw [if_neg k2] at HFX
      have e2 : (x.toList == [112, 111, 111, 108]) = false := no_key k2
      by_cases k3 : bl x = kBuild
      · have HFE := hide HFX.out
        rw [if_pos k3] at HFE
        clear HFX
        have e3 : (x.toList == [98, 117, 105, 108, 100]) = true := is_key k3
        have HC := hide (readBuild_any B R s1 A1 aT aV y w5 (unhide HR5) hB5s (unhide HOK1) hy4)
        clear k1 k2 k3 hTZ HTR
        go_wp2_with fail
        refine (unhide HC).mono ?_
        intro e w7 h7
        obtain ⟨en, rfl⟩ := h7.num
        have H7 := hide h7
        clear h7
        go_wp2_with fail
        go_ret
        rw [HFE.out]; exact LSays.after (unhide HB5) (unhide H7)
      rw [if_neg k3] at HFX
      have e3 : (x.toList == [98, 117, 105, 108, 100]) = false := no_key k3
      by_cases k4 : bl x = kDefault
      · have HFE := hide HFX.out
        rw [if_pos k4] at HFE
        clear HFX
        have e4 : (x.toList == [100, 101, 102, 97, 117, 108, 116]) = true := is_key k4
        have HF := hide (fields_any B y w5 hy4 (unhide HPR) (unhide HTab5))
        clear k1 k2 k3 k4 hTZ HTR
        have hwl := wdL_len (bl y)
        have HWM : Hid (∀ p ∈ wdL (bl y), p.length ≤ 4096) := fun p hp => by have := wdL_mem hp; rw [bl_size] at this; omega
        rw [bl_size] at hwl
        generalize wdL (bl y) = ws at *
        have HAP : Hid (∀ k, (Value.slice (some ⟨w5.heap.size, 0, none⟩) ws.length ws.length).ownBlock = some k → k ∉ adB A1 s1) := fun k hk hm => by
          cases hk
          have := ((unhide HR5).ro.mem _ hm).2
          exact absurd this (Nat.lt_irrefl _)
        go_wp2_with fail
        refine (unhide HF).mono ?_
        rintro e w6 ⟨rfl, ho6, q6⟩
        have hr6 := (unhide HR5).q q6
        have HB6 := hide (Below.trans (unhide HB5) (q6.mono hB5s))
        have HC := hide (readDefaults_any B R s1 A1 aT aV _ _ ws w6 hr6 ⟨rfl, rfl⟩ (Nat.le_trans hB5s q6.size) (unhide HOK1) (own_low ho6 hB5s) HAP.out (by omega) HWM.out)
        clear hr6 q6 ho6
        go_wp2_with fail
        refine (unhide HC).mono ?_
        intro e w7 h7
        obtain ⟨en, rfl⟩ := h7.num
        have H7 := hide h7
        clear h7
        go_wp2_with fail
        go_ret
        rw [HFE.out]; exact LSays.after (unhide HB6) (unhide H7)
      rw [if_neg k4] at HFX
      have HFE := HFX
      have e4 : (x.toList == [100, 101, 102, 97, 117, 108, 116]) = false := no_key k4
      have HC := hide (readBind_any B R s1 A1 aT aV t w5 (unhide HR5) ⟨rfl, rfl⟩ hB5s (unhide HOK1) (by omega))
      clear k1 k2 k3 k4 hTZ HTR
      go_wp2_with fail
      refine (unhide HC).mono ?_
      intro e w7 h7
      obtain ⟨en, rfl⟩ := h7.num
      have H7 := hide h7
      clear h7
      go_wp2_with fail
      go_ret
      rw [HFE.out]; exact LSays.after (unhide HB5) (unhide H7)

end Go.Proofs.YtpddckgkaopnlaaGreatDoor
