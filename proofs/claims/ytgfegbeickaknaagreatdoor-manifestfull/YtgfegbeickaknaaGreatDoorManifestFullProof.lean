/- The statement on one rule, pool, edge, default, variable more than may be holds for all numbers; no conditions. -/
import Derived.Test.YtgfegbeickaknaaGreatDoorRows
import Derived.Test.YtgfegbeickaknaaGreatDoorCards
import Derived.Test.YtgfegbeickaknaaGreatDoorTie
import Derived.LaidMore
import Derived.Lay
import Derived.SevenTiedAt
import Derived.Stop.Joined
import Derived.ProofKit
import Derived.OpenShut
import Derived.ShutString
import Derived.ChangeOld
import Derived.Below
import Derived.SizedLaws
import Derived.Test.YtgfegbeickaknaaGreatDoorPk1
import Derived.Test.YtgfegbeickaknaaGreatDoorMfAwake
import Derived.Test.YtgfegbeickaknaaGreatDoorMfTab
import Derived.Test.YtgfegbeickaknaaGreatDoorWk1
namespace Go.Proofs.YtgfegbeickaknaaGreatDoor
open Go.ChangeShapes Go.WideShapes Go.ChangeAt Go.RowKit

theorem of_byte {c : UInt8} {k : Nat} (h : (c.toNat : Int) = 97 + (k : Int)) : c = UInt8.ofNat (97 + k) := by
  rw [show 97 + k = c.toNat by omega, UInt8.ofNat_toNat]

set_option maxRecDepth 20000 in
set_option maxHeartbeats 16000000 in
theorem manifestFull_any (a : Int) (_ : (Lit.int .i64 a).wf = true) (w : World) (htab : TabB w.heap.size w) :
    Calls Tryz.prog 5 #[.int .i64 a] w fun e w' => e = .returned (.bool true) ∧ Q w w' := by
  have HT := hide htab
  clear htab
  obtain ⟨r, hr5, hr⟩ := umod a 5 (by decide) (by decide)
  have hr' : wrap64 ((IntKind.u64.wrap a).tmod 5) = (r : Int) := hr
  clear hr
  rcases (by omega : r = 0 ∨ r = 1 ∨ r = 2 ∨ r = 3 ∨ r = 4) with rfl | rfl | rfl | rfl | rfl
  · go_enter Tryz.func5, Tryz.ntmps5
    go_wp2_with fail
    refine (mfawake_any _ (unhide HT)).mono ?_
    rintro e w1 ⟨rfl, q1⟩
    go_wp2_with fail
    go_loopw [3, 5] (fun sv i wr => ∃ (k : Nat) (t : ByteArray), k ≤ 7 ∧ i = .int .i64 k ∧ sv = .string t ∧ t.size = 21 + 21 * k ∧ Hid (bl t = fAL k) ∧ Q w1 wr) (fun _ i _ => 7 - (intOf i).toNat)
    case atStart => exact ⟨0, ⟨#[114, 117, 108, 101, 32, 99, 99, 10, 32, 99, 111, 109, 109, 97, 110, 100, 32, 61, 32, 120, 10]⟩, Nat.zero_le _, rfl, rfl, rfl, rfl, Q.refl _⟩
    case round =>
      obtain ⟨k, t, hk, rfl, rfl, hts, HTL, hq⟩ := hrel
      by_cases hlt : k < 7
      · obtain ⟨c, hcc, hcv⟩ := str_int (97 + (k : Int)) (by omega) (by omega)
        have HN : Hid (bl (t ++ ⟨#[114, 117, 108, 101, 32, 114]⟩ ++ ⟨#[c]⟩ ++ ⟨#[10, 32, 99, 111, 109, 109, 97, 110, 100, 32, 61, 32, 120, 10]⟩) = fAL (k + 1)) := by
          show _ = _
          rw [fA_succ, bl_app, bl_app, bl_app, HTL.out, of_byte hcc]
          simp only [List.append_assoc]; rfl
        have HZ : Hid ((t ++ ⟨#[114, 117, 108, 101, 32, 114]⟩ ++ ⟨#[c]⟩ ++ ⟨#[10, 32, 99, 111, 109, 109, 97, 110, 100, 32, 61, 32, 120, 10]⟩).size = t.size + 21) := by show _ = _; rw [← bl_size]; simp only [bl_app, List.length_append, bl_size]; rfl
        clear HTL hcc
        go_wp2_with fail
        go_roundw
        case rel =>
          refine ⟨k + 1, _, by omega, by go_num, rfl, ?_, HN, hq.alloc _⟩
          have := HZ.out; omega
        case measure => simp [intOf]; omega
      · obtain rfl : k = 7 := by omega
        have HTX := hide (Bool.and_eq_true_iff.1 fA_full)
        obtain ⟨g0, hg0⟩ := isO_eq (unhide HTX).1
        have HG0 : Hid (mfL (bl t) = .ok g0) := by show _ = _; rw [HTL.out]; exact hg0
        have HE0 : Hid (mfL (bl (t ++ ⟨#[114, 117, 108, 101, 32, 109, 111, 114, 101, 10, 32, 99, 111, 109, 109, 97, 110, 100, 32, 61, 32, 120, 10]⟩)) = .error 801) := by show _ = _; rw [bl_app, HTL.out]; exact isE_eq (unhide HTX).2
        clear hg0 HTX HTL
        go_wp2_with fail
        refine (parse_gr t _ ((unhide HT).q (q1.trans hq)) (by unfold maxLen; omega) (mf_of HG0.out)).mono ?_
        rintro e w5 ⟨es, eo, po, dd, ec, pc, dc, rfl, _, q5⟩
        have q15 := (q1.trans hq).trans q5
        clear q5 HG0
        generalize es.length = n1
        generalize g0.2.1.length = n2
        generalize g0.2.2.length = n3
        go_wp2_with fail
        refine (parse_bad (n := 801) _ _ ((unhide HT).q (q15.trans (((Q.refl _).alloc _).alloc _))) (by rw [ByteArray.size_append]; show t.size + 23 ≤ maxLen; unfold maxLen; omega) HE0.out).mono ?_
        rintro e w6 ⟨e6, p6, d6, i1, i2, i3, rfl, q6⟩
        have q16 := q15.trans ((((Q.refl _).alloc _).alloc _).trans q6)
        clear q6 q15 HE0
        go_wp2_with (go_at_call 12; refine (num_any _ _).mono ?_; rintro e w' ⟨rfl, rfl⟩)
        refine (same0_any e6 p6 d6 i1 i2 i3 _).mono ?_
        rintro e w7 ⟨rfl, q7⟩
        go_wp2_with (go_at_call 12; refine (num_any _ _).mono ?_; rintro e w' ⟨rfl, rfl⟩)
        go_ret
        exact ⟨rfl, q16.trans (((Q.refl _).alloc _).trans q7)⟩
  · go_enter Tryz.func5, Tryz.ntmps5
    go_wp2_with fail
    refine (mfawake_any _ (unhide HT)).mono ?_
    rintro e w1 ⟨rfl, q1⟩
    go_wp2_with fail
    go_loopw [3, 6] (fun sv i wr => ∃ (k : Nat) (t : ByteArray), k ≤ 4 ∧ i = .int .i64 k ∧ sv = .string t ∧ t.size = 21 + 19 * k ∧ Hid (bl t = fBL k) ∧ Q w1 wr) (fun _ i _ => 4 - (intOf i).toNat)
    case atStart => exact ⟨0, ⟨#[114, 117, 108, 101, 32, 99, 99, 10, 32, 99, 111, 109, 109, 97, 110, 100, 32, 61, 32, 120, 10]⟩, Nat.zero_le _, rfl, rfl, rfl, rfl, Q.refl _⟩
    case round =>
      obtain ⟨k, t, hk, rfl, rfl, hts, HTL, hq⟩ := hrel
      by_cases hlt : k < 4
      · obtain ⟨c, hcc, hcv⟩ := str_int (97 + (k : Int)) (by omega) (by omega)
        have HN : Hid (bl (t ++ ⟨#[112, 111, 111, 108, 32, 112]⟩ ++ ⟨#[c]⟩ ++ ⟨#[10, 32, 100, 101, 112, 116, 104, 32, 61, 32, 49, 10]⟩) = fBL (k + 1)) := by
          show _ = _
          rw [fB_succ, bl_app, bl_app, bl_app, HTL.out, of_byte hcc]
          simp only [List.append_assoc]; rfl
        have HZ : Hid ((t ++ ⟨#[112, 111, 111, 108, 32, 112]⟩ ++ ⟨#[c]⟩ ++ ⟨#[10, 32, 100, 101, 112, 116, 104, 32, 61, 32, 49, 10]⟩).size = t.size + 19) := by show _ = _; rw [← bl_size]; simp only [bl_app, List.length_append, bl_size]; rfl
        clear HTL hcc
        go_wp2_with fail
        go_roundw
        case rel =>
          refine ⟨k + 1, _, by omega, by go_num, rfl, ?_, HN, hq.alloc _⟩
          have := HZ.out; omega
        case measure => simp [intOf]; omega
      · obtain rfl : k = 4 := by omega
        have HTX := hide (Bool.and_eq_true_iff.1 fB_full)
        obtain ⟨g0, hg0⟩ := isO_eq (unhide HTX).1
        have HG0 : Hid (mfL (bl t) = .ok g0) := by show _ = _; rw [HTL.out]; exact hg0
        have HE0 : Hid (mfL (bl (t ++ ⟨#[112, 111, 111, 108, 32, 109, 111, 114, 101, 10, 32, 100, 101, 112, 116, 104, 32, 61, 32, 49, 10]⟩)) = .error 801) := by show _ = _; rw [bl_app, HTL.out]; exact isE_eq (unhide HTX).2
        clear hg0 HTX HTL
        go_wp2_with fail
        refine (parse_gr t _ ((unhide HT).q (q1.trans hq)) (by unfold maxLen; omega) (mf_of HG0.out)).mono ?_
        rintro e w5 ⟨es, eo, po, dd, ec, pc, dc, rfl, _, q5⟩
        have q15 := (q1.trans hq).trans q5
        clear q5 HG0
        generalize es.length = n1
        generalize g0.2.1.length = n2
        generalize g0.2.2.length = n3
        go_wp2_with fail
        refine (parse_bad (n := 801) _ _ ((unhide HT).q (q15.trans (((Q.refl _).alloc _).alloc _))) (by rw [ByteArray.size_append]; show t.size + 21 ≤ maxLen; unfold maxLen; omega) HE0.out).mono ?_
        rintro e w6 ⟨e6, p6, d6, i1, i2, i3, rfl, q6⟩
        have q16 := q15.trans ((((Q.refl _).alloc _).alloc _).trans q6)
        clear q6 q15 HE0
        go_wp2_with (go_at_call 12; refine (num_any _ _).mono ?_; rintro e w' ⟨rfl, rfl⟩)
        refine (same0_any e6 p6 d6 i1 i2 i3 _).mono ?_
        rintro e w7 ⟨rfl, q7⟩
        go_wp2_with (go_at_call 12; refine (num_any _ _).mono ?_; rintro e w' ⟨rfl, rfl⟩)
        go_ret
        exact ⟨rfl, q16.trans (((Q.refl _).alloc _).trans q7)⟩
  · go_enter Tryz.func5, Tryz.ntmps5
    go_wp2_with fail
    refine (mfawake_any _ (unhide HT)).mono ?_
    rintro e w1 ⟨rfl, q1⟩
    go_wp2_with fail
    go_loopw [3, 7] (fun sv i wr => ∃ (k : Nat) (t : ByteArray), k ≤ 16 ∧ i = .int .i64 k ∧ sv = .string t ∧ t.size = 21 + 14 * k ∧ Hid (bl t = fCL k) ∧ Q w1 wr) (fun _ i _ => 16 - (intOf i).toNat)
    case atStart => exact ⟨0, ⟨#[114, 117, 108, 101, 32, 99, 99, 10, 32, 99, 111, 109, 109, 97, 110, 100, 32, 61, 32, 120, 10]⟩, Nat.zero_le _, rfl, rfl, rfl, rfl, Q.refl _⟩
    case round =>
      obtain ⟨k, t, hk, rfl, rfl, hts, HTL, hq⟩ := hrel
      by_cases hlt : k < 16
      · obtain ⟨c, hcc, hcv⟩ := str_int (97 + (k : Int)) (by omega) (by omega)
        have HN : Hid (bl (t ++ ⟨#[98, 117, 105, 108, 100, 32, 111]⟩ ++ ⟨#[c]⟩ ++ ⟨#[32, 58, 32, 99, 99, 10]⟩) = fCL (k + 1)) := by
          show _ = _
          rw [fC_succ, bl_app, bl_app, bl_app, HTL.out, of_byte hcc]
          simp only [List.append_assoc]; rfl
        have HZ : Hid ((t ++ ⟨#[98, 117, 105, 108, 100, 32, 111]⟩ ++ ⟨#[c]⟩ ++ ⟨#[32, 58, 32, 99, 99, 10]⟩).size = t.size + 14) := by show _ = _; rw [← bl_size]; simp only [bl_app, List.length_append, bl_size]; rfl
        clear HTL hcc
        go_wp2_with fail
        go_roundw
        case rel =>
          refine ⟨k + 1, _, by omega, by go_num, rfl, ?_, HN, hq.alloc _⟩
          have := HZ.out; omega
        case measure => simp [intOf]; omega
      · obtain rfl : k = 16 := by omega
        have HTX := hide (Bool.and_eq_true_iff.1 fC_full)
        obtain ⟨g0, hg0⟩ := isO_eq (unhide HTX).1
        have HG0 : Hid (mfL (bl t) = .ok g0) := by show _ = _; rw [HTL.out]; exact hg0
        have HE0 : Hid (mfL (bl (t ++ ⟨#[98, 117, 105, 108, 100, 32, 109, 111, 114, 101, 32, 58, 32, 99, 99, 10]⟩)) = .error 801) := by show _ = _; rw [bl_app, HTL.out]; exact isE_eq (unhide HTX).2
        clear hg0 HTX HTL
        go_wp2_with fail
        refine (parse_gr t _ ((unhide HT).q (q1.trans hq)) (by unfold maxLen; omega) (mf_of HG0.out)).mono ?_
        rintro e w5 ⟨es, eo, po, dd, ec, pc, dc, rfl, _, q5⟩
        have q15 := (q1.trans hq).trans q5
        clear q5 HG0
        generalize es.length = n1
        generalize g0.2.1.length = n2
        generalize g0.2.2.length = n3
        go_wp2_with fail
        refine (parse_bad (n := 801) _ _ ((unhide HT).q (q15.trans (((Q.refl _).alloc _).alloc _))) (by rw [ByteArray.size_append]; show t.size + 16 ≤ maxLen; unfold maxLen; omega) HE0.out).mono ?_
        rintro e w6 ⟨e6, p6, d6, i1, i2, i3, rfl, q6⟩
        have q16 := q15.trans ((((Q.refl _).alloc _).alloc _).trans q6)
        clear q6 q15 HE0
        go_wp2_with (go_at_call 12; refine (num_any _ _).mono ?_; rintro e w' ⟨rfl, rfl⟩)
        refine (same0_any e6 p6 d6 i1 i2 i3 _).mono ?_
        rintro e w7 ⟨rfl, q7⟩
        go_wp2_with (go_at_call 12; refine (num_any _ _).mono ?_; rintro e w' ⟨rfl, rfl⟩)
        go_ret
        exact ⟨rfl, q16.trans (((Q.refl _).alloc _).trans q7)⟩
  · go_enter Tryz.func5, Tryz.ntmps5
    go_wp2_with fail
    refine (mfawake_any _ (unhide HT)).mono ?_
    rintro e w1 ⟨rfl, q1⟩
    have hq : Q w1 w1 := Q.refl _
    go_wp2_with fail
    generalize hTE : (⟨#[114, 117, 108, 101, 32, 99, 99, 10, 32, 99, 111, 109, 109, 97, 110, 100, 32, 61, 32, 120, 10]⟩ ++ ⟨#[100, 101, 102, 97, 117, 108, 116, 32, 97, 32, 98, 32, 99, 10, 100, 101, 102, 97, 117, 108, 116, 32, 100, 32, 101, 32, 102, 32, 103, 32, 104, 10]⟩ : ByteArray) = t
    have HTL : Hid (bl t = [114, 117, 108, 101, 32, 99, 99, 10, 32, 99, 111, 109, 109, 97, 110, 100, 32, 61, 32, 120, 10, 100, 101, 102, 97, 117, 108, 116, 32, 97, 32, 98, 32, 99, 10, 100, 101, 102, 97, 117, 108, 116, 32, 100, 32, 101, 32, 102, 32, 103, 32, 104, 10]) := by show _ = _; rw [← hTE]; rfl
    have hts : t.size = 53 := by rw [← hTE]; decide +kernel
    clear hTE
    have HTX := hide (Bool.and_eq_true_iff.1 fD_full)
    obtain ⟨g0, hg0⟩ := isO_eq (unhide HTX).1
    have HG0 : Hid (mfL (bl t) = .ok g0) := by show _ = _; rw [HTL.out]; exact hg0
    have HE0 : Hid (mfL (bl (t ++ ⟨#[100, 101, 102, 97, 117, 108, 116, 32, 120, 10]⟩)) = .error 801) := by show _ = _; rw [bl_app, HTL.out]; exact isE_eq (unhide HTX).2
    clear hg0 HTX HTL
    refine (parse_gr t _ ((unhide HT).q (q1.trans hq)) (by unfold maxLen; omega) (mf_of HG0.out)).mono ?_
    rintro e w5 ⟨es, eo, po, dd, ec, pc, dc, rfl, _, q5⟩
    have q15 := (q1.trans hq).trans q5
    clear q5 HG0
    generalize es.length = n1
    generalize g0.2.1.length = n2
    generalize g0.2.2.length = n3
    go_wp2_with fail
    refine (parse_bad (n := 801) _ _ ((unhide HT).q (q15.trans (((Q.refl _).alloc _).alloc _))) (by rw [ByteArray.size_append]; show t.size + 10 ≤ maxLen; unfold maxLen; omega) HE0.out).mono ?_
    rintro e w6 ⟨e6, p6, d6, i1, i2, i3, rfl, q6⟩
    have q16 := q15.trans ((((Q.refl _).alloc _).alloc _).trans q6)
    clear q6 q15 HE0
    go_wp2_with (go_at_call 12; refine (num_any _ _).mono ?_; rintro e w' ⟨rfl, rfl⟩)
    refine (same0_any e6 p6 d6 i1 i2 i3 _).mono ?_
    rintro e w7 ⟨rfl, q7⟩
    go_wp2_with (go_at_call 12; refine (num_any _ _).mono ?_; rintro e w' ⟨rfl, rfl⟩)
    go_ret
    exact ⟨rfl, q16.trans (((Q.refl _).alloc _).trans q7)⟩
  · go_enter Tryz.func5, Tryz.ntmps5
    go_wp2_with fail
    refine (mfawake_any _ (unhide HT)).mono ?_
    rintro e w1 ⟨rfl, q1⟩
    go_wp2_with fail
    go_loopw [3, 8] (fun sv i wr => ∃ (k : Nat) (t : ByteArray), k ≤ 16 ∧ i = .int .i64 k ∧ sv = .string t ∧ t.size = 21 + 7 * k ∧ Hid (bl t = fEL k) ∧ Q w1 wr) (fun _ i _ => 16 - (intOf i).toNat)
    case atStart => exact ⟨0, ⟨#[114, 117, 108, 101, 32, 99, 99, 10, 32, 99, 111, 109, 109, 97, 110, 100, 32, 61, 32, 120, 10]⟩, Nat.zero_le _, rfl, rfl, rfl, rfl, Q.refl _⟩
    case round =>
      obtain ⟨k, t, hk, rfl, rfl, hts, HTL, hq⟩ := hrel
      by_cases hlt : k < 16
      · obtain ⟨c, hcc, hcv⟩ := str_int (97 + (k : Int)) (by omega) (by omega)
        have HN : Hid (bl (t ++ ⟨#[118]⟩ ++ ⟨#[c]⟩ ++ ⟨#[32, 61, 32, 49, 10]⟩) = fEL (k + 1)) := by
          show _ = _
          rw [fE_succ, bl_app, bl_app, bl_app, HTL.out, of_byte hcc]
          simp only [List.append_assoc]; rfl
        have HZ : Hid ((t ++ ⟨#[118]⟩ ++ ⟨#[c]⟩ ++ ⟨#[32, 61, 32, 49, 10]⟩).size = t.size + 7) := by show _ = _; rw [← bl_size]; simp only [bl_app, List.length_append, bl_size]; rfl
        clear HTL hcc
        go_wp2_with fail
        go_roundw
        case rel =>
          refine ⟨k + 1, _, by omega, by go_num, rfl, ?_, HN, hq.alloc _⟩
          have := HZ.out; omega
        case measure => simp [intOf]; omega
      · obtain rfl : k = 16 := by omega
        have HTX := hide (Bool.and_eq_true_iff.1 fE_full)
        obtain ⟨g0, hg0⟩ := isO_eq (unhide HTX).1
        have HG0 : Hid (mfL (bl t) = .ok g0) := by show _ = _; rw [HTL.out]; exact hg0
        have HE0 : Hid (mfL (bl (t ++ ⟨#[109, 111, 114, 101, 32, 61, 32, 49, 10]⟩)) = .error 801) := by show _ = _; rw [bl_app, HTL.out]; exact isE_eq (unhide HTX).2
        clear hg0 HTX HTL
        go_wp2_with fail
        refine (parse_gr t _ ((unhide HT).q (q1.trans hq)) (by unfold maxLen; omega) (mf_of HG0.out)).mono ?_
        rintro e w5 ⟨es, eo, po, dd, ec, pc, dc, rfl, _, q5⟩
        have q15 := (q1.trans hq).trans q5
        clear q5 HG0
        generalize es.length = n1
        generalize g0.2.1.length = n2
        generalize g0.2.2.length = n3
        go_wp2_with fail
        refine (parse_bad (n := 801) _ _ ((unhide HT).q (q15.trans (((Q.refl _).alloc _).alloc _))) (by rw [ByteArray.size_append]; show t.size + 9 ≤ maxLen; unfold maxLen; omega) HE0.out).mono ?_
        rintro e w6 ⟨e6, p6, d6, i1, i2, i3, rfl, q6⟩
        have q16 := q15.trans ((((Q.refl _).alloc _).alloc _).trans q6)
        clear q6 q15 HE0
        go_wp2_with (go_at_call 12; refine (num_any _ _).mono ?_; rintro e w' ⟨rfl, rfl⟩)
        refine (same0_any e6 p6 d6 i1 i2 i3 _).mono ?_
        rintro e w7 ⟨rfl, q7⟩
        go_wp2_with (go_at_call 12; refine (num_any _ _).mono ?_; rintro e w' ⟨rfl, rfl⟩)
        go_ret
        exact ⟨rfl, q16.trans (((Q.refl _).alloc _).trans q7)⟩

set_option maxRecDepth 100000 in
theorem manifestFull_lifted (os : Os) (started : os.Started) (H : Type) (enc : TypeId × Value → H) :
    ReturnsInHanded {} Tryz.checked os 5 .any (fun w args => (Rows.manifestFullSpec.pre enc Tryz.prog Tryz.f5 [] false w args ∧ laidMetH Tryz.prog Rows.manifestFullRow.laid w) ∧ sizedMet enc Tryz.prog Tryz.f5 (OpenSpec.ofChange Rows.manifestFullSpec) false w args) (Rows.manifestFullSpec.post enc Tryz.prog Tryz.f5 false true false false) := by
  refine returnsInHanded_of_change_and (C := Tryz.checked) (X := fun w _ => laidMetH Tryz.prog Rows.manifestFullRow.laid w) (fun _ _ _ hh h => h.of_heap hh) Tryz.own started (by kernel_rfl) Tryz.func5
    (ChangeSpec.witness_shaped (enc := enc) (C := Tryz.checked) (os := os) (X := fun w _ => laidMetH Tryz.prog Rows.manifestFullRow.laid w) false (World.laidAll Tryz.prog os Rows.manifestFullRow.laid) #[.int .i64 0] 8 (World.laidAll_os _ _ _)
      (World.shaped_of_ZipB (by kernel_rfl) (by kernel_rfl)) (by kernel_rfl) (by kernel_rfl) (by kernel_rfl)
      (by rw [MakeChecks.laidMetH_plain _ _ _ (by kernel_rfl)]; exact laidMet_laidAll _ (by kernel_rfl) (by kernel_rfl))) ?_
  intro W base args ds gs before hval0 hW _ hsz0 hL _
  have hval : ∀ (j : Nat) t v, Tryz.f5.params[j]? = some t → args[j]? = some v → Value.okWide Tryz.prog W .any base t v := hval0
  have hW' := hW
  obtain ⟨p, q, hA0, hV, rfl, hfz, hnd⟩ := hW
  have hA : DataW.TrodAll enc Tryz.prog W 0 (fun _ => true) true Tryz.f5.params.toList args.toList ds p := hA0
  rw [Tryz.params5] at hA hval
  obtain ⟨v0, vs0, d0, ds0, p0, q0, hargs, rfl, rfl, h0, r0⟩ := trodAll_cons hA
  obtain ⟨rfl, rfl, rfl⟩ := trodAll_nil r0
  obtain rfl : args = #[v0] := by cases args; simp_all
  obtain ⟨rfl, rfl⟩ := trodVars_none hV
  obtain ⟨a0, rfl, rfl, rfl, w0⟩ := open_int Tryz.underlying3 (hval 0 3 v0 rfl rfl) h0
  clear hA0 hval0
  simp only [List.append_nil] at hW'
  refine (manifestFull_any a0 w0 W (tab_of_laid (laid := Rows.manifestFullRow.laid) (by kernel_rfl) hL)).mono fun e W' ⟨he, bel⟩ => ?_
  subst he
  exact ⟨_, rfl, _, _, _, [], [], [], hW', trodAll_mk1 (shut_bool Tryz.underlying4 _), (trodAll_cons_mk (shut_int Tryz.underlying3 w0) trodAll_mk0), rfl, bel.frame _, fun h => by cases h⟩

theorem manifestFull_holds : Rows.ManifestFullSaid :=
  OpenClaim.holds_of_wide 5 Tryz.f5 rfl rfl rfl rfl rfl rfl rfl ⟨rfl, rfl, rfl, rfl, rfl⟩ rfl rfl rfl rfl rfl (by kernel_rfl) Tryz.func5 (by kernel_rfl)
    (of_decide_eq_true (by kernel_rfl)) (by unfold Func.isWrapper; first | (rw [if_pos (by decide +kernel)]; kernel_rfl) | (rw [if_neg (by decide +kernel)]; exact ⟨rfl, rfl⟩))
    (fun os started H enc _ => manifestFull_lifted os started H enc)
theorem manifestFull_card : Rows.ManifestFullCardSaid :=
  Claim7.holds_tied_plain_at .later [] [.data, .listed, .data, .pinned] true (true, "8dec6f50e5afba32322cf8ec189691581cdc57b45edadbf051f5816f0efe4019") false manifestFull_holds (fun _ h => by cases h) (by kernel_rfl) (fun _ h => by cases h) manifestFull_row_tie rfl ⟨rfl, rfl⟩ (by kernel_rfl) rfl
    (fun f fn hf hfn => by
      obtain rfl : f = 5 := Option.some.inj ((show Tryz.prog.funcNamed Rows.manifestFullRow.func = some 5 by kernel_rfl).symm.trans hf) |>.symm
      obtain rfl : fn = Tryz.f5 := (Option.some.inj (Tryz.func5.symm.trans hfn)).symm
      exact ⟨by kernel_rfl, fun j t ht => by
        rw [Tryz.params5] at ht
        have hm : t ∈ [3] := by simpa using Array.mem_of_getElem? ht
        have hall : ([3].all fun u => !Tryz.prog.wantsStandIn u) = true := by kernel_rfl
        exact (show Tryz.prog.wantsStandIn t = false by simpa using List.all_eq_true.1 hall t hm)⟩)
    (by kernel_rfl)
#print axioms manifestFull_card
end Go.Proofs.YtgfegbeickaknaaGreatDoor
