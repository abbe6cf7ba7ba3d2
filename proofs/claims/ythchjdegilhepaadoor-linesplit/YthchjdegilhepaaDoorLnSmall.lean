/- What the library's ReplaceAll answers where one sign is taken out, and what package lines' small functions answer, for every text; the conditions: the lengths. -/
import Derived.Test.YthchjdegilhepaaDoorLnShelf
import Derived.Test.YthchjdegilhepaaDoorPlSmall
import Derived.Lib.AppendStr
import Derived.Lib.BufferRead
import Derived.Laws.IdiomStrings
namespace Go.Proofs.YthchjdegilhepaaDoor
open Go.RowKit

theorem wstr_b (B b : Nat) (l : List UInt8) (x : ByteArray) (w : World) (h : Lib.IsBuilder 70 5 B b (Lib.byteCells l) w) (hl : l.length + x.size ≤ 140737488355328) (hB : B ≤ w.heap.size) :
    Calls Tryd.prog 47 #[.pointer (some ⟨b, 0, none⟩), .string x] w fun e w' => e = .returned (.tuple #[.int .i64 x.size, .nilIface]) ∧ Lib.IsBuilder 70 5 B b (Lib.byteCells (l ++ bl x)) w' ∧ Below B w w' := by
  have := wstr_any B b l (bl x) w h (by rw [bl_size]; exact hl) hB
  rw [mk_bl, bl_size] at this
  exact this

theorem ext_sz (s : ByteArray) (a b : Nat) (h1 : a ≤ b) (h2 : b ≤ s.size) : (s.extract a b).size = b - a := by
  rw [← bl_size, bl_extract, List.length_drop, List.length_take, bl_size]; omega

set_option maxHeartbeats 2000000 in
theorem replace_any (s : ByteArray) (w : World) (hs : s.size ≤ 1099511627776) :
    Calls Tryd.prog 33 #[.string s, .string ⟨#[10]⟩, .string ⟨#[]⟩, .int .i64 (-1)] w fun e w' => e = .returned (.string ⟨(without 10 (bl s)).toArray⟩) ∧ Q w w' := by
  have HSZ := hide (bl_size s)
  have hcl : (bl s).count 10 ≤ s.size := by rw [← bl_size]; exact List.count_le_length
  generalize hm : (bl s).count 10 = m at hcl
  have HM := hide hm
  clear hm
  have hne : ((⟨#[10]⟩ : ByteArray).toList == (⟨#[]⟩ : ByteArray).toList) = false := by decide +kernel
  by_cases h0 : m = 0
  · have HF : Hid (without 10 (bl s) = bl s) := without_zero 10 _ (by rw [unhide HM, h0])
    subst h0
    go_enter Tryd.func33, Tryd.ntmps33
    go_wp2_with fail
    refine (count_one_any s 10 _).mono ?_
    rintro e w1 ⟨rfl, rfl⟩
    rw [unhide HM]
    go_wp2_with fail
    go_ret
    rw [HF.out, mk_bl]
    exact ⟨rfl, Q.refl _⟩
  have hmz : ((m : Int) == 0) = false := beq_eq_false_iff_ne.2 (by omega)
  have HGR := hide (show ((s.size : Int) + -(m : Int)) = ((s.size - m : Nat) : Int) by omega)
  go_enter Tryd.func33, Tryd.ntmps33
  go_wp2_with fail
  refine (count_one_any s 10 _).mono ?_
  rintro e w1 ⟨rfl, rfl⟩
  rw [unhide HM]
  go_wp2_with fail
  rw [unhide HGR]
  refine (wgrow_any w1.heap.size w1.heap.size (s.size - m) _ (Nat.le_refl _) (heap_alloc_new _ _) (by simp) (by omega)).mono ?_
  rintro e w2 ⟨rfl, hb2, q2⟩
  have hq2 : Q w1 w2 := Below.trans ((Q.refl _).alloc _) q2
  have HB2 := hide hb2
  clear hb2 q2
  go_wp2_with fail
  go_loopw [11, 53] (fun st i wr => ∃ (k f : Nat), i = .int .i64 k ∧ st = .int .i64 f ∧ k ≤ m ∧ f ≤ s.size ∧ Q w1 wr ∧
      Hid (Lib.IsBuilder 70 5 w1.heap.size w1.heap.size (Lib.byteCells (without 10 ((bl s).take f))) wr) ∧ Hid (((bl s).drop f).count 10 + k = m))
    (fun _ i _ => m - (intOf i).toNat)
  case atStart => exact ⟨0, 0, rfl, rfl, by omega, by omega, hq2, unhide HB2, by show _ = _; rw [List.drop_zero, unhide HM]; rfl⟩
  case round =>
    obtain ⟨k, f, rfl, rfl, hk, hf, hq, HB, HC⟩ := hrel
    have hqs := hq.size
    have HLT : Hid ((without 10 ((bl s).take f)).length ≤ f) := Nat.le_trans (without_len _ _) (by rw [List.length_take]; omega)
    have HX : Hid (∀ b, b = s.size → bl (s.extract f b) = (bl s).drop f) := by
      rintro b rfl; rw [bl_extract, List.take_of_length_le (Nat.le_of_eq (unhide HSZ))]
    by_cases hlt : k < m
    · obtain ⟨i, hi⟩ := index_of_count 10 ((bl s).drop f) (by have := HC.out; omega)
      obtain ⟨g1, g2, g3⟩ := without_step 10 (bl s) f i hi
      rw [unhide HSZ] at g1
      have HI := hide hi
      have HG2 := hide g2
      have HG3 := hide g3
      clear hi g2 g3
      go_wp2_with fail
      refine (index_one_any _ 10 _).mono ?_
      rintro e w3 ⟨rfl, rfl⟩
      rw [HX.out _ rfl, unhide HI]
      go_wp2_with fail
      refine (wstr_b w1.heap.size w1.heap.size _ _ _ HB.out (by rw [ext_sz s _ _ (by omega) (by omega)]; have := HLT.out; omega) hqs).mono ?_
      rintro e w4 ⟨rfl, hb4, q4⟩
      have hq4 : Q w1 w4 := Below.trans hq q4
      have HB4 := hide hb4
      clear hb4 q4 HB hq hqs
      go_wp2_with fail
      refine (wstr_b w1.heap.size w1.heap.size _ _ _ (unhide HB4) (by rw [List.length_append, bl_size, ext_sz s _ _ (by omega) (by omega)]; have := HLT.out; show _ + 0 ≤ _; omega) hq4.size).mono ?_
      rintro e w5 ⟨rfl, hb5, q5⟩
      have hq5 : Q w1 w5 := Below.trans hq4 q5
      have HB5 : Hid (Lib.IsBuilder 70 5 w1.heap.size w1.heap.size (Lib.byteCells (without 10 ((bl s).take (f + i + 1)))) w5) := by
        show Lib.IsBuilder _ _ _ _ _ _
        rw [unhide HG2, ← bl_extract]
        have e0 : bl ⟨#[]⟩ = [] := rfl
        rw [e0, List.append_nil] at hb5
        exact hb5
      have HC5 : Hid (((bl s).drop (f + i + 1)).count 10 + (k + 1) = m) := by
        show _ = _
        have := HC.out; have := unhide HG3; omega
      clear hb5 q5 HB4 HC HG2 HG3 hq4
      go_wp2
      go_roundw
      case rel => exact ⟨k + 1, f + i + 1, by go_num, by go_num, by omega, by omega, hq5, HB5, HC5⟩
      case measure => simp [intOf]; omega
    · have HF : Hid (without 10 (bl s) = without 10 ((bl s).take f) ++ (bl s).drop f) := without_none 10 _ f (by have := HC.out; omega)
      clear HC
      go_wp2_with fail
      refine (wstr_b w1.heap.size w1.heap.size _ _ _ HB.out (by rw [ext_sz s _ _ (by omega) (by omega)]; have := HLT.out; omega) hqs).mono ?_
      rintro e w4 ⟨rfl, hb4, q4⟩
      rw [HX.out _ rfl, ← HF.out] at hb4
      have hq4 : Q w1 w4 := Below.trans hq q4
      have HB4 := hide hb4
      clear hb4 q4 HB
      go_wp2_with fail
      refine (wend_any w1.heap.size w1.heap.size _ _ (unhide HB4) hq4.size).mono ?_
      rintro e w5 ⟨rfl, q5⟩
      have hq5 : Q w1 w5 := Below.trans hq4 q5
      clear q5 HB4
      go_wp2
      go_ret
      exact ⟨rfl, hq5⟩

theorem replall_any (s : ByteArray) (w : World) (hs : s.size ≤ 1099511627776) :
    Calls Tryd.prog 25 #[.string s, .string ⟨#[10]⟩, .string ⟨#[]⟩] w fun e w' => e = .returned (.string ⟨(without 10 (bl s)).toArray⟩) ∧ Q w w' := by
  go_enter Tryd.func25, Tryd.ntmps25
  go_wp2_with fail
  refine (replace_any s _ hs).mono ?_
  rintro e w1 ⟨rfl, q1⟩
  go_wp2
  go_ret
  exact ⟨rfl, q1⟩

theorem goes_any (s : ByteArray) (w : World) (hs : s.size ≤ maxLen) :
    Calls Tryd.prog 28 #[.string s] w fun e w' => e = .returned (.bool (goL (bl s))) ∧ w' = w := by
  have hs' := hs
  unfold maxLen at hs'
  have HC := hide (trimr_any s w hs)
  have hle : (Lib.trimRightB (bl s) 36).length ≤ s.size := by rw [← bl_size]; exact trimR_len _ _
  have HR : Hid (goL (bl s) = ((s.size - (Lib.trimRightB (bl s) 36).length) % 2 == 1)) := by show _ = _; unfold goL; rw [bl_size]
  have hz : (⟨(Lib.trimRightB (bl s) 36).toArray⟩ : ByteArray).size = (Lib.trimRightB (bl s) 36).length := by rw [← bl_size]; rfl
  generalize (Lib.trimRightB (bl s) 36).length = k at hle HR hz
  generalize (⟨(Lib.trimRightB (bl s) 36).toArray⟩ : ByteArray) = t at hz HC
  go_enter Tryd.func28, Tryd.ntmps28
  go_wp2_with fail
  refine (unhide HC).mono ?_
  rintro e w1 ⟨rfl, rfl⟩
  go_wp2
  go_ret
  refine ⟨ret_bool ?_, rfl⟩
  rw [HR.out, Bool.eq_iff_iff, beq_iff_eq, beq_iff_eq]
  omega

theorem lmay_any (s : ByteArray) (w : World) (hs : s.size ≤ maxLen) :
    Calls Tryd.prog 14 #[.string s] w fun e w' => e = .returned (.bool (decide (s.size ≤ 2048) && endL (bl s) && plainL (without 10 (bl s)))) ∧ Q w w' := by
  have hs' := hs
  unfold maxLen at hs'
  by_cases h1 : 2048 < s.size
  · have HR : Hid ((decide (s.size ≤ 2048) && endL (bl s) && plainL (without 10 (bl s))) = false) := by show _ = _; rw [decide_eq_false (by omega)]; rfl
    go_enter Tryd.func14, Tryd.ntmps14
    go_wp2_with fail
    go_ret
    exact ⟨ret_bool HR.out.symm, Q.refl _⟩
  have HSZ : Hid ((⟨(without 10 (bl s)).toArray⟩ : ByteArray).size ≤ 2048) := by
    show _ ≤ _; rw [← bl_size]; exact Nat.le_trans (without_len _ _) (by rw [bl_size]; omega)
  have HP : Hid ((decide (((⟨(without 10 (bl s)).toArray⟩ : ByteArray).size : Int) ≤ 2048) && plainL (bl ⟨(without 10 (bl s)).toArray⟩)) = plainL (without 10 (bl s))) := by
    show _ = _; rw [decide_eq_true (by have := HSZ.out; omega), Bool.true_and]; rfl
  by_cases h0 : bl s = []
  · have he : s.toList.isEmpty = true := by rw [bl_toList, h0]; rfl
    have HR : Hid ((decide (s.size ≤ 2048) && endL (bl s) && plainL (without 10 (bl s))) = plainL (without 10 (bl s))) := by show _ = _; rw [decide_eq_true (by omega), h0]; rfl
    clear h0
    go_enter Tryd.func14, Tryd.ntmps14
    go_wp2_with fail
    refine (replall_any s _ (by omega)).mono ?_
    rintro e w1 ⟨rfl, q1⟩
    go_wp2_with fail
    refine (pmay_any _ 2048 _ (by unfold maxLen; have := HSZ.out; omega)).mono ?_
    rintro e w2 ⟨rfl, q2⟩
    rw [HP.out]
    go_wp2
    go_ret
    exact ⟨ret_bool HR.out.symm, q1.trans q2⟩
  have he : s.toList.isEmpty = false := by rw [bl_toList]; simpa using h0
  cases hl : ((bl s).getLast? == some 10)
  · have HR : Hid ((decide (s.size ≤ 2048) && endL (bl s) && plainL (without 10 (bl s))) = false) := by
      show _ = _; unfold endL; rw [hl, ← bl_toList, he]; simp
    have HL := hide hl
    clear hl h0
    go_enter Tryd.func14, Tryd.ntmps14
    go_wp2_with fail
    refine (suff_any s _ hs).mono ?_
    rintro e w1 ⟨rfl, rfl⟩
    rw [unhide HL]
    go_wp2_with fail
    go_ret
    exact ⟨ret_bool HR.out.symm, Q.refl _⟩
  · have HR : Hid ((decide (s.size ≤ 2048) && endL (bl s) && plainL (without 10 (bl s))) = plainL (without 10 (bl s))) := by
      show _ = _; unfold endL; rw [hl, decide_eq_true (by omega)]; simp
    have HL := hide hl
    clear hl h0
    go_enter Tryd.func14, Tryd.ntmps14
    go_wp2_with fail
    refine (suff_any s _ hs).mono ?_
    rintro e w1 ⟨rfl, rfl⟩
    rw [unhide HL]
    go_wp2_with fail
    refine (replall_any s _ (by omega)).mono ?_
    rintro e w1 ⟨rfl, q1⟩
    go_wp2_with fail
    refine (pmay_any _ 2048 _ (by unfold maxLen; have := HSZ.out; omega)).mono ?_
    rintro e w2 ⟨rfl, q2⟩
    rw [HP.out]
    go_wp2
    go_ret
    exact ⟨ret_bool HR.out.symm, q1.trans q2⟩

/-- What a joined line tells, and whether. -/
def lnD (t : List UInt8) : Ln := (lnOf t).getD (false, [])

theorem cell_two {w w1 : World} {o : Obj} (q : Q (w.alloc o) w1) {b : Bool} {x : ByteArray} {t : TypeId} (e : o = .cells #[.bool b, .string x] t) :
    w1.cell? ⟨w.heap.size, 0, none⟩ = some (.bool b) ∧ w1.cell? ⟨w.heap.size, 1, none⟩ = some (.string x) ∧ w1.frozen? ⟨w.heap.size, 0, none⟩ = false ∧ w1.frozen? ⟨w.heap.size, 1, none⟩ = false := by
  subst e
  have hb := (q.block w.heap.size (by simp)).trans (heap_alloc_new _ _)
  exact ⟨by simp [World.cell?, hb], by simp [World.cell?, hb], frozen_of_row w1 _ _ _ _ hb, frozen_of_row w1 _ _ _ _ hb⟩

theorem lnOf_none {t : List UInt8} (h : lnOf t = none) : lnD t = (false, []) := by unfold lnD; rw [h]; rfl
theorem lnOf_some {t : List UInt8} {x : Ln} (h : lnOf t = some x) : lnD t = x := by unfold lnD; rw [h]; rfl

set_option maxHeartbeats 2000000 in
theorem lineOf_any (s : ByteArray) (w : World) (hs : s.size ≤ maxLen) :
    Calls Tryd.prog 17 #[.string s] w fun e w' => e = .returned (.tuple #[.agg #[.bool (lnD (bl s)).1, .string ⟨(lnD (bl s)).2.toArray⟩], .bool (lnOf (bl s)).isSome]) ∧ Q w w' := by
  have HC := hide (fun w => trim_any s w hs)
  have hs' := hs
  unfold maxLen at hs'
  by_cases h0 : trL (bl s) = []
  · have HR : Hid (lnOf (bl s) = none) := by show _ = _; unfold lnOf; rw [if_pos (Or.inl h0)]
    rw [h0] at HC
    clear h0
    go_enter Tryd.func17, Tryd.ntmps17
    go_wp2_with fail
    refine (unhide HC _).mono ?_
    rintro e w1 ⟨rfl, q1⟩
    obtain ⟨c0, c1, f0, f1⟩ := cell_two q1 rfl
    have q := (Q.alloc (Q.refl w) _).trans q1
    clear q1
    go_wp2_with fail
    rw [lnOf_none HR.out, HR.out]
    exact bodyPost_ret (v := .tuple #[.agg #[.bool false, .string ⟨#[]⟩], .bool false]) (by simp [results, Tryd.results17, go_sem, c0, c1]) rfl ⟨rfl, (q.setCell (Nat.le_refl _) _).setCell (Nat.le_refl _) _⟩
  have HN := hide h0
  obtain ⟨a, r, har⟩ := List.exists_cons_of_ne_nil h0
  obtain ⟨t, ht⟩ : ∃ t : ByteArray, t = ⟨(trL (bl s)).toArray⟩ := ⟨_, rfl⟩
  have htb : bl t = trL (bl s) := by rw [ht]; rfl
  have ht0 : 0 < t.size := by rw [← bl_size, htb, har]; simp
  have hta : t[0] = a := by
    have := bl_getElem t 0 ht0
    rw [htb, har] at this; simpa using this.symm
  have hte : t.toList.isEmpty = false := by rw [bl_toList, htb, har]; rfl
  rw [← ht] at HC
  have HT := hide htb
  clear htb ht
  by_cases h1 : a = 35
  · have HR : Hid (lnOf (bl s) = none) := by show _ = _; unfold lnOf; rw [if_pos (Or.inr (by rw [har, h1]; rfl))]
    have hb : ((t[0].toNat : Int) == 35) = true := by rw [hta, h1]; rfl
    clear h0 h1 har hta
    go_enter Tryd.func17, Tryd.ntmps17
    go_wp2_with fail
    refine (unhide HC _).mono ?_
    rintro e w1 ⟨rfl, q1⟩
    obtain ⟨c0, c1, f0, f1⟩ := cell_two q1 rfl
    have q := (Q.alloc (Q.refl w) _).trans q1
    clear q1
    go_wp2_with fail
    rw [lnOf_none HR.out, HR.out]
    exact bodyPost_ret (v := .tuple #[.agg #[.bool false, .string ⟨#[]⟩], .bool false]) (by simp [results, Tryd.results17, go_sem, c0, c1]) rfl ⟨rfl, (q.setCell (Nat.le_refl _) _).setCell (Nat.le_refl _) _⟩
  · have hs0 : 0 < s.size := by rw [← bl_size]; exact List.length_pos_iff.2 (tr_ne h0)
    have HR : Hid (lnOf (bl s) = some (((s[0].toNat : Int) == 32), trL (bl s))) := by
      show _ = _
      unfold lnOf
      rw [if_neg (by rintro (h | h); exact h0 h; rw [har] at h; exact h1 (by simpa using h))]
      have hh := bl_getElem s 0 hs0
      rw [← List.head?_eq_getElem?] at hh
      rw [hh]
      congr 2
      rw [Bool.eq_iff_iff, decide_eq_true_iff, beq_iff_eq]
      exact ⟨fun h => by rw [Option.some.inj h]; rfl, fun h => congrArg some (UInt8.toNat_inj.1 (by show s[0].toNat = 32; omega))⟩
    have hb : ((t[0].toNat : Int) == 35) = false := beq_eq_false_iff_ne.2 fun e => h1 (by rw [← hta]; exact UInt8.toNat_inj.1 (by show t[0].toNat = 35; omega))
    clear h0 h1 har hta
    go_enter Tryd.func17, Tryd.ntmps17
    go_wp2_with fail
    refine (unhide HC _).mono ?_
    rintro e w1 ⟨rfl, q1⟩
    obtain ⟨c0, c1, f0, f1⟩ := cell_two q1 rfl
    have q := (Q.alloc (Q.refl w) _).trans q1
    clear q1
    go_wp2_with fail
    rw [lnOf_some HR.out, HR.out, ← unhide HT, mk_bl]
    exact bodyPost_ret (v := .tuple #[.agg #[.bool ((s[0].toNat : Int) == 32), .string t], .bool true]) (by simp [results, Tryd.results17, go_sem, c0, c1]) rfl ⟨rfl, (q.setCell (Nat.le_refl _) _).setCell (Nat.le_refl _) _⟩

end Go.Proofs.YthchjdegilhepaaDoor
