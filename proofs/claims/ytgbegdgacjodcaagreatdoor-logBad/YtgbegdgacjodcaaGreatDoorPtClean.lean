/- What package path's Clean answers, for every text: the path that the name stands for, or that there is none; no conditions but that the text is no longer than a string can be. -/
import Derived.Test.YtgbegdgacjodcaaGreatDoorNmMay
import Derived.Test.YtgbegdgacjodcaaGreatDoorPtKeep
import Derived.Test.YtgbegdgacjodcaaGreatDoorShelf
namespace Go.Proofs.YtgbegdgacjodcaaGreatDoor
open Go.RowKit

theorem indexB_slash (x : ByteArray) : Lib.indexB x ⟨#[47]⟩ = Lib.indexByte x.data.toList 47 := Lib.index_one _ _
theorem countB_slash (x : ByteArray) : Lib.countB x ⟨#[47]⟩ = Lib.countByte x.data.toList 47 := Lib.count_one _ _

theorem gsplit_slash (s : ByteArray) (w : World) (hs : s.size < 4294967281) :
    Calls Tryz.prog 86 #[.string s, .string ⟨#[47]⟩, .int .i64 0, .int .i64 (-1)] w fun e w' =>
      ∃ xs : List ByteArray, xs.map bl = sp (bl s) ∧ xs.length ≤ s.size + 1 ∧ e = .returned (.slice (some ⟨w.heap.size, 0, none⟩) xs.length xs.length) ∧ w' = w.alloc (.cells (xs.map Value.string).toArray 9) := by
  have hle := Lib.countB_le ⟨#[47]⟩ (by decide) s.size s (Nat.le_refl _)
  have hlen := Lib.splitB_all ⟨#[47]⟩ (by decide) 0 _ s rfl
  have c := Any.strings_genSplit_core Tryz.lays221 Tryz.infoS s ⟨#[47]⟩ 0 (-1) (Lib.countB s ⟨#[47]⟩ + 1) w hs (by decide) (by decide)
    (fun x c hx => (Any.strings_Index_one Tryz.lays143 x 47 _).mono fun e w' h => by rw [indexB_slash]; exact h)
    ((Any.strings_Count_one Tryz.lays138 s 47 w).mono fun e w' h => by rw [countB_slash]; exact h) (by decide) (by decide) (by rw [if_pos (by decide)]; omega)
  rw [Nat.add_sub_cancel, hlen] at c
  have e2 : Lib.cellsOf (Lib.splitB ⟨#[47]⟩ 0 (Lib.countB s ⟨#[47]⟩) s) (Lib.countB s ⟨#[47]⟩ + 1) = ((Lib.splitB ⟨#[47]⟩ 0 (Lib.countB s ⟨#[47]⟩) s).map Value.string).toArray := by rw [← hlen]; exact Lib.cellsOf_full _
  rw [e2] at c
  refine Calls.mono c ?_
  rintro e w' ⟨rfl, rfl⟩
  refine ⟨_, splitB_sp s, by rw [hlen]; omega, ?_, rfl⟩
  rw [hlen]

theorem split_slash (s : ByteArray) (w : World) (hs : s.size < 4294967281) :
    Calls Tryz.prog 68 #[.string s, .string ⟨#[47]⟩] w fun e w' =>
      ∃ xs : List ByteArray, xs.map bl = sp (bl s) ∧ xs.length ≤ s.size + 1 ∧ e = .returned (.slice (some ⟨w.heap.size, 0, none⟩) xs.length xs.length) ∧ w' = w.alloc (.cells (xs.map Value.string).toArray 9) := by
  go_enter Tryz.func68, Tryz.ntmps68
  go_wp2_with fail
  refine (gsplit_slash s _ hs).mono ?_
  rintro e w' ⟨xs, h1, h2, rfl, rfl⟩
  have H1 := hide h1
  clear h1
  go_wp2
  go_ret
  exact ⟨xs, unhide H1, h2, rfl, rfl⟩

theorem cloneP_any (s : ByteArray) (w : World) (hs : s.size ≤ 281474976710656) :
    Calls Tryz.prog 41 #[.string s] w fun e w' => e = .returned (.string s) ∧ Q w w' := by
  have c : Calls Tryz.prog 55 #[.string s] w fun e w' => e = .returned (.string s) ∧ Below w.heap.size w w' := Any.stringslite_Clone Tryz.laysM316 s w hs
  have C := hide c
  clear c
  go_enter Tryz.func41, Tryz.ntmps41
  go_wp2_with fail
  refine (unhide C).mono ?_
  rintro e w' ⟨rfl, q⟩
  go_wp2
  go_ret
  exact ⟨rfl, q⟩

theorem join_slash (g o c : Nat) (xs : List ByteArray) (w : World) (hcells : ∀ (j : Nat) x, xs[j]? = some x → w.cell? ⟨g, o + j, none⟩ = some (.string x)) (hg : g < w.heap.size) (hN : xs.length ≤ 1000) (hcap : xs.length ≤ c)
    (hlen : (Lib.join (xs.map bl) [47]).length ≤ 1000) :
    Calls Tryz.prog 69 #[.slice (some ⟨g, o, none⟩) xs.length c, .string ⟨#[47]⟩] w fun e w' => e = .returned (.string ⟨(Lib.join (xs.map bl) [47]).toArray⟩) ∧ Q w w' :=
  Any.strings_Join Tryz.lays156 Tryz.Builder_Extra_156 g o c xs ⟨#[47]⟩ w hcells hg (by omega) hcap (Nat.le_trans hlen (by decide))

theorem clean_no1 {l : List UInt8} (h : mayL l = false) : cstr l = [] ∧ cerr l = 200 := by
  have e : cleanL l = none := by unfold cleanL; rw [if_neg (by rw [h]; simp)]
  unfold cstr cerr; rw [e]; exact ⟨rfl, rfl⟩
theorem clean_no2 {l : List UInt8} (h : l.head? = some 47) : cstr l = [] ∧ cerr l = 200 := by
  have e : cleanL l = none := by unfold cleanL; rw [if_neg (by rw [h]; simp)]
  unfold cstr cerr; rw [e]; exact ⟨rfl, rfl⟩
theorem clean_no3 {l : List UInt8} (h : kf [] (sp l) = none) : cstr l = [] ∧ cerr l = 200 := by
  have e : cleanL l = none := by unfold cleanL; rw [h]; simp
  unfold cstr cerr; rw [e]; exact ⟨rfl, rfl⟩
theorem clean_no4 {l : List UInt8} (h : kf [] (sp l) = some []) : cstr l = [] ∧ cerr l = 200 := by
  have e : cleanL l = none := by unfold cleanL; rw [h]; simp
  unfold cstr cerr; rw [e]; exact ⟨rfl, rfl⟩
theorem clean_yes {l : List UInt8} {ks : List (List UInt8)} (hm : mayL l = true) (hh : l.head? ≠ some 47) (h : kf [] (sp l) = some ks) (h0 : ks ≠ []) :
    cstr l = Lib.join ks [47] ∧ cerr l = 0 ∧ cleanL l = some (Lib.join ks [47]) := by
  have e : cleanL l = some (Lib.join ks [47]) := by
    unfold cleanL; rw [if_pos ⟨hm, hh⟩, h]
    cases ks with
    | nil => exact absurd rfl h0
    | cons p ps => rfl
  unfold cstr cerr; rw [e]; exact ⟨rfl, rfl, rfl⟩

theorem ret_clean {l a : List UInt8} {n : Int} (h : cstr l = a ∧ cerr l = n) : Ending.returned (.tuple #[.string ⟨a.toArray⟩, .int .i64 n]) = .returned (.tuple #[.string ⟨(cstr l).toArray⟩, .int .i64 (cerr l)]) := by
  rw [h.1, h.2]

theorem cells_block (w : World) (xs : List ByteArray) (t : TypeId) : ∀ (j : Nat) x, xs[j]? = some x → (w.alloc (.cells (xs.map Value.string).toArray t)).cell? ⟨w.heap.size, j, none⟩ = some (.string x) := by
  intro j x hx
  have e : (w.alloc (.cells (xs.map Value.string).toArray t)).heap[w.heap.size]? = some (.cells (xs.map Value.string).toArray t) := heap_alloc_new _ _
  simp only [World.cell?]
  rw [e]
  simp [hx]

theorem head_byte (s : ByteArray) (h : 0 < s.size) : (bl s).head? = some s[0] := by
  have := bl_getElem s 0 h
  rw [← List.head?_eq_getElem?] at this
  exact this

set_option maxHeartbeats 2000000 in
theorem clean_any (s : ByteArray) (w : World) (hs : s.size ≤ maxLen) :
    Calls Tryz.prog 57 #[.string s] w fun e w' => e = .returned (.tuple #[.string ⟨(cstr (bl s)).toArray⟩, .int .i64 (cerr (bl s))]) ∧ Q w w' := by
  have hmb := mayB_mayL s
  have hs' := hs
  unfold maxLen at hs'
  cases hm : mayB s
  · have HF := hide (clean_no1 (l := bl s) (by rw [hm] at hmb; exact hmb.symm))
    clear hmb
    go_enter Tryz.func57, Tryz.ntmps57
    go_wp2_with fail
    refine (may_any s _ hs).mono ?_
    rintro e w1 ⟨rfl, q1⟩
    rw [hm]
    go_wp2_with fail
    go_ret2
    exact ⟨ret_clean (unhide HF), q1⟩
  have hml : mayL (bl s) = true := by rw [hm] at hmb; exact hmb.symm
  have hsz : 1 ≤ s.size ∧ s.size ≤ 16 := by
    unfold mayB at hm; simp at hm; omega
  obtain ⟨hsz1, hsz2⟩ := hsz
  have hh := head_byte s (by omega)
  have HM := hide hm
  have HML := hide hml
  clear hmb hm hml
  by_cases h0 : s[0] = 47
  · have HF := hide (clean_no2 (l := bl s) (by rw [hh, h0]))
    have h0' : ((s[0].toNat : Int) == 47) = true := by rw [h0]; rfl
    clear hh h0
    go_enter Tryz.func57, Tryz.ntmps57
    go_wp2_with fail
    refine (may_any s _ hs).mono ?_
    rintro e w1 ⟨rfl, q1⟩
    rw [unhide HM]
    go_wp2_with fail
    go_ret2
    exact ⟨ret_clean (unhide HF), q1⟩
  have h0' : ((s[0].toNat : Int) == 47) = false := beq_eq_false_iff_ne.2 (fun e => h0 (UInt8.toNat_inj.1 (by simpa using (by omega : s[0].toNat = 47))))
  have HH : Hid ((bl s).head? ≠ some 47) := by show _ ≠ _; rw [hh]; simpa using h0
  clear hh h0
  go_enter Tryz.func57, Tryz.ntmps57
  go_wp2_with fail
  refine (may_any s _ hs).mono ?_
  rintro e w1 ⟨rfl, q1⟩
  rw [unhide HM]
  go_wp2_with fail
  refine (split_slash s _ (by omega)).mono ?_
  rintro e w2 ⟨xs, hx1, hx2, rfl, rfl⟩
  have HX := hide hx1
  clear hx1
  go_wp2_with fail
  refine (keep_any w1.heap.size xs.length xs _ (by simp) (by omega) (cells_block w1 xs 9)).mono ?_
  have q2 : Q w (w1.alloc (.cells (xs.map Value.string).toArray 9)) := q1.alloc _
  rintro e w3 (⟨hk, rfl, q3⟩ | ⟨ys, ao, cap, hk, rfl, hyl, hown, q3⟩)
  · have HF := hide (clean_no3 (l := bl s) (by rw [← unhide HX]; exact hk))
    have q4 := q2.trans q3
    clear hk q3 q2 q1
    go_wp2_with fail
    go_ret2
    exact ⟨ret_clean (unhide HF), q4⟩
  have q4 := q2.trans q3
  rw [unhide HX] at hk
  by_cases hy : ys = []
  · subst hy
    have HF := hide (clean_no4 hk)
    clear hk q3 q2 q1 hown
    go_wp2_with fail
    go_ret2
    exact ⟨ret_clean (unhide HF), q4⟩
  have hl1 : 1 ≤ ys.length := List.length_pos_iff.2 hy
  have hl0 : ((ys.length : Int) == 0) = false := beq_eq_false_iff_ne.2 (by omega)
  have hyes := clean_yes (unhide HML) HH.out hk (by simpa using hy)
  have hle := clean_le hyes.2.2
  rw [bl_size] at hle
  have hjl : (Lib.join (ys.map bl) [47]).length ≤ 1000 := by omega
  have HF := hide (And.intro hyes.1 hyes.2.1)
  have hyc := own_cap hown
  rcases RowS.of_own hown with hy' | ⟨g, o, rfl, hg, hcells⟩
  · exact absurd hy' hy
  have HC := hide hcells
  have HJL := hide hjl
  clear hk q3 q2 q1 hown hyes hle hcells hjl hy
  go_wp2_with fail
  refine (join_slash g o cap ys _ (unhide HC) hg hyl hyc (unhide HJL)).mono ?_
  rintro e w5 ⟨rfl, q5⟩
  go_wp2_with fail
  refine (cloneP_any _ _ (by have := unhide HJL; simp only [ByteArray.size, List.size_toArray]; omega)).mono ?_
  rintro e w6 ⟨rfl, q6⟩
  go_wp2_with fail
  go_ret2
  exact ⟨ret_clean (unhide HF), q4.trans (q5.trans q6)⟩

theorem clean_of {a : List UInt8} {n : Int} (s : ByteArray) (w : World) (hs : s.size ≤ maxLen) (h : cstr (bl s) = a ∧ cerr (bl s) = n) :
    Calls Tryz.prog 57 #[.string s] w fun e w' => e = .returned (.tuple #[.string ⟨a.toArray⟩, .int .i64 n]) ∧ Q w w' := by
  have := clean_any s w hs
  rw [h.1, h.2] at this
  exact this

end Go.Proofs.YtgbegdgacjodcaaGreatDoor
