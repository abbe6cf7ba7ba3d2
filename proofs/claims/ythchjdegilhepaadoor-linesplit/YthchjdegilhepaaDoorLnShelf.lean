/- What the library's Split, Index, Count, TrimLeft, TrimRight, Trim and HasSuffix answer at one sign, for every text, and a builder's writes, in the words of lists of bytes; the conditions: the lengths. -/
import Derived.Test.YthchjdegilhepaaDoorEvShelf
import Derived.Test.YthchjdegilhepaaDoorShelf
import Derived.Test.YthchjdegilhepaaDoorSpPlain
import Derived.Test.YthchjdegilhepaaDoorLnPlain
import Derived.Test.YthchjdegilhepaaDoorNmWalks
import Derived.Test.YthchjdegilhepaaDoorRfWalks
import Derived.Test.YthchjdegilhepaaDoorStPlain
import Derived.Shelf.Strings.Builder2
import Derived.Shelf.Strings.Split
import Derived.Shelf.Strings.Trim
import Derived.Shelf.Strings.Prefix
import Derived.Shelf.Strings.Search3
import Derived.Shelf.Strings.Count
namespace Go.Proofs.YthchjdegilhepaaDoor
open Go.RowKit

theorem mk_bl (s : ByteArray) : (⟨(bl s).toArray⟩ : ByteArray) = s := (of_bl rfl).symm

theorem index_one_any (s : ByteArray) (d : UInt8) (w : World) :
    Calls Tryd.prog 36 #[.string s, .string ⟨#[d]⟩] w fun e w' => e = .returned (.int .i64 (Lib.index (bl s) [d])) ∧ w' = w := by
  rw [Lib.index_one]
  exact Any.strings_Index_one Tryd.lays143 s d w
theorem count_one_any (s : ByteArray) (d : UInt8) (w : World) :
    Calls Tryd.prog 35 #[.string s, .string ⟨#[d]⟩] w fun e w' => e = .returned (.int .i64 ((bl s).count d : Nat)) ∧ w' = w :=
  Any.strings_Count_one Tryd.lays138 s d w

theorem gsplit_one (s : ByteArray) (d : UInt8) (w : World) (hs : s.size < 4294967281) :
    Calls Tryd.prog 26 #[.string s, .string ⟨#[d]⟩, .int .i64 0, .int .i64 (-1)] w fun e w' =>
      ∃ xs : List ByteArray, xs.map bl = spc d (bl s) ∧ xs.length ≤ s.size + 1 ∧ e = .returned (.slice (some ⟨w.heap.size, 0, none⟩) xs.length xs.length) ∧ w' = w.alloc (.cells (xs.map Value.string).toArray 9) := by
  have hle := Lib.countB_le ⟨#[d]⟩ (Nat.le_refl 1) s.size s (Nat.le_refl _)
  have hlen := Lib.splitB_all ⟨#[d]⟩ (Nat.le_refl 1) 0 _ s rfl
  have e1 : ∀ x, Lib.indexB x ⟨#[d]⟩ = Lib.index (bl x) [d] := fun x => rfl
  have e3 : Lib.countB s ⟨#[d]⟩ = (bl s).count d := Lib.count_one d (bl s)
  have c := Any.strings_genSplit_core Tryd.lays221 Tryd.infoS s ⟨#[d]⟩ 0 (-1) (Lib.countB s ⟨#[d]⟩ + 1) w hs (Nat.le_refl 1) (Nat.zero_le _)
    (fun x c hx => (index_one_any x d _).mono fun e w' h => h)
    ((count_one_any s d w).mono fun e w' h => by rw [e3]; exact h) (by decide) (by decide) (by rw [if_pos (by decide)]; omega)
  rw [Nat.add_sub_cancel, hlen] at c
  have e2 : Lib.cellsOf (Lib.splitB ⟨#[d]⟩ 0 (Lib.countB s ⟨#[d]⟩) s) (Lib.countB s ⟨#[d]⟩ + 1) = ((Lib.splitB ⟨#[d]⟩ 0 (Lib.countB s ⟨#[d]⟩) s).map Value.string).toArray := by rw [← hlen]; exact Lib.cellsOf_full _
  rw [e2] at c
  refine Calls.mono c ?_
  rintro e w' ⟨rfl, rfl⟩
  refine ⟨_, splitB_spc d s, by rw [hlen]; omega, ?_, rfl⟩
  rw [hlen]

theorem split_one (s : ByteArray) (d : UInt8) (w : World) (hs : s.size < 4294967281) :
    Calls Tryd.prog 15 #[.string s, .string ⟨#[d]⟩] w fun e w' =>
      ∃ xs : List ByteArray, xs.map bl = spc d (bl s) ∧ xs.length ≤ s.size + 1 ∧ e = .returned (.slice (some ⟨w.heap.size, 0, none⟩) xs.length xs.length) ∧ w' = w.alloc (.cells (xs.map Value.string).toArray 9) := by
  go_enter Tryd.func15, Tryd.ntmps15
  go_wp2_with fail
  refine (gsplit_one s d _ hs).mono ?_
  rintro e w' ⟨xs, h1, h2, rfl, rfl⟩
  have H1 := hide h1
  clear h1
  go_wp2
  go_ret
  exact ⟨xs, unhide H1, h2, rfl, rfl⟩

theorem cells_block (w : World) (xs : List ByteArray) (t : TypeId) : ∀ (j : Nat) x, xs[j]? = some x → (w.alloc (.cells (xs.map Value.string).toArray t)).cell? ⟨w.heap.size, j, none⟩ = some (.string x) := by
  intro j x hx
  have e : (w.alloc (.cells (xs.map Value.string).toArray t)).heap[w.heap.size]? = some (.cells (xs.map Value.string).toArray t) := heap_alloc_new _ _
  simp only [World.cell?]
  rw [e]
  simp [hx]

theorem triml_any (s : ByteArray) (w : World) :
    Calls Tryd.prog 27 #[.string s, .string ⟨#[32]⟩] w fun e w' => e = .returned (.string ⟨(frL (bl s)).toArray⟩) ∧ w' = w :=
  Any.strings_TrimLeft_one Tryd.lays161 s 32 (by decide) w
theorem trimr_any (s : ByteArray) (w : World) (hs : s.size ≤ maxLen) :
    Calls Tryd.prog 41 #[.string s, .string ⟨#[36]⟩] w fun e w' => e = .returned (.string ⟨(Lib.trimRightB (bl s) 36).toArray⟩) ∧ w' = w :=
  Any.strings_TrimRight_one Tryd.lays162 s 36 (by decide) w (by unfold maxLen at hs; omega)
theorem trim_any (s : ByteArray) (w : World) (hs : s.size ≤ maxLen) :
    Calls Tryd.prog 29 #[.string s, .string ⟨#[32]⟩] w fun e w' => e = .returned (.string ⟨(trL (bl s)).toArray⟩) ∧ Q w w' := by
  refine (Any.strings_Trim_one Tryd.lays160 s 32 (by decide) w (by unfold maxLen at hs; omega)).mono ?_
  rintro e w' ⟨rfl, h⟩
  refine ⟨rfl, ?_⟩
  rcases h with rfl | rfl
  · exact Q.refl _
  · exact (Q.refl _).drew
theorem suff_any (s : ByteArray) (w : World) (hs : s.size ≤ maxLen) :
    Calls Tryd.prog 23 #[.string s, .string ⟨#[10]⟩] w fun e w' => e = .returned (.bool ((bl s).getLast? == some 10)) ∧ w' = w := by
  have e : ((bl s).getLast? == some 10) = Lib.hasSuffix (bl s) [10] := by
    unfold Lib.hasSuffix
    rw [Bool.eq_iff_iff, List.isSuffixOf_iff_suffix]
    constructor
    · intro h
      have h := beq_iff_eq.1 h
      obtain ⟨m, hm⟩ := List.getLast?_eq_some_iff.1 h
      exact ⟨m, hm.symm⟩
    · rintro ⟨m, hm⟩
      rw [← hm]; simp
  rw [e]
  exact Any.strings_HasSuffix Tryd.lays100 s ⟨#[10]⟩ w (by unfold maxLen at hs; omega)

theorem builder_q {T e B b : Nat} {bs : List Value} {w w' : World} (h : Lib.IsBuilder T e B b bs w) (q : Q w w') : Lib.IsBuilder T e B b bs w' := by
  have go : ∀ p, Lib.BuilderAt T e B b p bs w → Lib.BuilderAt T e B b p bs w' := by
    rintro p ⟨hB, v, hb, hown, hne⟩
    exact ⟨hB, v, (q.block b (Array.getElem?_eq_some_iff.1 hb).1).trans hb, own_q hown q, hne⟩
  rcases h with h | h
  · exact Or.inl (go _ h)
  · exact Or.inr (go _ h)

theorem wstr_any (B b : Nat) (l m : List UInt8) (w : World) (h : Lib.IsBuilder 70 5 B b (Lib.byteCells l) w) (hl : l.length + m.length ≤ 140737488355328) (hB : B ≤ w.heap.size) :
    Calls Tryd.prog 47 #[.pointer (some ⟨b, 0, none⟩), .string ⟨m.toArray⟩] w fun e w' => e = .returned (.tuple #[.int .i64 m.length, .nilIface]) ∧ Lib.IsBuilder 70 5 B b (Lib.byteCells (l ++ m)) w' ∧ Below B w w' := by
  refine (Any.Builder_WriteString Tryd.lays166 Tryd.Builder_Extra_166 B b (Lib.byteCells l) ⟨m.toArray⟩ w h (by rw [Lib.byteCells_length]; show l.length + m.toArray.size ≤ _; simpa using hl) hB).mono ?_
  rintro e w' ⟨rfl, h1, b1⟩
  refine ⟨rfl, Or.inr ?_, b1⟩
  rw [Lib.byteCells_append]
  exact h1
theorem wend_any (B b : Nat) (l : List UInt8) (w : World) (h : Lib.IsBuilder 70 5 B b (Lib.byteCells l) w) (hB : B ≤ w.heap.size) :
    Calls Tryd.prog 49 #[.pointer (some ⟨b, 0, none⟩)] w fun e w' => e = .returned (.string ⟨l.toArray⟩) ∧ Below B w w' :=
  Any.Builder_String_any Tryd.lays169 Tryd.Builder_Extra_169 B b l w h hB
theorem wgrow_any (B b n : Nat) (w : World) (hB : B ≤ b) (hbk : w.heap[b]? = some (.cells #[.pointer none, .slice none 0 0] 70 (0, 0))) (hBw : B ≤ w.heap.size) (hn : n ≤ 281474976710656) :
    Calls Tryd.prog 46 #[.pointer (some ⟨b, 0, none⟩), .int .i64 n] w fun e w' => e = .returned (.tuple #[]) ∧ Lib.IsBuilder 70 5 B b (Lib.byteCells []) w' ∧ Below B w w' := by
  refine (Any.Builder_Grow_fresh Tryd.lays165 Tryd.Builder_Extra_165 B b n w hB hbk hBw hn).mono ?_
  rintro e w' ⟨rfl, h1, b1⟩
  exact ⟨rfl, Or.inr h1, b1⟩

end Go.Proofs.YthchjdegilhepaaDoor
