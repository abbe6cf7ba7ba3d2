/- A builder that the call has made: what WriteString and String answer over the bytes that it holds; the conditions: the builder lies as it was laid, lengths. -/
import Derived.Lib.UnsafeStr
import Derived.Lib.Builder
import Derived.Test.YtgbegdgacjodcaaGreatDoorEvShelf
import Derived.Test.YtgbegdgacjodcaaGreatDoorShelf
import Derived.Test.YtgbegdgacjodcaaGreatDoorBdPlain
namespace Go.Proofs.YtgbegdgacjodcaaGreatDoor
open Go.RowKit

/-- A builder stays as it was where nothing old has turned. -/
theorem builder_q {T e B b : Nat} {bs : List Value} {w w' : World} (h : Lib.IsBuilder T e B b bs w) (q : Q w w') : Lib.IsBuilder T e B b bs w' := by
  have go : ∀ p, Lib.BuilderAt T e B b p bs w → Lib.BuilderAt T e B b p bs w' := by
    rintro p ⟨hB, v, hb, hown, hne⟩
    exact ⟨hB, v, (q.block b (Array.getElem?_eq_some_iff.1 hb).1).trans hb, own_q hown q, hne⟩
  rcases h with h | h
  · exact Or.inl (go _ h)
  · exact Or.inr (go _ h)

theorem wstr_any (B b : Nat) (l m : List UInt8) (w : World) (h : Lib.IsBuilder 51 5 B b (Lib.byteCells l) w) (hl : l.length + m.length ≤ 140737488355328) (hB : B ≤ w.heap.size) :
    Calls Tryz.prog 24 #[.pointer (some ⟨b, 0, none⟩), .string ⟨m.toArray⟩] w fun e w' => e = .returned (.tuple #[.int .i64 m.length, .nilIface]) ∧ Lib.IsBuilder 51 5 B b (Lib.byteCells (l ++ m)) w' ∧ Below B w w' := by
  refine (Any.Builder_WriteString Tryz.lays166 Tryz.Builder_Extra_166 B b (Lib.byteCells l) ⟨m.toArray⟩ w h (by rw [Lib.byteCells_length]; show l.length + m.toArray.size ≤ _; simpa using hl) hB).mono ?_
  rintro e w' ⟨rfl, h1, b1⟩
  refine ⟨rfl, Or.inr ?_, b1⟩
  rw [Lib.byteCells_append]
  exact h1
theorem wend_any (B b : Nat) (l : List UInt8) (w : World) (h : Lib.IsBuilder 51 5 B b (Lib.byteCells l) w) (hB : B ≤ w.heap.size) :
    Calls Tryz.prog 25 #[.pointer (some ⟨b, 0, none⟩)] w fun e w' => e = .returned (.string ⟨l.toArray⟩) ∧ Below B w w' :=
  Any.Builder_String_any Tryz.lays169 Tryz.Builder_Extra_169 B b l w h hB

end Go.Proofs.YtgbegdgacjodcaaGreatDoor
