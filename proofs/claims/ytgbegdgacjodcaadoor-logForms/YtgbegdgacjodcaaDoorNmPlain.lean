/- Plain facts on bytes and names, with no program in them: what a name is (one to sixteen bytes, each a small letter, a digit or one of four signs); no conditions. -/
import Derived.WalkKit
import Derived.Deep.QuietTactic
import Derived.BigQuiet
import Derived.Lib.Bytealg
import Derived.Lib.IndexLaws
namespace Go.Proofs.YtgbegdgacjodcaaDoor
open Go.RowKit

theorem hide {p : Prop} (h : p) : Hid p := h
theorem unhide {p : Prop} (h : Hid p) : p := h

theorem ret_bool {a b : Bool} (h : a = b) : Ending.returned (.bool a) = .returned (.bool b) := by rw [h]
theorem ret_int {k : IntKind} {a b : Int} (h : a = b) : Ending.returned (.int k a) = .returned (.int k b) := by rw [h]

def okb (c : Int) : Bool := decide (97 ≤ c ∧ c ≤ 122) || decide (48 ≤ c ∧ c ≤ 57) || decide (c = 46) || decide (c = 95) || decide (c = 45) || decide (c = 47)

def smallB (c : Int) : Bool := decide (97 ≤ c ∧ c ≤ 122) || decide (48 ≤ c ∧ c ≤ 57)

def allOk (l : List UInt8) : Bool := l.all fun c => okb c.toNat

def mayB (s : ByteArray) : Bool := decide (1 ≤ s.size) && decide (s.size ≤ 16) && allOk s.data.toList

abbrev Q (w w' : World) : Prop := Below w.heap.size w w'

theorem Q.refl (w : World) : Q w w := Below.refl _ _
theorem Q.trans {a b c : World} (h : Q a b) (k : Q b c) : Q a c := Below.trans h (Below.mono k h.size)
theorem Q.drew {a b : World} (h : Q a b) : Q a b.drew := Below.drew h
theorem Q.alloc {a b : World} (h : Q a b) (o : Obj) : Q a (b.alloc o) := Below.alloc h h.size o

theorem Q.drewN {a b : World} (h : Q a b) (n : Nat) : Q a (b.drewN n) := ⟨h.os, h.tape, h.output, h.size, h.block⟩

theorem signs_index (c : Int) (h0 : 0 ≤ c) (h1 : c ≤ 255) :
    Lib.indexByte [46, 95, 45, 47] c.toNat.toUInt8 = if c = 46 then 0 else if c = 95 then 1 else if c = 45 then 2 else if c = 47 then 3 else -1 := by
  obtain ⟨k, rfl⟩ := Int.eq_ofNat_of_zero_le h0
  have hk : k < 256 := by omega
  clear h0 h1
  revert k
  decide +kernel

theorem okb_not_small (c : Int) (h : smallB c = false) : okb c = (decide (c = 46) || decide (c = 95) || decide (c = 45) || decide (c = 47)) := by
  unfold smallB at h; unfold okb; rw [h]; simp
theorem okb_small (c : Int) (h : smallB c = true) : okb c = true := by
  unfold smallB at h; unfold okb; rw [h]; simp

theorem okb_false (c : Int) (h : okb c = false) : smallB c = false ∧ (c != 46) = true ∧ (c != 95) = true ∧ (c != 45) = true ∧ (c != 47) = true := by
  unfold okb at h; unfold smallB
  simp at h ⊢; omega
theorem okb_true (c : Int) (h : okb c = true) : smallB c = true ∨ (smallB c = false ∧ (c != 46) = false) ∨ (smallB c = false ∧ (c != 46) = true ∧ (c != 95) = false) ∨ (smallB c = false ∧ (c != 46) = true ∧ (c != 95) = true ∧ (c != 45) = false) ∨ (smallB c = false ∧ (c != 46) = true ∧ (c != 95) = true ∧ (c != 45) = true ∧ (c != 47) = false) := by
  unfold okb at h; unfold smallB
  simp at h ⊢; omega

theorem okb_parts (c : Int) : (97 ≤ c ∧ c ≤ 122 ∧ okb c = true) ∨ (¬ 97 ≤ c ∧ 48 ≤ c ∧ c ≤ 57 ∧ okb c = true) ∨ (smallB c = false ∧ c = 46 ∧ okb c = true) ∨ (smallB c = false ∧ ¬ c = 46 ∧ c = 95 ∧ okb c = true)
    ∨ (smallB c = false ∧ ¬ c = 46 ∧ ¬ c = 95 ∧ c = 45 ∧ okb c = true) ∨ (smallB c = false ∧ ¬ c = 46 ∧ ¬ c = 95 ∧ ¬ c = 45 ∧ c = 47 ∧ okb c = true) ∨ (smallB c = false ∧ ¬ c = 46 ∧ ¬ c = 95 ∧ ¬ c = 45 ∧ ¬ c = 47 ∧ okb c = false) := by
  unfold okb smallB
  simp; omega

theorem allOk_nil : allOk [] = true := rfl
theorem allOk_append (a b : List UInt8) : allOk (a ++ b) = (allOk a && allOk b) := by simp [allOk]
theorem take_snoc (s : ByteArray) (k : Nat) (h : k < s.size) : s.data.toList.take (k + 1) = s.data.toList.take k ++ [s[k]] := by
  rw [List.take_succ_eq_append_getElem (by simpa using h)]; rfl
theorem allOk_take_succ (s : ByteArray) (k : Nat) (h : k < s.size) : allOk (s.data.toList.take (k + 1)) = (allOk (s.data.toList.take k) && okb (s[k].toNat : Int)) := by
  rw [take_snoc s k h, allOk_append]; simp [allOk]
theorem allOk_bad (s : ByteArray) (k : Nat) (h : k < s.size) (hb : okb (s[k].toNat : Int) = false) : allOk s.data.toList = false := by
  have := allOk_take_succ s k h
  rw [hb, Bool.and_false] at this
  rw [← List.take_append_drop (k + 1) s.data.toList, allOk_append, this, Bool.false_and]
theorem allOk_full (s : ByteArray) (k : Nat) (h : s.size ≤ k) : allOk (s.data.toList.take k) = allOk s.data.toList := by
  rw [List.take_of_length_le (by simpa using h)]

end Go.Proofs.YtgbegdgacjodcaaDoor
