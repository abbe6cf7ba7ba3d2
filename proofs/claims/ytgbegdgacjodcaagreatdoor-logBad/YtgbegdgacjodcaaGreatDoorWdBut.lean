/- Memory of which one block alone is written: what was there beside it is as it was; a row of two texts in such a block; rows of texts that a call owns; no conditions. -/
import Derived.Test.YtgbegdgacjodcaaGreatDoorBdPlain
import Derived.Test.YtgbegdgacjodcaaGreatDoorRfWalks
namespace Go.Proofs.YtgbegdgacjodcaaGreatDoor
open Go.RowKit

/-- But for block g all that was there is as it was. -/
structure But (g : Nat) (w w' : World) : Prop where
  os : w'.os = w.os
  tape : w'.tape = w.tape
  output : w'.output = w.output
  size : w.heap.size ≤ w'.heap.size
  block : ∀ k, k < w.heap.size → k ≠ g → w'.heap[k]? = w.heap[k]?

theorem But.refl (g : Nat) (w : World) : But g w w := ⟨rfl, rfl, rfl, Nat.le_refl _, fun _ _ _ => rfl⟩
theorem But.trans {g : Nat} {a b c : World} (h : But g a b) (k : But g b c) : But g a c :=
  ⟨k.os.trans h.os, k.tape.trans h.tape, k.output.trans h.output, Nat.le_trans h.size k.size, fun i hi hn => (k.block i (Nat.lt_of_lt_of_le hi h.size) hn).trans (h.block i hi hn)⟩
theorem But.of_q {g : Nat} {w w' : World} (h : Q w w') : But g w w' := ⟨h.os, h.tape, h.output, h.size, fun k hk _ => h.block k hk⟩
theorem But.q {g : Nat} {a b c : World} (h : But g a b) (k : Q b c) : But g a c := h.trans (But.of_q k)
theorem But.set {g : Nat} {a w : World} (h : But g a w) (o : Nat) (u : Value) : But g a (w.setCell ⟨g, o, none⟩ u) :=
  h.trans ⟨rfl, rfl, rfl, by simp [World.setCell], fun k _ hn => Below.heap_setCell _ _ _ _ hn⟩
theorem But.drewN {g : Nat} {a b : World} (h : But g a b) (n : Nat) : But g a (b.drewN n) := ⟨h.os, h.tape, h.output, h.size, h.block⟩
theorem But.drew {g : Nat} {a b : World} (h : But g a b) : But g a b.drew := ⟨h.os, h.tape, h.output, h.size, h.block⟩
theorem But.below {g B : Nat} {w w' : World} (h : But g w w') (hg : B ≤ g) (hB : B ≤ w.heap.size) : Below B w w' :=
  ⟨h.os, h.tape, h.output, h.size, fun k hk => h.block k (by omega) (by omega)⟩
/-- A new block, and then nothing but it. -/
theorem But.new {w w' : World} {o : Obj} (h : But w.heap.size (w.alloc o) w') : Q w w' :=
  Below.trans ((Q.refl w).alloc o) (h.below (Nat.le_refl _) (by simp))
/-- An append to a row of the call's own. -/
theorem But.grown {g B : Nat} {a w w' : World} {row : Option Nat} (h : But g a w) (hg : w.grownBy w' row) (hB : a.heap.size ≤ B) (hr : ∀ k, row = some k → B ≤ k) : But g a w' :=
  ⟨hg.os.trans h.os, hg.tape.trans h.tape, hg.output.trans h.output, Nat.le_trans h.size hg.size, fun k hk hn => (hg.block k (Nat.lt_of_lt_of_le hk h.size) (fun e => by have := hr k e.symm; omega)).trans (h.block k hk hn)⟩

theorem own_but {g : Nat} {w w' : World} {B e size n : Nat} {v : Value} {xs : List Value} (h : w.ownsRow B e size v n xs) (hb : But g w w') (hg : g < B) : w'.ownsRow B e size v n xs := by
  have hl := fun k hk => h.lt k hk
  obtain ⟨h1, h2⟩ := h
  rcases h2 with hn | ⟨k, cap, cur, e1, hk, hgg, rest⟩
  · exact ⟨h1, Or.inl hn⟩
  · have hlt : k < w.heap.size := (hl k (by rw [e1]; rfl)).2
    exact ⟨h1, Or.inr ⟨k, cap, cur, e1, hk, (hb.block k hlt (by omega)).trans hgg, rest⟩⟩

/-- Two texts that lie in block g. -/
structure AtW (w : World) (g : Nat) (a b : ByteArray) : Prop where
  hi : g < w.heap.size
  c0 : w.cell? ⟨g, 0, none⟩ = some (.string a)
  c1 : w.cell? ⟨g, 1, none⟩ = some (.string b)
  frz : ∀ r, w.frozen? ⟨g, r, none⟩ = false

theorem AtW.q {w w' : World} {g : Nat} {a b : ByteArray} (h : AtW w g a b) (hq : Q w w') : AtW w' g a b :=
  ⟨Nat.lt_of_lt_of_le h.hi hq.size, (hq.cell (p := ⟨g, 0, none⟩) h.hi).trans h.c0, (hq.cell (p := ⟨g, 1, none⟩) h.hi).trans h.c1, fun r => (hq.frozen (p := ⟨g, r, none⟩) h.hi).trans (h.frz r)⟩
theorem AtW.set0 {w : World} {g : Nat} {a b : ByteArray} (h : AtW w g a b) (x : ByteArray) : AtW (w.setCell ⟨g, 0, none⟩ (.string x)) g x b :=
  ⟨by simpa using h.hi, World.cell?_setCell_same' w ⟨g, 0, none⟩ (.string x) (by rw [h.c0]; rfl),
   (World.cell?_setCell_other w ⟨g, 0, none⟩ ⟨g, 1, none⟩ (.string x) (by intro e; cases e)).trans h.c1, fun r => by rw [← h.frz r]; simp⟩
theorem AtW.set1 {w : World} {g : Nat} {a b : ByteArray} (h : AtW w g a b) (x : ByteArray) : AtW (w.setCell ⟨g, 1, none⟩ (.string x)) g a x :=
  ⟨by simpa using h.hi, (World.cell?_setCell_other w ⟨g, 1, none⟩ ⟨g, 0, none⟩ (.string x) (by intro e; cases e)).trans h.c0,
   World.cell?_setCell_same' w ⟨g, 1, none⟩ (.string x) (by rw [h.c1]; rfl), fun r => by rw [← h.frz r]; simp⟩
theorem AtW.drewN {w : World} {g : Nat} {a b : ByteArray} (h : AtW w g a b) (n : Nat) : AtW (w.drewN n) g a b := ⟨h.hi, h.c0, h.c1, h.frz⟩
theorem AtW.drew {w : World} {g : Nat} {a b : ByteArray} (h : AtW w g a b) : AtW w.drew g a b := ⟨h.hi, h.c0, h.c1, h.frz⟩
theorem AtW.grown {w w' : World} {g : Nat} {a b : ByteArray} {row : Option Nat} (h : AtW w g a b) (hg : w.grownBy w' row) (hr : some g ≠ row) : AtW w' g a b :=
  ⟨Nat.lt_of_lt_of_le h.hi hg.size, (hg.cell_far ⟨g, 0, none⟩ h.hi hr).trans h.c0, (hg.cell_far ⟨g, 1, none⟩ h.hi hr).trans h.c1, fun r => (hg.frozen_far ⟨g, r, none⟩ h.hi hr).trans (h.frz r)⟩

/-- What is left of a line lies in block g. -/
def Lf (w : World) (g n : Nat) (ws : Ws) : Prop := ∃ a b : ByteArray, AtW w g a b ∧ StW (bl a) (bl b) ws ∧ a.size ≤ n ∧ b.size ≤ n

/-- Rows of texts. -/
def tv (x : List UInt8) : List Value := [.string ⟨x.toArray⟩]
theorem tv_len (x : List UInt8) : (tv x).length = 1 := rfl

abbrev OwnT (w : World) (B : Nat) (ao : Option Addr) (cap : Nat) (xs : Ws) : Prop := w.ownsRow B 9 1 (.slice ao xs.length cap) xs.length (lay tv xs)
abbrev RowT (w : World) (ao : Option Addr) (xs : Ws) : Prop := RowG tv 1 w ao xs

theorem OwnT.row {w : World} {B : Nat} {ao : Option Addr} {cap : Nat} {xs : Ws} (h : OwnT w B ao cap xs) : RowT w ao xs := RowG.own tv_len (by decide) h

theorem OwnT.snoc {w : World} {B cap : Nat} {ao : Option Addr} {xs : Ws} {x : ByteArray} (h : w.ownsRow B 9 1 (.slice ao (xs.length + 1) cap) (xs.length + 1) (lay tv xs ++ [.string x])) : OwnT w B ao cap (xs ++ [bl x]) := by
  show w.ownsRow B _ 1 (.slice ao (xs ++ [bl x]).length cap) (xs ++ [bl x]).length (lay tv (xs ++ [bl x]))
  rw [lay_snoc, List.length_append, show tv (bl x) = [Value.string x] from by unfold tv; rw [(of_bl rfl : x = ⟨(bl x).toArray⟩).symm]]
  exact h

theorem lay_tv (ys : List ByteArray) : lay tv (ys.map bl) = ys.map Value.string := by
  induction ys with
  | nil => rfl
  | cons y r ih => rw [List.map_cons, lay_cons, ih, List.map_cons]; unfold tv; rw [(of_bl rfl : y = ⟨(bl y).toArray⟩).symm]; rfl

end Go.Proofs.YtgbegdgacjodcaaGreatDoor
