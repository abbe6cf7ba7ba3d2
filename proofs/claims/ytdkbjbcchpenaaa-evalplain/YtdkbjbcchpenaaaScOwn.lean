/- Rows of binds that a call owns, and package scope's May and Get at binds whose answer is told; the conditions: the binds lie in memory; lengths. -/
import Derived.Test.YtdkbjbcchpenaaaScGet
import Derived.Test.YtdkbjbcchpenaaaStAppend
import Derived.Deep.RegionHeld3
namespace Go.Proofs.Ytdkbjbcchpenaaa
open Go.RowKit

theorem Try.infoD : (Try.prog.info? 34).map (fun i => (i.zero, i.size, i.bytes)) = some (some (.agg #[.string ByteArray.empty, .string ByteArray.empty]), 2, 32) := by kernel_rfl

abbrev OwnD (w : World) (B : Nat) (ao : Option Addr) (cap : Nat) (bs : List Bd) : Prop := w.ownsRow B 34 2 (.slice ao bs.length cap) bs.length (lay dv bs)

theorem OwnD.snoc {w : World} {B cap : Nat} {ao : Option Addr} {bs : List Bd} {b : Bd} (h : w.ownsRow B 34 2 (.slice ao (bs.length + 1) cap) (bs.length + 1) (lay dv bs ++ [.string b.1, .string b.2])) : OwnD w B ao cap (bs ++ [b]) := by
  show w.ownsRow B _ 2 (.slice ao (bs ++ [b]).length cap) (bs ++ [b]).length (lay dv (bs ++ [b]))
  rw [lay_snoc, List.length_append]; exact h
theorem OwnD.row {w : World} {B : Nat} {ao : Option Addr} {cap : Nat} {bs : List Bd} (h : OwnD w B ao cap bs) : RowD w ao bs := RowG.own dv_len (by decide) h
theorem one_ss (x y : ByteArray) : ∀ u ∈ [Value.string x, .string y], u.oneCell' = true := by intro u hu; simp at hu; rcases hu with rfl | rfl <;> rfl

theorem box_s (wr : World) (x y : ByteArray) (t : TypeId) : (wr.alloc (.cells #[.string x, .string y] t)).drew.cell? ⟨wr.heap.size, 0, none⟩ = some (.string x) ∧ (wr.alloc (.cells #[.string x, .string y] t)).drew.cell? ⟨wr.heap.size, 1, none⟩ = some (.string y) :=
  ⟨by simp, by simp⟩
theorem box_t {u u' : World} {g : Nat} {x y : ByteArray} (h : u.cell? ⟨g, 0, none⟩ = some (.string x) ∧ u.cell? ⟨g, 1, none⟩ = some (.string y)) (q : Q u u') : u'.cell? ⟨g, 0, none⟩ = some (.string x) ∧ u'.cell? ⟨g, 1, none⟩ = some (.string y) :=
  have hg := World.block_lt_of_cell? u _ h.1
  ⟨(q.cell (p := ⟨g, 0, none⟩) hg).trans h.1, (q.cell (p := ⟨g, 1, none⟩) hg).trans h.2⟩
theorem box_g {u u' : World} {g : Nat} {x y : ByteArray} {row : Option Nat} (h : u.cell? ⟨g, 0, none⟩ = some (.string x) ∧ u.cell? ⟨g, 1, none⟩ = some (.string y)) (hgrow : u.grownBy u' row) (hne : row ≠ some g) : u'.cell? ⟨g, 0, none⟩ = some (.string x) ∧ u'.cell? ⟨g, 1, none⟩ = some (.string y) :=
  have hg := World.block_lt_of_cell? u _ h.1
  ⟨(hgrow.cell_far ⟨g, 0, none⟩ hg (Ne.symm hne)).trans h.1, (hgrow.cell_far ⟨g, 1, none⟩ hg (Ne.symm hne)).trans h.2⟩

theorem one_layD (bs : List Bd) : ∀ u ∈ lay dv bs, u.oneCell' = true := by
  intro u hu
  unfold lay at hu
  obtain ⟨p, _, hp⟩ := List.mem_flatMap.1 hu
  simp [dv] at hp
  rcases hp with rfl | rfl <;> rfl

theorem get_lit {v : ByteArray} (bs : List Bd) (n : ByteArray) (ao : Option Addr) (cap : Nat) (w : World) (h : getB bs n = v) (hr : RowD w ao bs) (hf : Fit bs) (hs : bs.length ≤ cap) (hcap : cap ≤ maxLen) :
    Calls Try.prog 35 #[.slice ao bs.length cap, .string n] w fun e w' => e = .returned (.string v) ∧ Q w w' := by
  have := scGet_any bs n ao cap w hr hf hs hcap
  rw [h] at this; exact this
theorem may_lit {v : Bool} (bs : List Bd) (ao : Option Addr) (cap : Nat) (w : World) (h : scOk bs = v) (hr : RowD w ao bs) (hf : Fit bs) (hs : bs.length ≤ cap) (hcap : cap ≤ maxLen) :
    Calls Try.prog 19 #[.slice ao bs.length cap] w fun e w' => e = .returned (.bool v) ∧ Q w w' := by
  have := scMay_any bs ao cap w hr hf hs hcap
  rw [h] at this; exact this

theorem fit_of {bs : List Bd} (h : bs.all (fun b => decide (b.1.size ≤ 4096) && decide (b.2.size ≤ 4096)) = true) : Fit bs := by
  intro b hb
  have := List.all_eq_true.1 h b hb
  simp at this
  unfold maxLen; omega

end Go.Proofs.Ytdkbjbcchpenaaa
