/- Rows of bytes that a call owns: how they lie, one more appended, a text of them; no conditions. -/
import Derived.Test.YtgbegdgacjodcaaGreatDoorStrOne
import Derived.Test.YtgbegdgacjodcaaGreatDoorBdPlain
namespace Go.Proofs.YtgbegdgacjodcaaGreatDoor
open Go.RowKit

theorem Tryz.infoB : (Tryz.prog.info? 5).map (fun i => (i.zero, i.size, i.bytes)) = some (some (.int .u8 0), 1, 1) := by kernel_rfl
def bv (c : UInt8) : List Value := [.int .u8 (c.toNat : Int)]
theorem bv_len (c : UInt8) : (bv c).length = 1 := rfl
abbrev OwnB (w : World) (B : Nat) (ao : Option Addr) (cap : Nat) (tb : List UInt8) : Prop := w.ownsRow B 5 1 (.slice ao tb.length cap) tb.length (lay bv tb)

theorem OwnB.snoc {w : World} {B cap : Nat} {ao : Option Addr} {ps : List UInt8} {p : UInt8} (h : w.ownsRow B 5 1 (.slice ao (ps.length + 1) cap) (ps.length + 1) (lay bv ps ++ [.int .u8 (p.toNat : Int)])) : OwnB w B ao cap (ps ++ [p]) := by
  show w.ownsRow B _ 1 (.slice ao (ps ++ [p]).length cap) (ps ++ [p]).length (lay bv (ps ++ [p]))
  rw [lay_snoc, List.length_append]; exact h

theorem str_of_row {w : World} {B cap : Nat} {ao : Option Addr} {tb : List UInt8} (h : OwnB w B ao cap tb) (hn : tb ≠ []) :
    (convert 49 9 (.slice ao tb.length cap)).run Tryz.prog w = .ok (.string ⟨tb.toArray⟩) w := by
  obtain ⟨g, rfl, hB, hg, hf, hc⟩ := own_some bv_len (by decide) (List.length_pos_iff.2 hn) h
  refine run_convert_bytes_back w _ _ 5 ⟨g, 0, none⟩ cap tb Tryz.underlying49 Tryz.underlying5 Tryz.underlying9 ?_
  intro j hj
  have := hc j 0 tb[j] _ (List.getElem?_eq_getElem hj) (by decide) rfl
  rw [Nat.mul_one, Nat.add_zero] at this
  rw [← this]
  congr 1
  unfold Addr.add; split <;> simp_all

end Go.Proofs.YtgbegdgacjodcaaGreatDoor
