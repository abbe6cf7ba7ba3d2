/- A block of two or three cells that is written over, whole; no conditions. -/
import Derived.Test.YtgbegdgacjodcaaGreatDoorGfBase
namespace Go.Proofs.YtgbegdgacjodcaaGreatDoor
open Go.RowKit

theorem put3 {w : World} {g : Nat} {a b c : Value} {t : TypeId} (h : Blk w g #[a, b, c] t) (x y z : Value) : Blk (((w.setCell ⟨g, 0, none⟩ x).setCell ⟨g, 1, none⟩ y).setCell ⟨g, 2, none⟩ z) g #[x, y, z] t ∧ Fr (fun k => k = g) w (((w.setCell ⟨g, 0, none⟩ x).setCell ⟨g, 1, none⟩ y).setCell ⟨g, 2, none⟩ z) :=
  ⟨((h.set 0 x).set 1 y).set 2 z, (Fr.set w g 0 x).trans ((Fr.set _ g 1 y).trans (Fr.set _ g 2 z))⟩
theorem put2 {w : World} {g : Nat} {a b : Value} {t : TypeId} (h : Blk w g #[a, b] t) (x y : Value) : Blk ((w.setCell ⟨g, 0, none⟩ x).setCell ⟨g, 1, none⟩ y) g #[x, y] t ∧ Fr (fun k => k = g) w ((w.setCell ⟨g, 0, none⟩ x).setCell ⟨g, 1, none⟩ y) :=
  ⟨(h.set 0 x).set 1 y, (Fr.set w g 0 x).trans (Fr.set _ g 1 y)⟩

end Go.Proofs.YtgbegdgacjodcaaGreatDoor
