/- DiskForms: its two disks as they stand ahead of the switch; no conditions. -/
import Derived.Test.YthhlbgfjldmbbaaDoorDkOther
import Derived.Test.YthhlbgfjldmbbaaDoorDkFormsP
namespace Go.Proofs.YthhlbgfjldmbbaaDoor
open Go.RowKit

theorem own_e (B : Nat) (v : World) (e : Nat) (he : v.heap.size = e) (h : B ≤ v.heap.size) : OwnK (v.alloc (.cells #[] 24)) B (some ⟨e, 0, none⟩) 0 [] := by
  subst he
  exact own_ofK (Blk.new v _ _) h (Nat.le_refl _) (by decide) rfl rfl
theorem blk_at (v : World) (e : Nat) (cs : Array Value) {t : TypeId} (he : v.heap.size = e) : Blk (v.alloc (.cells cs t)) e cs t := by
  subst he
  exact Blk.new v _ _
/-- A row that is owned, to be carried along. -/
structure OwZ (w : World) (B : Nat) (ao : Option Addr) (cap : Nat) (fs : List Fl) : Prop where
  h : OwnK w B ao cap fs
theorem OwZ.q {w w' : World} {B cap : Nat} {ao : Option Addr} {fs : List Fl} (h : OwZ w B ao cap fs) (q : Q w w') : OwZ w' B ao cap fs := ⟨own_q h.h q⟩
end Go.Proofs.YthhlbgfjldmbbaaDoor
