/- Build where the answer is known; the fixed lines that every statement on words asks of first; the conditions: the lengths. -/
import Derived.Test.YtgfegbeickaknabGreatDoorWdSame
namespace Go.Proofs.YtgfegbeickaknabGreatDoor
open Go.RowKit

theorem build_some {a b c d : Ws} {r : List UInt8} (s : ByteArray) (w : World) (hs : s.size ≤ 1152921504606846976) (h : bdR (bl s) = some (a, r, b, c, d)) :
    Calls Tryz.prog 80 #[.string s] w fun e w' => ∃ (ao bo co eo : Option Addr) (ac bc cc ec k1 k2 k3 : Nat),
      e = .returned (.tuple #[.slice ao a.length ac, .string ⟨r.toArray⟩, .slice bo b.length bc, .slice co c.length cc, .slice eo d.length ec, .int .i64 0]) ∧ Four w' w.heap.size k1 k2 k3 (a, r, b, c, d) ao bo co eo ac bc cc ec ∧ Q w w' := by
  have := build_any s w hs
  unfold BSays at this
  rw [h] at this
  exact this

theorem build_none (s : ByteArray) (w : World) (hs : s.size ≤ 1152921504606846976) (h : bdR (bl s) = none) :
    Calls Tryz.prog 80 #[.string s] w fun e w' => ∃ (ao bo co eo : Option Addr) (ac bc cc ec : Nat),
      e = .returned (.tuple #[.slice ao 0 ac, .string ⟨#[]⟩, .slice bo 0 bc, .slice co 0 cc, .slice eo 0 ec, .int .i64 700]) ∧ Q w w' := by
  have := build_any s w hs
  unfold BSays at this
  rw [h] at this
  refine this.mono ?_
  rintro e w' ⟨ao, bo, co, eo, ac, bc, cc, ec, k1, k2, k3, h1, h2, h3⟩
  exact ⟨ao, bo, co, eo, ac, bc, cc, ec, h1, h3⟩

structure Four.Rows (w : World) (x : Bt) (ao bo co eo : Option Addr) : Prop where
  a : RowT w ao x.1
  b : RowT w bo x.2.2.1
  c : RowT w co x.2.2.2.1
  d : RowT w eo x.2.2.2.2
theorem Four.rows {w : World} {B k1 k2 k3 : Nat} {x : Bt} {ao bo co eo : Option Addr} {ac bc cc ec : Nat} (h : Four w B k1 k2 k3 x ao bo co eo ac bc cc ec) : Four.Rows w x ao bo co eo :=
  ⟨h.a.row, h.b.row, h.c.row, h.d.row⟩
theorem Four.Rows.q {w w' : World} {x : Bt} {ao bo co eo : Option Addr} (h : Four.Rows w x ao bo co eo) (hq : Q w w') : Four.Rows w' x ao bo co eo :=
  ⟨h.a.q hq, h.b.q hq, h.c.q hq, h.d.q hq⟩

theorem build_rv {a b c d : Ws} {rv : ByteArray} (s : ByteArray) (w : World) (hs : s.size ≤ 1152921504606846976) (h : bdR (bl s) = some (a, bl rv, b, c, d)) :
    Calls Tryz.prog 80 #[.string s] w fun e w' => ∃ (ao bo co eo : Option Addr) (ac bc cc ec : Nat),
      e = .returned (.tuple #[.slice ao a.length ac, .string rv, .slice bo b.length bc, .slice co c.length cc, .slice eo d.length ec, .int .i64 0]) ∧ Four.Rows w' (a, bl rv, b, c, d) ao bo co eo ∧ Q w w' := by
  refine (build_some s w hs h).mono ?_
  rintro e w' ⟨ao, bo, co, eo, ac, bc, cc, ec, k1, k2, k3, h1, h2, h3⟩
  rw [mk_blW] at h1
  exact ⟨ao, bo, co, eo, ac, bc, cc, ec, h1, h2.rows, h3⟩

def aw1 : Ws := [[120, 46, 111], [121]]
def aw2 : Ws := [[120, 46, 99]]
def aw3 : Ws := [[97, 46, 104]]
def aw4 : Ws := [[103, 101, 110]]
theorem wdlit1 : bdR (bl { data := #[120, 46, 111, 32, 32, 121, 32, 58, 32, 99, 99, 32, 120, 46, 99, 32, 124, 32, 97, 46, 104, 32, 124, 124, 32, 103, 101, 110] }) = some (aw1, [99, 99], aw2, aw3, aw4) := by kernel_rfl
theorem wdlit2 : bdR (bl { data := #[120, 32, 58, 32, 99, 99, 32, 124, 124, 32, 103, 101, 110] }) = some ([[120]], [99, 99], [], [], aw4) := by kernel_rfl
theorem wdlit3 : bdR (bl { data := #[120, 58, 32, 99, 99] }) = none := by kernel_rfl
theorem wdlit4 : bdR (bl { data := #[120, 32, 58, 32, 99, 99, 32, 124] }) = none := by kernel_rfl

end Go.Proofs.YtgfegbeickaknabGreatDoor
