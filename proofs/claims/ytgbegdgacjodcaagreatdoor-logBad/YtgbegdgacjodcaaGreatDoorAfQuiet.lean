/- A region that draws its order, and whose callees make memory but turn nothing that was there: one walk in the order of the text serves every order; no conditions. -/
import Derived.Deep.QuietTactic
import Derived.BigQuiet
import Derived.Test.YtgbegdgacjodcaaGreatDoorBdPlain
namespace Go.Proofs.YtgbegdgacjodcaaGreatDoor
open Go.RowKit

/-- A world behind w in which all that w held is as it was. -/
def Aft (w : World) : Type := {w' : World // Q w w'}
def Aft.to {w : World} (u : Aft w) : World := u.1
def Aft.of {w w' : World} (h : Q w w') : Aft w := ⟨w', h⟩
theorem Aft.ne (w : World) : Nonempty (Aft w) := ⟨.of (Q.refl w)⟩
theorem Aft.q {w : World} (u : Aft w) : Q w u.to := u.2

theorem wp_region_aft {P : Program} {id : Nat} {R : Exit → Act → World → Prop} {a : Act} {w : World} {l : List Oper} (hm : P.follows .mixedOrders = true) (hB : Region.lexB .any l.toArray = true)
    (h : wpQuiet P l.toArray (fun w' => ∃ u : Aft w, w' = u.to) (fun a' => ∀ w', (∃ u : Aft w, w' = u.to) → R .normal a' w') l a) : (Code.region id l.toArray true).wp P R a w :=
  wp_region_quiet (C := fun w' => ∃ u : Aft w, w' = u.to) hm hB ⟨.of (Q.refl w).drew, rfl⟩ (by simpa using h)

theorem Calls.aft {P : Program} {f : FuncId} {args : Array Value} {w : World} {u : Aft w} {v : Value}
    (h : Calls P f args u.to fun e w' => e = .returned v ∧ Q u.to w') : Calls P f args u.to fun e w'' => e = .returned v ∧ ∃ m : Aft w, w'' = m.to :=
  h.mono fun _ _ ⟨he, q⟩ => ⟨he, .of (u.q.trans q), rfl⟩

theorem Aft.cell {w : World} {p : Addr} {v : Value} (h : w.cell? p = some v) (hp : p.block < w.heap.size) (u : Aft w) : u.to.cell? p = some v := (u.q.cell hp).trans h

end Go.Proofs.YtgbegdgacjodcaaGreatDoor
