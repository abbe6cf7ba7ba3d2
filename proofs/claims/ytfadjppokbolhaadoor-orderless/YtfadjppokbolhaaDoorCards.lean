/-
  DERIVED. GIVEN WITH THE SEED: THE CARDS: each row of YtfadjppokbolhaaDoorRows.lean that lists a variable, with what it lists TIED to the program's text (the seventh form; the later family's looks); each row that meets fmt, with fmt's text TOLD by the authors' own Lean function (tested against real Go, not proved from fmt's source: count such statements apart). THE CARD IS WHAT COUNTS. Prove the row's statement (the work); the ties are given (YtfadjppokbolhaaDoorTie.lean); close each card by the builder's one call (the guide's Derived/Test/ToyasCard.lean, 'card_holds'). Laid BY PROGRAM, IN A SANDBOX (cutbox-door.mjs). By AI agents, Wed Nov 11 2026. No macro, syntax, notation, axiom, sorry.
-/
import Derived.Test.YtfadjppokbolhaaDoorRows
import GoSem.ClaimSeven
namespace Go.Proofs.YtfadjppokbolhaaDoor
namespace Rows

/-- THE TIED CARD OF 'cruciblelaw10.OrderNeeds'. -/
def orderNeedsCard : Claim7 := { stood := { row := orderNeedsRow, standIns := [], harness := (true, "543e068f81d2f4f0877a308eff9da4ecc968e2cc2313aa9e16d82eb0a95efa9c"), looks := false }, kinds := [], alts := [], laidByText := true, laidKinds := [.data, .pinned], laidTests := true, laidLooks := .later }
def OrderNeedsCardSaid : Prop := Claim7.holds Tryd.pinned (.plain (OpenSpec.ofChange orderNeedsSpec)) orderNeedsCard

/-- THE TIED CARD OF 'cruciblelaw10.OrderCycles'. -/
def orderCyclesCard : Claim7 := { stood := { row := orderCyclesRow, standIns := [], harness := (true, "543e068f81d2f4f0877a308eff9da4ecc968e2cc2313aa9e16d82eb0a95efa9c"), looks := false }, kinds := [], alts := [], laidByText := true, laidKinds := [.data, .pinned], laidTests := true, laidLooks := .later }
def OrderCyclesCardSaid : Prop := Claim7.holds Tryd.pinned (.plain (OpenSpec.ofChange orderCyclesSpec)) orderCyclesCard

/-- THE TIED CARD OF 'cruciblelaw10.OrderLess'. -/
def orderLessCard : Claim7 := { stood := { row := orderLessRow, standIns := [], harness := (true, "543e068f81d2f4f0877a308eff9da4ecc968e2cc2313aa9e16d82eb0a95efa9c"), looks := false }, kinds := [], alts := [], laidByText := true, laidKinds := [.data, .pinned], laidTests := true, laidLooks := .later }
def OrderLessCardSaid : Prop := Claim7.holds Tryd.pinned (.plain (OpenSpec.ofChange orderLessSpec)) orderLessCard

/-- THE TIED CARD OF 'cruciblelaw10.OrderPlain'. -/
def orderPlainCard : Claim7 := { stood := { row := orderPlainRow, standIns := [], harness := (true, "543e068f81d2f4f0877a308eff9da4ecc968e2cc2313aa9e16d82eb0a95efa9c"), looks := false }, kinds := [], alts := [], laidByText := true, laidKinds := [.data, .pinned], laidTests := true, laidLooks := .later }
def OrderPlainCardSaid : Prop := Claim7.holds Tryd.pinned (.plain (OpenSpec.ofChange orderPlainSpec)) orderPlainCard

/-- THE SECOND FORM's CARD OF 'cruciblelaw10.OrderNeeds'. -/
def orderNeedsUptoCard : Claim7 := { stood := { row := orderNeedsUptoRow, standIns := [], harness := (true, "543e068f81d2f4f0877a308eff9da4ecc968e2cc2313aa9e16d82eb0a95efa9c"), looks := false }, kinds := [], alts := [], laidByText := true, laidKinds := [.data, .pinned], laidTests := true, laidLooks := .later }
def OrderNeedsUptoCardSaid : Prop := Claim7.holds Tryd.pinned (.plain (OpenSpec.upto orderNeedsSpec)) orderNeedsUptoCard

/-- THE SECOND FORM's CARD OF 'cruciblelaw10.OrderCycles'. -/
def orderCyclesUptoCard : Claim7 := { stood := { row := orderCyclesUptoRow, standIns := [], harness := (true, "543e068f81d2f4f0877a308eff9da4ecc968e2cc2313aa9e16d82eb0a95efa9c"), looks := false }, kinds := [], alts := [], laidByText := true, laidKinds := [.data, .pinned], laidTests := true, laidLooks := .later }
def OrderCyclesUptoCardSaid : Prop := Claim7.holds Tryd.pinned (.plain (OpenSpec.upto orderCyclesSpec)) orderCyclesUptoCard

/-- THE SECOND FORM's CARD OF 'cruciblelaw10.OrderLess'. -/
def orderLessUptoCard : Claim7 := { stood := { row := orderLessUptoRow, standIns := [], harness := (true, "543e068f81d2f4f0877a308eff9da4ecc968e2cc2313aa9e16d82eb0a95efa9c"), looks := false }, kinds := [], alts := [], laidByText := true, laidKinds := [.data, .pinned], laidTests := true, laidLooks := .later }
def OrderLessUptoCardSaid : Prop := Claim7.holds Tryd.pinned (.plain (OpenSpec.upto orderLessSpec)) orderLessUptoCard

/-- THE SECOND FORM's CARD OF 'cruciblelaw10.OrderPlain'. -/
def orderPlainUptoCard : Claim7 := { stood := { row := orderPlainUptoRow, standIns := [], harness := (true, "543e068f81d2f4f0877a308eff9da4ecc968e2cc2313aa9e16d82eb0a95efa9c"), looks := false }, kinds := [], alts := [], laidByText := true, laidKinds := [.data, .pinned], laidTests := true, laidLooks := .later }
def OrderPlainUptoCardSaid : Prop := Claim7.holds Tryd.pinned (.plain (OpenSpec.upto orderPlainSpec)) orderPlainUptoCard
end Rows
end Go.Proofs.YtfadjppokbolhaaDoor
