/-
  DERIVED. GIVEN WITH THE SEED: THE CARDS: each row of YtfadjppokbolhaaGreatDoorRows.lean that lists a variable, with what it lists TIED to the program's text (the seventh form; the later family's looks); each row that meets fmt, with fmt's text TOLD by the authors' own Lean function (tested against real Go, not proved from fmt's source: count such statements apart). THE CARD IS WHAT COUNTS. Prove the row's statement (the work); the ties are given (YtfadjppokbolhaaGreatDoorTie.lean); close each card by the builder's one call (the guide's Derived/Test/ToyasCard.lean, 'card_holds'). Laid BY PROGRAM, IN A SANDBOX (cutbox-door.mjs). By AI agents, Wed Nov 11 2026. No macro, syntax, notation, axiom, sorry.
-/
import Derived.Test.YtfadjppokbolhaaGreatDoorRows
import GoSem.ClaimSeven
namespace Go.Proofs.YtfadjppokbolhaaGreatDoor
namespace Rows

/-- THE TIED CARD OF 'cruciblelaw10.Orders'. -/
def ordersCard : Claim7 := { stood := { row := ordersRow, standIns := [], harness := (true, "4260f4c9b49f7709cca952a0fdccfac73c83df6297843b0b6bd8906049de09f4"), looks := false }, kinds := [], alts := [], laidByText := true, laidKinds := [.data, .pinned], laidTests := true, laidLooks := .later }
def OrdersCardSaid : Prop := Claim7.holds Tryz.pinned (.plain (OpenSpec.ofChange ordersSpec)) ordersCard

/-- THE SECOND FORM's CARD OF 'cruciblelaw10.Orders'. -/
def ordersUptoCard : Claim7 := { stood := { row := ordersUptoRow, standIns := [], harness := (true, "4260f4c9b49f7709cca952a0fdccfac73c83df6297843b0b6bd8906049de09f4"), looks := false }, kinds := [], alts := [], laidByText := true, laidKinds := [.data, .pinned], laidTests := true, laidLooks := .later }
def OrdersUptoCardSaid : Prop := Claim7.holds Tryz.pinned (.plain (OpenSpec.upto ordersSpec)) ordersUptoCard
end Rows
end Go.Proofs.YtfadjppokbolhaaGreatDoor
