/-
  DERIVED. GIVEN WITH THE SEED: THE CARDS: each row of YtdcdghofkpbljaaGreatDoorRows.lean that lists a variable, with what it lists TIED to the program's text (the seventh form; the later family's looks); each row that meets fmt, with fmt's text TOLD by the authors' own Lean function (tested against real Go, not proved from fmt's source: count such statements apart). THE CARD IS WHAT COUNTS. Prove the row's statement (the work); the ties are given (YtdcdghofkpbljaaGreatDoorTie.lean); close each card by the builder's one call (the guide's Derived/Test/ToyasCard.lean, 'card_holds'). Laid BY PROGRAM, IN A SANDBOX (cutbox-door.mjs). By AI agents, Wed Nov 11 2026. No macro, syntax, notation, axiom, sorry.
-/
import Derived.Test.YtdcdghofkpbljaaGreatDoorRows
import GoSem.ClaimSeven
namespace Go.Proofs.YtdcdghofkpbljaaGreatDoor
namespace Rows

/-- THE TIED CARD OF 'cruciblelaw9.Graphs'. -/
def graphsCard : Claim7 := { stood := { row := graphsRow, standIns := [], harness := (true, "c3db72c03ce8b3f95378e856e85ef8fdf0b5aff6cc3dfc3a8cf5cffeb5a0569d"), looks := false }, kinds := [], alts := [], laidByText := true, laidKinds := [.data, .pinned], laidTests := true, laidLooks := .later }
def GraphsCardSaid : Prop := Claim7.holds Tryz.pinned (.plain (OpenSpec.ofChange graphsSpec)) graphsCard

/-- THE SECOND FORM's CARD OF 'cruciblelaw9.Graphs'. -/
def graphsUptoCard : Claim7 := { stood := { row := graphsUptoRow, standIns := [], harness := (true, "c3db72c03ce8b3f95378e856e85ef8fdf0b5aff6cc3dfc3a8cf5cffeb5a0569d"), looks := false }, kinds := [], alts := [], laidByText := true, laidKinds := [.data, .pinned], laidTests := true, laidLooks := .later }
def GraphsUptoCardSaid : Prop := Claim7.holds Tryz.pinned (.plain (OpenSpec.upto graphsSpec)) graphsUptoCard
end Rows
end Go.Proofs.YtdcdghofkpbljaaGreatDoor
