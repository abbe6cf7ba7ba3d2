/-
  DERIVED. GIVEN WITH THE SEED: THE CARDS: each row of YtgfegbeickaknabGreatDoorRows.lean that lists a variable, with what it lists TIED to the program's text (the seventh form; the later family's looks); each row that meets fmt, with fmt's text TOLD by the authors' own Lean function (tested against real Go, not proved from fmt's source: count such statements apart). THE CARD IS WHAT COUNTS. Prove the row's statement (the work); the ties are given (YtgfegbeickaknabGreatDoorTie.lean); close each card by the builder's one call (the guide's Derived/Test/ToyasCard.lean, 'card_holds'). Laid BY PROGRAM, IN A SANDBOX (cutbox-door.mjs). By AI agents, Wed Nov 11 2026. No macro, syntax, notation, axiom, sorry.
-/
import Derived.Test.YtgfegbeickaknabGreatDoorRows
import GoSem.ClaimSeven
namespace Go.Proofs.YtgfegbeickaknabGreatDoor
namespace Rows

/-- THE TIED CARD OF 'cruciblelaw8.ManifestBinds'. -/
def manifestBindsCard : Claim7 := { stood := { row := manifestBindsRow, standIns := [], harness := (true, "e91aa74e5e6161712afa0d2e35e099038aebbe27e67d30108803e65392c41e5d"), looks := false }, kinds := [], alts := [], laidByText := true, laidKinds := [.data, .listed, .data, .pinned], laidTests := true, laidLooks := .later }
def ManifestBindsCardSaid : Prop := Claim7.holds Tryz.pinned (.plain (OpenSpec.ofChange manifestBindsSpec)) manifestBindsCard

/-- THE SECOND FORM's CARD OF 'cruciblelaw8.ManifestBinds'. -/
def manifestBindsUptoCard : Claim7 := { stood := { row := manifestBindsUptoRow, standIns := [], harness := (true, "e91aa74e5e6161712afa0d2e35e099038aebbe27e67d30108803e65392c41e5d"), looks := false }, kinds := [], alts := [], laidByText := true, laidKinds := [.data, .listed, .data, .pinned], laidTests := true, laidLooks := .later }
def ManifestBindsUptoCardSaid : Prop := Claim7.holds Tryz.pinned (.plain (OpenSpec.upto manifestBindsSpec)) manifestBindsUptoCard
end Rows
end Go.Proofs.YtgfegbeickaknabGreatDoor
