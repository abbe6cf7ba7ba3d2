/-
  DERIVED. GIVEN WITH THE SEED: THE CARDS: each row of YthhlbgfjldmbbaaDoorRows.lean that lists a variable, with what it lists TIED to the program's text (the seventh form; the later family's looks); each row that meets fmt, with fmt's text TOLD by the authors' own Lean function (tested against real Go, not proved from fmt's source: count such statements apart). THE CARD IS WHAT COUNTS. Prove the row's statement (the work); the ties are given (YthhlbgfjldmbbaaDoorTie.lean); close each card by the builder's one call (the guide's Derived/Test/ToyasCard.lean, 'card_holds'). Laid BY PROGRAM, IN A SANDBOX (cutbox-door.mjs). By AI agents, Wed Nov 11 2026. No macro, syntax, notation, axiom, sorry.
-/
import Derived.Test.YthhlbgfjldmbbaaDoorRows
import GoSem.ClaimSeven
namespace Go.Proofs.YthhlbgfjldmbbaaDoor
namespace Rows

/-- THE TIED CARD OF 'cruciblelaw12.DiskForms'. -/
def diskFormsCard : Claim7 := { stood := { row := diskFormsRow, standIns := [], harness := (true, "307cac763e20cdc10c5ffc21cc35ca4585baaaa6c3705583fa9dd6be4929962f"), looks := false }, kinds := [], alts := [], laidByText := true, laidKinds := [.data, .pinned], laidTests := true, laidLooks := .later }
def DiskFormsCardSaid : Prop := Claim7.holds Tryd.pinned (.plain (OpenSpec.ofChange diskFormsSpec)) diskFormsCard

/-- THE SECOND FORM's CARD OF 'cruciblelaw12.DiskForms'. -/
def diskFormsUptoCard : Claim7 := { stood := { row := diskFormsUptoRow, standIns := [], harness := (true, "307cac763e20cdc10c5ffc21cc35ca4585baaaa6c3705583fa9dd6be4929962f"), looks := false }, kinds := [], alts := [], laidByText := true, laidKinds := [.data, .pinned], laidTests := true, laidLooks := .later }
def DiskFormsUptoCardSaid : Prop := Claim7.holds Tryd.pinned (.plain (OpenSpec.upto diskFormsSpec)) diskFormsUptoCard
end Rows
end Go.Proofs.YthhlbgfjldmbbaaDoor
