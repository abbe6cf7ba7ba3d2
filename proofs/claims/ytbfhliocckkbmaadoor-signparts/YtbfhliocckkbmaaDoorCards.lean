/-
  DERIVED. GIVEN WITH THE SEED: THE CARDS: each row of YtbfhliocckkbmaaDoorRows.lean that lists a variable, with what it lists TIED to the program's text (the seventh form; the later family's looks); each row that meets fmt, with fmt's text TOLD by the authors' own Lean function (tested against real Go, not proved from fmt's source: count such statements apart). THE CARD IS WHAT COUNTS. Prove the row's statement (the work); the ties are given (YtbfhliocckkbmaaDoorTie.lean); close each card by the builder's one call (the guide's Derived/Test/ToyasCard.lean, 'card_holds'). Laid BY PROGRAM, IN A SANDBOX (cutbox-door.mjs). By AI agents, Wed Nov 11 2026. No macro, syntax, notation, axiom, sorry.
-/
import Derived.Test.YtbfhliocckkbmaaDoorRows
import GoSem.ClaimSeven
namespace Go.Proofs.YtbfhliocckkbmaaDoor
namespace Rows

/-- THE TIED CARD OF 'cruciblelaw11.Signs'. -/
def signsCard : Claim7 := { stood := { row := signsRow, standIns := [], harness := (true, "d4e89a7e85c36141bb06b5297fcb65e899c755e51bbc01a6754520a1fa7ca3c1"), looks := false }, kinds := [], alts := [], laidByText := true, laidKinds := [.data, .pinned], laidTests := true, laidLooks := .later }
def SignsCardSaid : Prop := Claim7.holds Tryd.pinned (.plain (OpenSpec.ofChange signsSpec)) signsCard

/-- THE TIED CARD OF 'cruciblelaw11.SignForms'. -/
def signFormsCard : Claim7 := { stood := { row := signFormsRow, standIns := [], harness := (true, "d4e89a7e85c36141bb06b5297fcb65e899c755e51bbc01a6754520a1fa7ca3c1"), looks := false }, kinds := [], alts := [], laidByText := true, laidKinds := [.data, .pinned], laidTests := true, laidLooks := .later }
def SignFormsCardSaid : Prop := Claim7.holds Tryd.pinned (.plain (OpenSpec.ofChange signFormsSpec)) signFormsCard

/-- THE TIED CARD OF 'cruciblelaw11.SignOther'. -/
def signOtherCard : Claim7 := { stood := { row := signOtherRow, standIns := [], harness := (true, "d4e89a7e85c36141bb06b5297fcb65e899c755e51bbc01a6754520a1fa7ca3c1"), looks := false }, kinds := [], alts := [], laidByText := true, laidKinds := [.data, .pinned], laidTests := true, laidLooks := .later }
def SignOtherCardSaid : Prop := Claim7.holds Tryd.pinned (.plain (OpenSpec.ofChange signOtherSpec)) signOtherCard

/-- THE TIED CARD OF 'cruciblelaw11.SignParts'. -/
def signPartsCard : Claim7 := { stood := { row := signPartsRow, standIns := [], harness := (true, "d4e89a7e85c36141bb06b5297fcb65e899c755e51bbc01a6754520a1fa7ca3c1"), looks := false }, kinds := [], alts := [], laidByText := true, laidKinds := [.data, .pinned], laidTests := true, laidLooks := .later }
def SignPartsCardSaid : Prop := Claim7.holds Tryd.pinned (.plain (OpenSpec.ofChange signPartsSpec)) signPartsCard

/-- THE SECOND FORM's CARD OF 'cruciblelaw11.Signs'. -/
def signsUptoCard : Claim7 := { stood := { row := signsUptoRow, standIns := [], harness := (true, "d4e89a7e85c36141bb06b5297fcb65e899c755e51bbc01a6754520a1fa7ca3c1"), looks := false }, kinds := [], alts := [], laidByText := true, laidKinds := [.data, .pinned], laidTests := true, laidLooks := .later }
def SignsUptoCardSaid : Prop := Claim7.holds Tryd.pinned (.plain (OpenSpec.upto signsSpec)) signsUptoCard

/-- THE SECOND FORM's CARD OF 'cruciblelaw11.SignForms'. -/
def signFormsUptoCard : Claim7 := { stood := { row := signFormsUptoRow, standIns := [], harness := (true, "d4e89a7e85c36141bb06b5297fcb65e899c755e51bbc01a6754520a1fa7ca3c1"), looks := false }, kinds := [], alts := [], laidByText := true, laidKinds := [.data, .pinned], laidTests := true, laidLooks := .later }
def SignFormsUptoCardSaid : Prop := Claim7.holds Tryd.pinned (.plain (OpenSpec.upto signFormsSpec)) signFormsUptoCard

/-- THE SECOND FORM's CARD OF 'cruciblelaw11.SignOther'. -/
def signOtherUptoCard : Claim7 := { stood := { row := signOtherUptoRow, standIns := [], harness := (true, "d4e89a7e85c36141bb06b5297fcb65e899c755e51bbc01a6754520a1fa7ca3c1"), looks := false }, kinds := [], alts := [], laidByText := true, laidKinds := [.data, .pinned], laidTests := true, laidLooks := .later }
def SignOtherUptoCardSaid : Prop := Claim7.holds Tryd.pinned (.plain (OpenSpec.upto signOtherSpec)) signOtherUptoCard

/-- THE SECOND FORM's CARD OF 'cruciblelaw11.SignParts'. -/
def signPartsUptoCard : Claim7 := { stood := { row := signPartsUptoRow, standIns := [], harness := (true, "d4e89a7e85c36141bb06b5297fcb65e899c755e51bbc01a6754520a1fa7ca3c1"), looks := false }, kinds := [], alts := [], laidByText := true, laidKinds := [.data, .pinned], laidTests := true, laidLooks := .later }
def SignPartsUptoCardSaid : Prop := Claim7.holds Tryd.pinned (.plain (OpenSpec.upto signPartsSpec)) signPartsUptoCard
end Rows
end Go.Proofs.YtbfhliocckkbmaaDoor
