/-
  DERIVED. GIVEN WITH THE SEED: THE CARDS: each row of YtfdmhniccdnafaaDoorRows.lean that lists a variable, with what it lists TIED to the program's text (the seventh form; the later family's looks); each row that meets fmt, with fmt's text TOLD by the authors' own Lean function (tested against real Go, not proved from fmt's source: count such statements apart). THE CARD IS WHAT COUNTS. Prove the row's statement (the work); the ties are given (YtfdmhniccdnafaaDoorTie.lean); close each card by the builder's one call (the guide's Derived/Test/ToyasCard.lean, 'card_holds'). Laid BY PROGRAM, IN A SANDBOX (cutbox-door.mjs). By AI agents, Wed Nov 11 2026. No macro, syntax, notation, axiom, sorry.
-/
import Derived.Test.YtfdmhniccdnafaaDoorRows
import GoSem.ClaimSeven
namespace Go.Proofs.YtfdmhniccdnafaaDoor
namespace Rows

/-- THE TIED CARD OF 'cruciblelaw13.Loglines'. -/
def loglinesCard : Claim7 := { stood := { row := loglinesRow, standIns := [], harness := (true, "7165f7ac17c046a90c7350451bbd4585325d87011bf465bafcde6f6fdd1da4da"), looks := true }, kinds := [], alts := [], laidByText := true, laidKinds := [.data, .data, .data, .data, .sentinel, .sentinel, .pinned], laidTests := true, laidLooks := .later }
def LoglinesCardSaid : Prop := Claim7.holds Tryd.pinned (.plain (OpenSpec.ofChange loglinesSpec)) loglinesCard

/-- THE TIED CARD OF 'cruciblelaw13.LoglineForms'. -/
def loglineFormsCard : Claim7 := { stood := { row := loglineFormsRow, standIns := [], harness := (true, "7165f7ac17c046a90c7350451bbd4585325d87011bf465bafcde6f6fdd1da4da"), looks := true }, kinds := [], alts := [], laidByText := true, laidKinds := [.data, .data, .data, .data, .sentinel, .sentinel, .pinned], laidTests := true, laidLooks := .later }
def LoglineFormsCardSaid : Prop := Claim7.holds Tryd.pinned (.plain (OpenSpec.ofChange loglineFormsSpec)) loglineFormsCard

/-- THE TIED CARD OF 'cruciblelaw13.LoglineUnlike'. -/
def loglineUnlikeCard : Claim7 := { stood := { row := loglineUnlikeRow, standIns := [], harness := (true, "7165f7ac17c046a90c7350451bbd4585325d87011bf465bafcde6f6fdd1da4da"), looks := true }, kinds := [], alts := [], laidByText := true, laidKinds := [.data, .data, .data, .data, .sentinel, .sentinel, .pinned], laidTests := true, laidLooks := .later }
def LoglineUnlikeCardSaid : Prop := Claim7.holds Tryd.pinned (.plain (OpenSpec.ofChange loglineUnlikeSpec)) loglineUnlikeCard

/-- THE TIED CARD OF 'cruciblelaw13.LoglineTimes'. -/
def loglineTimesCard : Claim7 := { stood := { row := loglineTimesRow, standIns := [], harness := (true, "7165f7ac17c046a90c7350451bbd4585325d87011bf465bafcde6f6fdd1da4da"), looks := true }, kinds := [], alts := [], laidByText := true, laidKinds := [.data, .data, .data, .data, .sentinel, .sentinel, .pinned], laidTests := true, laidLooks := .later }
def LoglineTimesCardSaid : Prop := Claim7.holds Tryd.pinned (.plain (OpenSpec.ofChange loglineTimesSpec)) loglineTimesCard

/-- THE SECOND FORM's CARD OF 'cruciblelaw13.Loglines'. -/
def loglinesUptoCard : Claim7 := { stood := { row := loglinesUptoRow, standIns := [], harness := (true, "7165f7ac17c046a90c7350451bbd4585325d87011bf465bafcde6f6fdd1da4da"), looks := true }, kinds := [], alts := [], laidByText := true, laidKinds := [.data, .data, .data, .data, .sentinel, .sentinel, .pinned], laidTests := true, laidLooks := .later }
def LoglinesUptoCardSaid : Prop := Claim7.holds Tryd.pinned (.plain (OpenSpec.upto loglinesSpec)) loglinesUptoCard

/-- THE SECOND FORM's CARD OF 'cruciblelaw13.LoglineForms'. -/
def loglineFormsUptoCard : Claim7 := { stood := { row := loglineFormsUptoRow, standIns := [], harness := (true, "7165f7ac17c046a90c7350451bbd4585325d87011bf465bafcde6f6fdd1da4da"), looks := true }, kinds := [], alts := [], laidByText := true, laidKinds := [.data, .data, .data, .data, .sentinel, .sentinel, .pinned], laidTests := true, laidLooks := .later }
def LoglineFormsUptoCardSaid : Prop := Claim7.holds Tryd.pinned (.plain (OpenSpec.upto loglineFormsSpec)) loglineFormsUptoCard

/-- THE SECOND FORM's CARD OF 'cruciblelaw13.LoglineUnlike'. -/
def loglineUnlikeUptoCard : Claim7 := { stood := { row := loglineUnlikeUptoRow, standIns := [], harness := (true, "7165f7ac17c046a90c7350451bbd4585325d87011bf465bafcde6f6fdd1da4da"), looks := true }, kinds := [], alts := [], laidByText := true, laidKinds := [.data, .data, .data, .data, .sentinel, .sentinel, .pinned], laidTests := true, laidLooks := .later }
def LoglineUnlikeUptoCardSaid : Prop := Claim7.holds Tryd.pinned (.plain (OpenSpec.upto loglineUnlikeSpec)) loglineUnlikeUptoCard

/-- THE SECOND FORM's CARD OF 'cruciblelaw13.LoglineTimes'. -/
def loglineTimesUptoCard : Claim7 := { stood := { row := loglineTimesUptoRow, standIns := [], harness := (true, "7165f7ac17c046a90c7350451bbd4585325d87011bf465bafcde6f6fdd1da4da"), looks := true }, kinds := [], alts := [], laidByText := true, laidKinds := [.data, .data, .data, .data, .sentinel, .sentinel, .pinned], laidTests := true, laidLooks := .later }
def LoglineTimesUptoCardSaid : Prop := Claim7.holds Tryd.pinned (.plain (OpenSpec.upto loglineTimesSpec)) loglineTimesUptoCard
end Rows
end Go.Proofs.YtfdmhniccdnafaaDoor
