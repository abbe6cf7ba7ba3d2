/-
  DERIVED. GIVEN WITH THE SEED: THE CARDS: each row of YtgbegdgacjodcaaDoorRows.lean that lists a variable, with what it lists TIED to the program's text (the seventh form; the later family's looks); each row that meets fmt, with fmt's text TOLD by the authors' own Lean function (tested against real Go, not proved from fmt's source: count such statements apart). THE CARD IS WHAT COUNTS. Prove the row's statement (the work); the ties are given (YtgbegdgacjodcaaDoorTie.lean); close each card by the builder's one call (the guide's Derived/Test/ToyasCard.lean, 'card_holds'). Laid BY PROGRAM, IN A SANDBOX (cutbox-door.mjs). By AI agents, Wed Nov 11 2026. No macro, syntax, notation, axiom, sorry.
-/
import Derived.Test.YtgbegdgacjodcaaDoorRows
import GoSem.ClaimSeven
namespace Go.Proofs.YtgbegdgacjodcaaDoor
namespace Rows

/-- THE TIED CARD OF 'cruciblelaw14.LogCut'. -/
def logCutCard : Claim7 := { stood := { row := logCutRow, standIns := [], harness := (true, "ccc20aa36e42e557f1d7cf2c5106c05d03d6dcfa28120e4e77c31c16c3dd47bd"), looks := true }, kinds := [], alts := [], laidByText := true, laidKinds := [.data, .data, .data, .data, .sentinel, .sentinel, .pinned], laidTests := true, laidLooks := .later }
def LogCutCardSaid : Prop := Claim7.holds Tryd.pinned (.plain (OpenSpec.ofChange logCutSpec)) logCutCard

/-- THE TIED CARD OF 'cruciblelaw14.LogForms'. -/
def logFormsCard : Claim7 := { stood := { row := logFormsRow, standIns := [], harness := (true, "ccc20aa36e42e557f1d7cf2c5106c05d03d6dcfa28120e4e77c31c16c3dd47bd"), looks := true }, kinds := [], alts := [], laidByText := true, laidKinds := [.data, .data, .data, .data, .sentinel, .sentinel, .pinned], laidTests := true, laidLooks := .later }
def LogFormsCardSaid : Prop := Claim7.holds Tryd.pinned (.plain (OpenSpec.ofChange logFormsSpec)) logFormsCard

/-- THE TIED CARD OF 'cruciblelaw14.LogTwo'. -/
def logTwoCard : Claim7 := { stood := { row := logTwoRow, standIns := [], harness := (true, "ccc20aa36e42e557f1d7cf2c5106c05d03d6dcfa28120e4e77c31c16c3dd47bd"), looks := true }, kinds := [], alts := [], laidByText := true, laidKinds := [.data, .data, .data, .data, .sentinel, .sentinel, .pinned], laidTests := true, laidLooks := .later }
def LogTwoCardSaid : Prop := Claim7.holds Tryd.pinned (.plain (OpenSpec.ofChange logTwoSpec)) logTwoCard

/-- THE SECOND FORM's CARD OF 'cruciblelaw14.LogCut'. -/
def logCutUptoCard : Claim7 := { stood := { row := logCutUptoRow, standIns := [], harness := (true, "ccc20aa36e42e557f1d7cf2c5106c05d03d6dcfa28120e4e77c31c16c3dd47bd"), looks := true }, kinds := [], alts := [], laidByText := true, laidKinds := [.data, .data, .data, .data, .sentinel, .sentinel, .pinned], laidTests := true, laidLooks := .later }
def LogCutUptoCardSaid : Prop := Claim7.holds Tryd.pinned (.plain (OpenSpec.upto logCutSpec)) logCutUptoCard

/-- THE SECOND FORM's CARD OF 'cruciblelaw14.LogForms'. -/
def logFormsUptoCard : Claim7 := { stood := { row := logFormsUptoRow, standIns := [], harness := (true, "ccc20aa36e42e557f1d7cf2c5106c05d03d6dcfa28120e4e77c31c16c3dd47bd"), looks := true }, kinds := [], alts := [], laidByText := true, laidKinds := [.data, .data, .data, .data, .sentinel, .sentinel, .pinned], laidTests := true, laidLooks := .later }
def LogFormsUptoCardSaid : Prop := Claim7.holds Tryd.pinned (.plain (OpenSpec.upto logFormsSpec)) logFormsUptoCard

/-- THE SECOND FORM's CARD OF 'cruciblelaw14.LogTwo'. -/
def logTwoUptoCard : Claim7 := { stood := { row := logTwoUptoRow, standIns := [], harness := (true, "ccc20aa36e42e557f1d7cf2c5106c05d03d6dcfa28120e4e77c31c16c3dd47bd"), looks := true }, kinds := [], alts := [], laidByText := true, laidKinds := [.data, .data, .data, .data, .sentinel, .sentinel, .pinned], laidTests := true, laidLooks := .later }
def LogTwoUptoCardSaid : Prop := Claim7.holds Tryd.pinned (.plain (OpenSpec.upto logTwoSpec)) logTwoUptoCard
end Rows
end Go.Proofs.YtgbegdgacjodcaaDoor
