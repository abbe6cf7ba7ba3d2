/-
  DERIVED. GIVEN WITH THE SEED: THE CARDS: each row of YtgbegdgacjodcabDoorRows.lean that lists a variable, with what it lists TIED to the program's text (the seventh form; the later family's looks); each row that meets fmt, with fmt's text TOLD by the authors' own Lean function (tested against real Go, not proved from fmt's source: count such statements apart). THE CARD IS WHAT COUNTS. Prove the row's statement (the work); the ties are given (YtgbegdgacjodcabDoorTie.lean); close each card by the builder's one call (the guide's Derived/Test/ToyasCard.lean, 'card_holds'). Laid BY PROGRAM, IN A SANDBOX (cutbox-door.mjs). By AI agents, Wed Nov 11 2026. No macro, syntax, notation, axiom, sorry.
-/
import Derived.Test.YtgbegdgacjodcabDoorRows
import GoSem.ClaimSeven
namespace Go.Proofs.YtgbegdgacjodcabDoor
namespace Rows

/-- THE TIED CARD OF 'cruciblelaw14.LogLast'. -/
def logLastCard : Claim7 := { stood := { row := logLastRow, standIns := [], harness := (true, "24e60f6f5039ff5b6a9b2c6abd0a24dc39ea0c97356618e69ae056e6fdc7bf21"), looks := true }, kinds := [], alts := [], laidByText := true, laidKinds := [.data, .data, .data, .data, .sentinel, .sentinel, .pinned], laidTests := true, laidLooks := .later }
def LogLastCardSaid : Prop := Claim7.holds Tryd.pinned (.plain (OpenSpec.ofChange logLastSpec)) logLastCard

/-- THE TIED CARD OF 'cruciblelaw14.LogLoad'. -/
def logLoadCard : Claim7 := { stood := { row := logLoadRow, standIns := [], harness := (true, "24e60f6f5039ff5b6a9b2c6abd0a24dc39ea0c97356618e69ae056e6fdc7bf21"), looks := true }, kinds := [], alts := [], laidByText := true, laidKinds := [.data, .data, .data, .data, .sentinel, .sentinel, .pinned], laidTests := true, laidLooks := .later }
def LogLoadCardSaid : Prop := Claim7.holds Tryd.pinned (.plain (OpenSpec.ofChange logLoadSpec)) logLoadCard

/-- THE SECOND FORM's CARD OF 'cruciblelaw14.LogLast'. -/
def logLastUptoCard : Claim7 := { stood := { row := logLastUptoRow, standIns := [], harness := (true, "24e60f6f5039ff5b6a9b2c6abd0a24dc39ea0c97356618e69ae056e6fdc7bf21"), looks := true }, kinds := [], alts := [], laidByText := true, laidKinds := [.data, .data, .data, .data, .sentinel, .sentinel, .pinned], laidTests := true, laidLooks := .later }
def LogLastUptoCardSaid : Prop := Claim7.holds Tryd.pinned (.plain (OpenSpec.upto logLastSpec)) logLastUptoCard

/-- THE SECOND FORM's CARD OF 'cruciblelaw14.LogLoad'. -/
def logLoadUptoCard : Claim7 := { stood := { row := logLoadUptoRow, standIns := [], harness := (true, "24e60f6f5039ff5b6a9b2c6abd0a24dc39ea0c97356618e69ae056e6fdc7bf21"), looks := true }, kinds := [], alts := [], laidByText := true, laidKinds := [.data, .data, .data, .data, .sentinel, .sentinel, .pinned], laidTests := true, laidLooks := .later }
def LogLoadUptoCardSaid : Prop := Claim7.holds Tryd.pinned (.plain (OpenSpec.upto logLoadSpec)) logLoadUptoCard
end Rows
end Go.Proofs.YtgbegdgacjodcabDoor
