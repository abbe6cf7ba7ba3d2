/-
  DERIVED. GIVEN WITH THE SEED: THE CARDS: each row of YtjalklmgdkhekaaDoorRows.lean that lists a variable, with what it lists TIED to the program's text (the seventh form; the later family's looks); each row that meets fmt, with fmt's text TOLD by the authors' own Lean function (tested against real Go, not proved from fmt's source: count such statements apart). THE CARD IS WHAT COUNTS. Prove the row's statement (the work); the ties are given (YtjalklmgdkhekaaDoorTie.lean); close each card by the builder's one call (the guide's Derived/Test/ToyasCard.lean, 'card_holds'). Laid BY PROGRAM, IN A SANDBOX (cutbox-door.mjs). By AI agents, Wed Nov 11 2026. No macro, syntax, notation, axiom, sorry.
-/
import Derived.Test.YtjalklmgdkhekaaDoorRows
import GoSem.ClaimSeven
namespace Go.Proofs.YtjalklmgdkhekaaDoor
namespace Rows

/-- THE TIED CARD OF 'cruciblelaw12.Disks'. -/
def disksCard : Claim7 := { stood := { row := disksRow, standIns := [], harness := (true, "0461c3ae3dfcb9af3f6d607bd12cbd606d26bc7098da0f6f639dfc1aac10f55d"), looks := false }, kinds := [], alts := [], laidByText := true, laidKinds := [.data, .pinned], laidTests := true, laidLooks := .later }
def DisksCardSaid : Prop := Claim7.holds Tryd.pinned (.plain (OpenSpec.ofChange disksSpec)) disksCard

/-- THE SECOND FORM's CARD OF 'cruciblelaw12.Disks'. -/
def disksUptoCard : Claim7 := { stood := { row := disksUptoRow, standIns := [], harness := (true, "0461c3ae3dfcb9af3f6d607bd12cbd606d26bc7098da0f6f639dfc1aac10f55d"), looks := false }, kinds := [], alts := [], laidByText := true, laidKinds := [.data, .pinned], laidTests := true, laidLooks := .later }
def DisksUptoCardSaid : Prop := Claim7.holds Tryd.pinned (.plain (OpenSpec.upto disksSpec)) disksUptoCard
end Rows
end Go.Proofs.YtjalklmgdkhekaaDoor
