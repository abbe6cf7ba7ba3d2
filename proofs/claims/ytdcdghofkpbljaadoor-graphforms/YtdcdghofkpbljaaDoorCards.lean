/-
  DERIVED. GIVEN WITH THE SEED: THE CARDS: each row of YtdcdghofkpbljaaDoorRows.lean that lists a variable, with what it lists TIED to the program's text (the seventh form; the later family's looks); each row that meets fmt, with fmt's text TOLD by the authors' own Lean function (tested against real Go, not proved from fmt's source: count such statements apart). THE CARD IS WHAT COUNTS. Prove the row's statement (the work); the ties are given (YtdcdghofkpbljaaDoorTie.lean); close each card by the builder's one call (the guide's Derived/Test/ToyasCard.lean, 'card_holds'). Laid BY PROGRAM, IN A SANDBOX (cutbox-door.mjs). By AI agents, Wed Nov 11 2026. No macro, syntax, notation, axiom, sorry.
-/
import Derived.Test.YtdcdghofkpbljaaDoorRows
import GoSem.ClaimSeven
namespace Go.Proofs.YtdcdghofkpbljaaDoor
namespace Rows

/-- THE TIED CARD OF 'cruciblelaw9.GraphForms'. -/
def graphFormsCard : Claim7 := { stood := { row := graphFormsRow, standIns := [], harness := (true, "34930c2335a0f5bc5a06bdbfd5f205e646aed1e26a5a50b32a028c5565e280cf"), looks := false }, kinds := [], alts := [], laidByText := true, laidKinds := [.data, .pinned], laidTests := true, laidLooks := .later }
def GraphFormsCardSaid : Prop := Claim7.holds Tryd.pinned (.plain (OpenSpec.ofChange graphFormsSpec)) graphFormsCard

/-- THE TIED CARD OF 'cruciblelaw9.GraphMany'. -/
def graphManyCard : Claim7 := { stood := { row := graphManyRow, standIns := [], harness := (true, "34930c2335a0f5bc5a06bdbfd5f205e646aed1e26a5a50b32a028c5565e280cf"), looks := false }, kinds := [], alts := [], laidByText := true, laidKinds := [.data, .pinned], laidTests := true, laidLooks := .later }
def GraphManyCardSaid : Prop := Claim7.holds Tryd.pinned (.plain (OpenSpec.ofChange graphManySpec)) graphManyCard

/-- THE TIED CARD OF 'cruciblelaw9.GraphMakes'. -/
def graphMakesCard : Claim7 := { stood := { row := graphMakesRow, standIns := [], harness := (true, "34930c2335a0f5bc5a06bdbfd5f205e646aed1e26a5a50b32a028c5565e280cf"), looks := false }, kinds := [], alts := [], laidByText := true, laidKinds := [.data, .pinned], laidTests := true, laidLooks := .later }
def GraphMakesCardSaid : Prop := Claim7.holds Tryd.pinned (.plain (OpenSpec.ofChange graphMakesSpec)) graphMakesCard

/-- THE TIED CARD OF 'cruciblelaw9.GraphRow'. -/
def graphRowCard : Claim7 := { stood := { row := graphRowRow, standIns := [], harness := (true, "34930c2335a0f5bc5a06bdbfd5f205e646aed1e26a5a50b32a028c5565e280cf"), looks := false }, kinds := [], alts := [], laidByText := true, laidKinds := [.data, .pinned], laidTests := true, laidLooks := .later }
def GraphRowCardSaid : Prop := Claim7.holds Tryd.pinned (.plain (OpenSpec.ofChange graphRowSpec)) graphRowCard

/-- THE SECOND FORM's CARD OF 'cruciblelaw9.GraphForms'. -/
def graphFormsUptoCard : Claim7 := { stood := { row := graphFormsUptoRow, standIns := [], harness := (true, "34930c2335a0f5bc5a06bdbfd5f205e646aed1e26a5a50b32a028c5565e280cf"), looks := false }, kinds := [], alts := [], laidByText := true, laidKinds := [.data, .pinned], laidTests := true, laidLooks := .later }
def GraphFormsUptoCardSaid : Prop := Claim7.holds Tryd.pinned (.plain (OpenSpec.upto graphFormsSpec)) graphFormsUptoCard

/-- THE SECOND FORM's CARD OF 'cruciblelaw9.GraphMany'. -/
def graphManyUptoCard : Claim7 := { stood := { row := graphManyUptoRow, standIns := [], harness := (true, "34930c2335a0f5bc5a06bdbfd5f205e646aed1e26a5a50b32a028c5565e280cf"), looks := false }, kinds := [], alts := [], laidByText := true, laidKinds := [.data, .pinned], laidTests := true, laidLooks := .later }
def GraphManyUptoCardSaid : Prop := Claim7.holds Tryd.pinned (.plain (OpenSpec.upto graphManySpec)) graphManyUptoCard

/-- THE SECOND FORM's CARD OF 'cruciblelaw9.GraphMakes'. -/
def graphMakesUptoCard : Claim7 := { stood := { row := graphMakesUptoRow, standIns := [], harness := (true, "34930c2335a0f5bc5a06bdbfd5f205e646aed1e26a5a50b32a028c5565e280cf"), looks := false }, kinds := [], alts := [], laidByText := true, laidKinds := [.data, .pinned], laidTests := true, laidLooks := .later }
def GraphMakesUptoCardSaid : Prop := Claim7.holds Tryd.pinned (.plain (OpenSpec.upto graphMakesSpec)) graphMakesUptoCard

/-- THE SECOND FORM's CARD OF 'cruciblelaw9.GraphRow'. -/
def graphRowUptoCard : Claim7 := { stood := { row := graphRowUptoRow, standIns := [], harness := (true, "34930c2335a0f5bc5a06bdbfd5f205e646aed1e26a5a50b32a028c5565e280cf"), looks := false }, kinds := [], alts := [], laidByText := true, laidKinds := [.data, .pinned], laidTests := true, laidLooks := .later }
def GraphRowUptoCardSaid : Prop := Claim7.holds Tryd.pinned (.plain (OpenSpec.upto graphRowSpec)) graphRowUptoCard
end Rows
end Go.Proofs.YtdcdghofkpbljaaDoor
