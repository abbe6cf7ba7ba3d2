/-
  DERIVED. GIVEN WITH THE SEED: THE CARDS: each row of YtloeileblkleoaaDoorRows.lean that lists a variable, with what it lists TIED to the program's text (the seventh form; the later family's looks); each row that meets fmt, with fmt's text TOLD by the authors' own Lean function (tested against real Go, not proved from fmt's source: count such statements apart). THE CARD IS WHAT COUNTS. Prove the row's statement (the work); the ties are given (YtloeileblkleoaaDoorTie.lean); close each card by the builder's one call (the guide's Derived/Test/ToyasCard.lean, 'card_holds'). Laid BY PROGRAM, IN A SANDBOX (cutbox-door.mjs). By AI agents, Wed Nov 11 2026. No macro, syntax, notation, axiom, sorry.
-/
import Derived.Test.YtloeileblkleoaaDoorRows
import GoSem.ClaimSeven
namespace Go.Proofs.YtloeileblkleoaaDoor
namespace Rows

/-- THE TIED CARD OF 'cruciblelaw7.Wordses'. -/
def wordsesCard : Claim7 := { stood := { row := wordsesRow, standIns := [], harness := (true, "364b3ae959f39fea2705ab4646565d6463e6a647b69f35b583f33bfac7c16e15"), looks := false }, kinds := [], alts := [], laidByText := true, laidKinds := [.data, .pinned], laidTests := true, laidLooks := .later }
def WordsesCardSaid : Prop := Claim7.holds Tryd.pinned (.plain (OpenSpec.ofChange wordsesSpec)) wordsesCard

/-- THE TIED CARD OF 'cruciblelaw7.WordForms'. -/
def wordFormsCard : Claim7 := { stood := { row := wordFormsRow, standIns := [], harness := (true, "364b3ae959f39fea2705ab4646565d6463e6a647b69f35b583f33bfac7c16e15"), looks := false }, kinds := [], alts := [], laidByText := true, laidKinds := [.data, .pinned], laidTests := true, laidLooks := .later }
def WordFormsCardSaid : Prop := Claim7.holds Tryd.pinned (.plain (OpenSpec.ofChange wordFormsSpec)) wordFormsCard

/-- THE TIED CARD OF 'cruciblelaw7.WordJoin'. -/
def wordJoinCard : Claim7 := { stood := { row := wordJoinRow, standIns := [], harness := (true, "364b3ae959f39fea2705ab4646565d6463e6a647b69f35b583f33bfac7c16e15"), looks := false }, kinds := [], alts := [], laidByText := true, laidKinds := [.data, .pinned], laidTests := true, laidLooks := .later }
def WordJoinCardSaid : Prop := Claim7.holds Tryd.pinned (.plain (OpenSpec.ofChange wordJoinSpec)) wordJoinCard

/-- THE TIED CARD OF 'cruciblelaw7.WordAgain'. -/
def wordAgainCard : Claim7 := { stood := { row := wordAgainRow, standIns := [], harness := (true, "364b3ae959f39fea2705ab4646565d6463e6a647b69f35b583f33bfac7c16e15"), looks := false }, kinds := [], alts := [], laidByText := true, laidKinds := [.data, .pinned], laidTests := true, laidLooks := .later }
def WordAgainCardSaid : Prop := Claim7.holds Tryd.pinned (.plain (OpenSpec.ofChange wordAgainSpec)) wordAgainCard

/-- THE SECOND FORM's CARD OF 'cruciblelaw7.Wordses'. -/
def wordsesUptoCard : Claim7 := { stood := { row := wordsesUptoRow, standIns := [], harness := (true, "364b3ae959f39fea2705ab4646565d6463e6a647b69f35b583f33bfac7c16e15"), looks := false }, kinds := [], alts := [], laidByText := true, laidKinds := [.data, .pinned], laidTests := true, laidLooks := .later }
def WordsesUptoCardSaid : Prop := Claim7.holds Tryd.pinned (.plain (OpenSpec.upto wordsesSpec)) wordsesUptoCard

/-- THE SECOND FORM's CARD OF 'cruciblelaw7.WordForms'. -/
def wordFormsUptoCard : Claim7 := { stood := { row := wordFormsUptoRow, standIns := [], harness := (true, "364b3ae959f39fea2705ab4646565d6463e6a647b69f35b583f33bfac7c16e15"), looks := false }, kinds := [], alts := [], laidByText := true, laidKinds := [.data, .pinned], laidTests := true, laidLooks := .later }
def WordFormsUptoCardSaid : Prop := Claim7.holds Tryd.pinned (.plain (OpenSpec.upto wordFormsSpec)) wordFormsUptoCard

/-- THE SECOND FORM's CARD OF 'cruciblelaw7.WordJoin'. -/
def wordJoinUptoCard : Claim7 := { stood := { row := wordJoinUptoRow, standIns := [], harness := (true, "364b3ae959f39fea2705ab4646565d6463e6a647b69f35b583f33bfac7c16e15"), looks := false }, kinds := [], alts := [], laidByText := true, laidKinds := [.data, .pinned], laidTests := true, laidLooks := .later }
def WordJoinUptoCardSaid : Prop := Claim7.holds Tryd.pinned (.plain (OpenSpec.upto wordJoinSpec)) wordJoinUptoCard

/-- THE SECOND FORM's CARD OF 'cruciblelaw7.WordAgain'. -/
def wordAgainUptoCard : Claim7 := { stood := { row := wordAgainUptoRow, standIns := [], harness := (true, "364b3ae959f39fea2705ab4646565d6463e6a647b69f35b583f33bfac7c16e15"), looks := false }, kinds := [], alts := [], laidByText := true, laidKinds := [.data, .pinned], laidTests := true, laidLooks := .later }
def WordAgainUptoCardSaid : Prop := Claim7.holds Tryd.pinned (.plain (OpenSpec.upto wordAgainSpec)) wordAgainUptoCard
end Rows
end Go.Proofs.YtloeileblkleoaaDoor
