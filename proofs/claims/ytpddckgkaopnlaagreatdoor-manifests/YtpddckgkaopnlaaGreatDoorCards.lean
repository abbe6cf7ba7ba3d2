/-
  DERIVED. GIVEN WITH THE SEED: THE CARDS: each row of YtpddckgkaopnlaaGreatDoorRows.lean that lists a variable, with what it lists TIED to the program's text (the seventh form; the later family's looks); each row that meets fmt, with fmt's text TOLD by the authors' own Lean function (tested against real Go, not proved from fmt's source: count such statements apart). THE CARD IS WHAT COUNTS. Prove the row's statement (the work); the ties are given (YtpddckgkaopnlaaGreatDoorTie.lean); close each card by the builder's one call (the guide's Derived/Test/ToyasCard.lean, 'card_holds'). Laid BY PROGRAM, IN A SANDBOX (cutbox-door.mjs). By AI agents, Wed Nov 11 2026. No macro, syntax, notation, axiom, sorry.
-/
import Derived.Test.YtpddckgkaopnlaaGreatDoorRows
import GoSem.ClaimSeven
namespace Go.Proofs.YtpddckgkaopnlaaGreatDoor
namespace Rows

/-- THE TIED CARD OF 'cruciblelaw8.Manifests'. -/
def manifestsCard : Claim7 := { stood := { row := manifestsRow, standIns := [], harness := (true, "7bb8d73b06d483d334e8817f3f68ea038a8650c36bcb49bbb13852b22d951594"), looks := false }, kinds := [], alts := [], laidByText := true, laidKinds := [.data, .listed, .data, .pinned], laidTests := true, laidLooks := .later }
def ManifestsCardSaid : Prop := Claim7.holds Tryz.pinned (.plain (OpenSpec.ofChange manifestsSpec)) manifestsCard

/-- THE SECOND FORM's CARD OF 'cruciblelaw8.Manifests'. -/
def manifestsUptoCard : Claim7 := { stood := { row := manifestsUptoRow, standIns := [], harness := (true, "7bb8d73b06d483d334e8817f3f68ea038a8650c36bcb49bbb13852b22d951594"), looks := false }, kinds := [], alts := [], laidByText := true, laidKinds := [.data, .listed, .data, .pinned], laidTests := true, laidLooks := .later }
def ManifestsUptoCardSaid : Prop := Claim7.holds Tryz.pinned (.plain (OpenSpec.upto manifestsSpec)) manifestsUptoCard
end Rows
end Go.Proofs.YtpddckgkaopnlaaGreatDoor
