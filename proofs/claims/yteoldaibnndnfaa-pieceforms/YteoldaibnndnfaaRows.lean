/-
  No cell of these rows narrows 'for every input' (looked for: loops, veiled, ifaces, maps, wideKeys, modest, calm, conditions, laid).
  DERIVED. THE GIVEN ROWS OF THIS SEAT. 4 by the template 'for every input the law returns true; each argument reads behind the call as it read before'; 0 by the template 'total and deterministic' (their statements: YteoldaibnndnfaaTotals.lean).
  GIVEN WITH THE SEED: the statements are not yours to turn. If you find one false, say at which input.
  Laid BY PROGRAM, IN A SANDBOX (cutbox-rows.mjs): the forced cells as the released guide's own fill.sh prints them over the translation d845f49d791ef233… (all of the seat's roots in one cut). By AI agents, Wed Nov 11 2026. No macro, syntax, notation, axiom, sorry.
-/
import Derived.Test.YteoldaibnndnfaaChecked
import GoSem.Claim
import GoSem.ClaimJoined
import GoSem.ClaimMapViews
import Derived.JoinedTies
import Derived.KernelRfl
namespace Go.Proofs.Yteoldaibnndnfaa
/- THE CELL 'sum', in the pinned program and in every row, IS THE sha256 OF THE DUMP (.gsa) THAT YteoldaibnndnfaaProg.lean LOADS. Nothing in Lean hashes anything: it is a label: what it is worth is what the hold of that sum in a sandbox is worth. -/
noncomputable def Try.pinned : Pinned := { name := "yteoldaibnndnfaa", sum := "d845f49d791ef233e5701635b362072fa2c1a477da81916ea634da6fa07bf98d", checked := Try.checked }
namespace Rows
def none {H : Type} : Left H := { results := [], args := [] }

/-- 'cruciblelaw3.Pieces': WHATEVER THE INPUT: true; the input reads as it did. -/
def piecesSpec : ChangeSpec := { name := "pieces", fn := fun _ => fun
  | [d] => { results := [.lit (.bool true)], args := [d] }
  | _ => none }
def piecesRow : OpenClaim := { program := "yteoldaibnndnfaa", sum := "d845f49d791ef233e5701635b362072fa2c1a477da81916ea634da6fa07bf98d", func := "crucible/cruciblelaw3.Pieces", spec := "pieces", inPlace := ["internal/bytealg.IndexByteString"], unfollowed := true, recurses := true, apart := false }
def PiecesSaid : Prop := piecesRow.holds Try.pinned (OpenSpec.ofChange piecesSpec)

/-- ITS FALSE NEIGHBOUR: 'it returns false'. Refute it at one input. -/
def piecesWrong : ChangeSpec := { name := "pieces", fn := fun _ => fun
  | [d] => { results := [.lit (.bool false)], args := [d] }
  | _ => none }
def PiecesWrongFalsely : Prop := piecesRow.holds Try.pinned (OpenSpec.ofChange piecesWrong)

/-- 'cruciblelaw3.PieceForms': WHATEVER THE INPUT: true; the input reads as it did. -/
def pieceFormsSpec : ChangeSpec := { name := "pieceForms", fn := fun _ => fun
  | [d1, d2] => { results := [.lit (.bool true)], args := [d1, d2] }
  | _ => none }
def pieceFormsRow : OpenClaim := { program := "yteoldaibnndnfaa", sum := "d845f49d791ef233e5701635b362072fa2c1a477da81916ea634da6fa07bf98d", func := "crucible/cruciblelaw3.PieceForms", spec := "pieceForms", inPlace := ["internal/bytealg.IndexByteString"], unfollowed := true, recurses := true, apart := false }
def PieceFormsSaid : Prop := pieceFormsRow.holds Try.pinned (OpenSpec.ofChange pieceFormsSpec)

/-- ITS FALSE NEIGHBOUR: 'it returns false'. Refute it at one input. -/
def pieceFormsWrong : ChangeSpec := { name := "pieceForms", fn := fun _ => fun
  | [d1, d2] => { results := [.lit (.bool false)], args := [d1, d2] }
  | _ => none }
def PieceFormsWrongFalsely : Prop := pieceFormsRow.holds Try.pinned (OpenSpec.ofChange pieceFormsWrong)

/-- 'cruciblelaw3.PieceJoin': WHATEVER THE INPUT: true; the input reads as it did. -/
def pieceJoinSpec : ChangeSpec := { name := "pieceJoin", fn := fun _ => fun
  | [d] => { results := [.lit (.bool true)], args := [d] }
  | _ => none }
def pieceJoinRow : OpenClaim := { program := "yteoldaibnndnfaa", sum := "d845f49d791ef233e5701635b362072fa2c1a477da81916ea634da6fa07bf98d", func := "crucible/cruciblelaw3.PieceJoin", spec := "pieceJoin", inPlace := ["internal/bytealg.IndexByteString"], unfollowed := true, recurses := true, apart := false }
def PieceJoinSaid : Prop := pieceJoinRow.holds Try.pinned (OpenSpec.ofChange pieceJoinSpec)

/-- ITS FALSE NEIGHBOUR: 'it returns false'. Refute it at one input. -/
def pieceJoinWrong : ChangeSpec := { name := "pieceJoin", fn := fun _ => fun
  | [d] => { results := [.lit (.bool false)], args := [d] }
  | _ => none }
def PieceJoinWrongFalsely : Prop := pieceJoinRow.holds Try.pinned (OpenSpec.ofChange pieceJoinWrong)

/-- 'cruciblelaw3.PieceTwo': WHATEVER THE INPUT: true; the input reads as it did. -/
def pieceTwoSpec : ChangeSpec := { name := "pieceTwo", fn := fun _ => fun
  | [d1, d2] => { results := [.lit (.bool true)], args := [d1, d2] }
  | _ => none }
def pieceTwoRow : OpenClaim := { program := "yteoldaibnndnfaa", sum := "d845f49d791ef233e5701635b362072fa2c1a477da81916ea634da6fa07bf98d", func := "crucible/cruciblelaw3.PieceTwo", spec := "pieceTwo", inPlace := ["internal/bytealg.IndexByteString"], unfollowed := true, recurses := true, apart := false }
def PieceTwoSaid : Prop := pieceTwoRow.holds Try.pinned (OpenSpec.ofChange pieceTwoSpec)

/-- ITS FALSE NEIGHBOUR: 'it returns false'. Refute it at one input. -/
def pieceTwoWrong : ChangeSpec := { name := "pieceTwo", fn := fun _ => fun
  | [d1, d2] => { results := [.lit (.bool false)], args := [d1, d2] }
  | _ => none }
def PieceTwoWrongFalsely : Prop := pieceTwoRow.holds Try.pinned (OpenSpec.ofChange pieceTwoWrong)

/- THE SECOND FORM. 'bulk': how many values and letters a reading holds, each counted each time it is reached (what is shared counts as often as it is met; a slice's spare places count too). A statement '..UptoSaid' is the law's where the arguments, and the package variables that the reading takes, are together of bulk at most 1048576: NARROWER than '..Said'. Prove '..Said' where nothing that the law and all that it calls make is longer than what came in: it says more and counts as full. Else prove '..UptoSaid'. A law counts once. -/
mutual
def uptoBulk {H : Type} : DataW H → Nat
  | .lit (.string bytes) => bytes.length + 1
  | .lit _ => 1
  | .nil => 1
  | .ptr d => uptoBulk d + 1
  | .slice elems spare => uptoBulkAll elems + uptoBulkAll spare + 1
  | .agg parts => uptoBulkAll parts + 1
  | .iface _ d => uptoBulk d + 1
  | .map entries => uptoBulkEntries entries + 1
  | .held _ => 1
def uptoBulkAll {H : Type} : List (DataW H) → Nat
  | [] => 0
  | d :: r => uptoBulk d + uptoBulkAll r
def uptoBulkEntries {H : Type} : List (Lit × DataW H) → Nat
  | [] => 0
  | x :: r => uptoBulkEntry x + uptoBulkEntries r
def uptoBulkEntry {H : Type} : Lit × DataW H → Nat
  | (.string bytes, d) => bytes.length + uptoBulk d + 1
  | (_, d) => uptoBulk d + 1
 end
def uptoSmall : (H : Type) → List (DataW H) → Bool := fun _ ds => decide (uptoBulkAll ds ≤ 1048576)
def OpenSpec.upto (s : _root_.Go.ChangeSpec) : _root_.Go.OpenSpec := { _root_.Go.OpenSpec.ofChange s with cond := some uptoSmall }

/-- 'cruciblelaw3.Pieces', WHERE WHAT IT READS IS OF BULK AT MOST 1048576: true; the input reads as it did. -/
def piecesUptoRow : OpenClaim := { program := "yteoldaibnndnfaa", sum := "d845f49d791ef233e5701635b362072fa2c1a477da81916ea634da6fa07bf98d", func := "crucible/cruciblelaw3.Pieces", spec := "pieces", inPlace := ["internal/bytealg.IndexByteString"], unfollowed := true, recurses := true, apart := false, narrowed := true }
def PiecesUptoSaid : Prop := piecesUptoRow.holds Try.pinned (OpenSpec.upto piecesSpec)

/-- 'cruciblelaw3.PieceForms', WHERE WHAT IT READS IS OF BULK AT MOST 1048576: true; the input reads as it did. -/
def pieceFormsUptoRow : OpenClaim := { program := "yteoldaibnndnfaa", sum := "d845f49d791ef233e5701635b362072fa2c1a477da81916ea634da6fa07bf98d", func := "crucible/cruciblelaw3.PieceForms", spec := "pieceForms", inPlace := ["internal/bytealg.IndexByteString"], unfollowed := true, recurses := true, apart := false, narrowed := true }
def PieceFormsUptoSaid : Prop := pieceFormsUptoRow.holds Try.pinned (OpenSpec.upto pieceFormsSpec)

/-- 'cruciblelaw3.PieceJoin', WHERE WHAT IT READS IS OF BULK AT MOST 1048576: true; the input reads as it did. -/
def pieceJoinUptoRow : OpenClaim := { program := "yteoldaibnndnfaa", sum := "d845f49d791ef233e5701635b362072fa2c1a477da81916ea634da6fa07bf98d", func := "crucible/cruciblelaw3.PieceJoin", spec := "pieceJoin", inPlace := ["internal/bytealg.IndexByteString"], unfollowed := true, recurses := true, apart := false, narrowed := true }
def PieceJoinUptoSaid : Prop := pieceJoinUptoRow.holds Try.pinned (OpenSpec.upto pieceJoinSpec)

/-- 'cruciblelaw3.PieceTwo', WHERE WHAT IT READS IS OF BULK AT MOST 1048576: true; the input reads as it did. -/
def pieceTwoUptoRow : OpenClaim := { program := "yteoldaibnndnfaa", sum := "d845f49d791ef233e5701635b362072fa2c1a477da81916ea634da6fa07bf98d", func := "crucible/cruciblelaw3.PieceTwo", spec := "pieceTwo", inPlace := ["internal/bytealg.IndexByteString"], unfollowed := true, recurses := true, apart := false, narrowed := true }
def PieceTwoUptoSaid : Prop := pieceTwoUptoRow.holds Try.pinned (OpenSpec.upto pieceTwoSpec)

end Rows
end Go.Proofs.Yteoldaibnndnfaa
