/-
  No cell of these rows narrows 'for every input' (looked for: loops, veiled, ifaces, maps, wideKeys, modest, calm, conditions, laid).
  DERIVED. THE GIVEN ROWS OF THIS SEAT. 4 by the template 'for every input the law returns true; each argument reads behind the call as it read before'; 0 by the template 'total and deterministic' (their statements: YtegcckaemhdkgaaTotals.lean).
  GIVEN WITH THE SEED: the statements are not yours to turn. If you find one false, say at which input.
  Laid BY PROGRAM, IN A SANDBOX (cutbox-rows.mjs): the forced cells as the released guide's own fill.sh prints them over the translation 4322be221b9b2b27… (all of the seat's roots in one cut). By AI agents, Wed Nov 11 2026. No macro, syntax, notation, axiom, sorry.
-/
import Derived.Test.YtegcckaemhdkgaaChecked
import GoSem.Claim
import GoSem.ClaimJoined
import GoSem.ClaimMapViews
import Derived.JoinedTies
import Derived.KernelRfl
namespace Go.Proofs.Ytegcckaemhdkgaa
/- THE CELL 'sum', in the pinned program and in every row, IS THE sha256 OF THE DUMP (.gsa) THAT YtegcckaemhdkgaaProg.lean LOADS. Nothing in Lean hashes anything: it is a label: what it is worth is what the hold of that sum in a sandbox is worth. -/
noncomputable def Try.pinned : Pinned := { name := "ytegcckaemhdkgaa", sum := "4322be221b9b2b27120c8a0449670915c492984f9bbbfbabfb21ea5e0c57c1c2", checked := Try.checked }
namespace Rows
def none {H : Type} : Left H := { results := [], args := [] }

/-- 'cruciblelaw4.Scopes': WHATEVER THE INPUT: true; the input reads as it did. -/
def scopesSpec : ChangeSpec := { name := "scopes", fn := fun _ => fun
  | [d1, d2, d3] => { results := [.lit (.bool true)], args := [d1, d2, d3] }
  | _ => none }
def scopesRow : OpenClaim := { program := "ytegcckaemhdkgaa", sum := "4322be221b9b2b27120c8a0449670915c492984f9bbbfbabfb21ea5e0c57c1c2", func := "crucible/cruciblelaw4.Scopes", spec := "scopes", inPlace := ["internal/bytealg.IndexByteString"], unfollowed := true, recurses := true, apart := false }
def ScopesSaid : Prop := scopesRow.holds Try.pinned (OpenSpec.ofChange scopesSpec)

/-- ITS FALSE NEIGHBOUR: 'it returns false'. Refute it at one input. -/
def scopesWrong : ChangeSpec := { name := "scopes", fn := fun _ => fun
  | [d1, d2, d3] => { results := [.lit (.bool false)], args := [d1, d2, d3] }
  | _ => none }
def ScopesWrongFalsely : Prop := scopesRow.holds Try.pinned (OpenSpec.ofChange scopesWrong)

/-- 'cruciblelaw4.ScopeForms': WHATEVER THE INPUT: true; the input reads as it did. -/
def scopeFormsSpec : ChangeSpec := { name := "scopeForms", fn := fun _ => fun
  | [d1, d2] => { results := [.lit (.bool true)], args := [d1, d2] }
  | _ => none }
def scopeFormsRow : OpenClaim := { program := "ytegcckaemhdkgaa", sum := "4322be221b9b2b27120c8a0449670915c492984f9bbbfbabfb21ea5e0c57c1c2", func := "crucible/cruciblelaw4.ScopeForms", spec := "scopeForms", inPlace := ["internal/bytealg.IndexByteString"], unfollowed := true, recurses := true, apart := false }
def ScopeFormsSaid : Prop := scopeFormsRow.holds Try.pinned (OpenSpec.ofChange scopeFormsSpec)

/-- ITS FALSE NEIGHBOUR: 'it returns false'. Refute it at one input. -/
def scopeFormsWrong : ChangeSpec := { name := "scopeForms", fn := fun _ => fun
  | [d1, d2] => { results := [.lit (.bool false)], args := [d1, d2] }
  | _ => none }
def ScopeFormsWrongFalsely : Prop := scopeFormsRow.holds Try.pinned (OpenSpec.ofChange scopeFormsWrong)

/-- 'cruciblelaw4.ScopeRow': WHATEVER THE INPUT: true; the input reads as it did. -/
def scopeRowSpec : ChangeSpec := { name := "scopeRow", fn := fun _ => fun
  | [d] => { results := [.lit (.bool true)], args := [d] }
  | _ => none }
def scopeRowRow : OpenClaim := { program := "ytegcckaemhdkgaa", sum := "4322be221b9b2b27120c8a0449670915c492984f9bbbfbabfb21ea5e0c57c1c2", func := "crucible/cruciblelaw4.ScopeRow", spec := "scopeRow", inPlace := ["internal/bytealg.IndexByteString"], unfollowed := true, recurses := true, apart := false }
def ScopeRowSaid : Prop := scopeRowRow.holds Try.pinned (OpenSpec.ofChange scopeRowSpec)

/-- ITS FALSE NEIGHBOUR: 'it returns false'. Refute it at one input. -/
def scopeRowWrong : ChangeSpec := { name := "scopeRow", fn := fun _ => fun
  | [d] => { results := [.lit (.bool false)], args := [d] }
  | _ => none }
def ScopeRowWrongFalsely : Prop := scopeRowRow.holds Try.pinned (OpenSpec.ofChange scopeRowWrong)

/-- 'cruciblelaw4.ScopeOther': WHATEVER THE INPUT: true; the input reads as it did. -/
def scopeOtherSpec : ChangeSpec := { name := "scopeOther", fn := fun _ => fun
  | [d1, d2, d3, d4] => { results := [.lit (.bool true)], args := [d1, d2, d3, d4] }
  | _ => none }
def scopeOtherRow : OpenClaim := { program := "ytegcckaemhdkgaa", sum := "4322be221b9b2b27120c8a0449670915c492984f9bbbfbabfb21ea5e0c57c1c2", func := "crucible/cruciblelaw4.ScopeOther", spec := "scopeOther", inPlace := ["internal/bytealg.IndexByteString"], unfollowed := true, recurses := true, apart := false }
def ScopeOtherSaid : Prop := scopeOtherRow.holds Try.pinned (OpenSpec.ofChange scopeOtherSpec)

/-- ITS FALSE NEIGHBOUR: 'it returns false'. Refute it at one input. -/
def scopeOtherWrong : ChangeSpec := { name := "scopeOther", fn := fun _ => fun
  | [d1, d2, d3, d4] => { results := [.lit (.bool false)], args := [d1, d2, d3, d4] }
  | _ => none }
def ScopeOtherWrongFalsely : Prop := scopeOtherRow.holds Try.pinned (OpenSpec.ofChange scopeOtherWrong)

/- THE SECOND FORM. 'bulk': how many values and letters a reading holds, each counted each time it is reached (what is shared counts as often as it is met; a slice's spare places count too). A statement '..UptoSaid' is the law's where the arguments, and the package variables that the reading takes, are together of bulk at most 1048576: NARROWER than '..Said'. Prove '..Said' where nothing that the law and all that it calls make is longer than what came in: it says more and counts as full. Else prove '..UptoSaid'. A law counts once. -/
mutual
def uptoBulk {H : Type} : DataW H → Nat
  | .lit (.string bytes) => bytes.length + 1
  | .lit _ => 1
  | .nil => 1
  | .ptr d => uptoBulk d + 1
  | .slice elems spare => uptoBulkAll elems + uptoBulkAll spare + 1
  | .agg parts => uptoBulkAll parts + 1
  | .iface _ d => uptoBulk d + 1
  | .map entries => uptoBulkEntries entries + 1
  | .held _ => 1
def uptoBulkAll {H : Type} : List (DataW H) → Nat
  | [] => 0
  | d :: r => uptoBulk d + uptoBulkAll r
def uptoBulkEntries {H : Type} : List (Lit × DataW H) → Nat
  | [] => 0
  | x :: r => uptoBulkEntry x + uptoBulkEntries r
def uptoBulkEntry {H : Type} : Lit × DataW H → Nat
  | (.string bytes, d) => bytes.length + uptoBulk d + 1
  | (_, d) => uptoBulk d + 1
 end
def uptoSmall : (H : Type) → List (DataW H) → Bool := fun _ ds => decide (uptoBulkAll ds ≤ 1048576)
def OpenSpec.upto (s : _root_.Go.ChangeSpec) : _root_.Go.OpenSpec := { _root_.Go.OpenSpec.ofChange s with cond := some uptoSmall }

/-- 'cruciblelaw4.Scopes', WHERE WHAT IT READS IS OF BULK AT MOST 1048576: true; the input reads as it did. -/
def scopesUptoRow : OpenClaim := { program := "ytegcckaemhdkgaa", sum := "4322be221b9b2b27120c8a0449670915c492984f9bbbfbabfb21ea5e0c57c1c2", func := "crucible/cruciblelaw4.Scopes", spec := "scopes", inPlace := ["internal/bytealg.IndexByteString"], unfollowed := true, recurses := true, apart := false, narrowed := true }
def ScopesUptoSaid : Prop := scopesUptoRow.holds Try.pinned (OpenSpec.upto scopesSpec)

/-- 'cruciblelaw4.ScopeForms', WHERE WHAT IT READS IS OF BULK AT MOST 1048576: true; the input reads as it did. -/
def scopeFormsUptoRow : OpenClaim := { program := "ytegcckaemhdkgaa", sum := "4322be221b9b2b27120c8a0449670915c492984f9bbbfbabfb21ea5e0c57c1c2", func := "crucible/cruciblelaw4.ScopeForms", spec := "scopeForms", inPlace := ["internal/bytealg.IndexByteString"], unfollowed := true, recurses := true, apart := false, narrowed := true }
def ScopeFormsUptoSaid : Prop := scopeFormsUptoRow.holds Try.pinned (OpenSpec.upto scopeFormsSpec)

/-- 'cruciblelaw4.ScopeRow', WHERE WHAT IT READS IS OF BULK AT MOST 1048576: true; the input reads as it did. -/
def scopeRowUptoRow : OpenClaim := { program := "ytegcckaemhdkgaa", sum := "4322be221b9b2b27120c8a0449670915c492984f9bbbfbabfb21ea5e0c57c1c2", func := "crucible/cruciblelaw4.ScopeRow", spec := "scopeRow", inPlace := ["internal/bytealg.IndexByteString"], unfollowed := true, recurses := true, apart := false, narrowed := true }
def ScopeRowUptoSaid : Prop := scopeRowUptoRow.holds Try.pinned (OpenSpec.upto scopeRowSpec)

/-- 'cruciblelaw4.ScopeOther', WHERE WHAT IT READS IS OF BULK AT MOST 1048576: true; the input reads as it did. -/
def scopeOtherUptoRow : OpenClaim := { program := "ytegcckaemhdkgaa", sum := "4322be221b9b2b27120c8a0449670915c492984f9bbbfbabfb21ea5e0c57c1c2", func := "crucible/cruciblelaw4.ScopeOther", spec := "scopeOther", inPlace := ["internal/bytealg.IndexByteString"], unfollowed := true, recurses := true, apart := false, narrowed := true }
def ScopeOtherUptoSaid : Prop := scopeOtherUptoRow.holds Try.pinned (OpenSpec.upto scopeOtherSpec)

end Rows
end Go.Proofs.Ytegcckaemhdkgaa
