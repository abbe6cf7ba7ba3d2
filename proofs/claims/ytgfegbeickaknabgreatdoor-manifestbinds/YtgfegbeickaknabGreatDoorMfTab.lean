/- The table of blanks, out of a row's own condition; no conditions. -/
import Derived.Test.YtgfegbeickaknabGreatDoorMfFields
import Derived.Lib.LaidTab
import Derived.LaidSub
import Derived.MakeChecks
namespace Go.Proofs.YtgfegbeickaknabGreatDoor
open Go.RowKit

def spZ : List Int := (List.range 256).map fun c => if Lib.isSp (UInt8.ofNat c) then 1 else 0
theorem tab_of_laid {laid : List (String × DataW Unit)} {W : World} (e : (laid.filter fun x => x.1 == "strings.asciiSpace") = [("strings.asciiSpace", Lib.tabData .u8 spZ)]) (h : laidMetH Tryz.prog laid W) : TabB W.heap.size W := by
  have h1 := h.filter fun x => x.1 == "strings.asciiSpace"
  rw [e, MakeChecks.laidMetH_plain _ _ _ (by kernel_rfl)] at h1
  have hg : Tryz.prog.globalNamed "strings.asciiSpace" = some (Tryz.lays157_ren.g 0) := by kernel_rfl
  have hT := Lib.tabIs_of_head (n := 256) (e := 5) (t := 97) hg (by kernel_rfl) (by kernel_rfl) (by kernel_rfl) (by kernel_rfl) (by kernel_rfl) h1
  have hl : spZ.length = 256 := by simp [spZ]
  have hc : ∀ c : Nat, c < 256 → W.cell? ⟨Tryz.lays157_ren.g 0, c, none⟩ = some (.int .u8 (spZ.getD c 0)) := fun c hc => hT.cell hg c (by omega)
  refine ⟨World.block_lt_of_cell? _ _ (hc 0 (by decide)), fun c hc0 => ?_⟩
  rw [hc c hc0]
  have : spZ.getD c 0 = if Lib.isSp (UInt8.ofNat c) then 1 else 0 := by
    unfold spZ
    rw [List.getD_eq_getElem?_getD, List.getElem?_map, List.getElem?_range hc0]; rfl
  rw [this]

end Go.Proofs.YtgfegbeickaknabGreatDoor
