/- Rows of pieces and of bytes that a call owns: how they lie, one more appended; package pieces' withText; the conditions: at most 2048 of each. -/
import Derived.Test.YtgfegbeickaknabGreatDoorPcVar
import Derived.Test.YtgfegbeickaknabGreatDoorPk1
namespace Go.Proofs.YtgfegbeickaknabGreatDoor
open Go.RowKit

theorem Tryz.infoP : (Tryz.prog.info? 152).map (fun i => (i.zero, i.size, i.bytes)) = some (some (.agg #[.bool false, .string ByteArray.empty]), 2, 24) := by kernel_rfl
theorem Tryz.infoB : (Tryz.prog.info? 5).map (fun i => (i.zero, i.size, i.bytes)) = some (some (.int .u8 0), 1, 1) := by kernel_rfl

def pv (p : Pc) : List Value := [.bool p.1, .string ⟨p.2.toArray⟩]
def bv (c : UInt8) : List Value := [.int .u8 (c.toNat : Int)]
theorem pv_len (p : Pc) : (pv p).length = 2 := rfl
theorem bv_len (c : UInt8) : (bv c).length = 1 := rfl

abbrev OwnP (w : World) (B : Nat) (ao : Option Addr) (cap : Nat) (ps : List Pc) : Prop := w.ownsRow B 152 2 (.slice ao ps.length cap) ps.length (lay pv ps)
abbrev OwnB (w : World) (B : Nat) (ao : Option Addr) (cap : Nat) (tb : List UInt8) : Prop := w.ownsRow B 5 1 (.slice ao tb.length cap) tb.length (lay bv tb)

theorem OwnP.snoc {w : World} {B cap : Nat} {ao : Option Addr} {ps : List Pc} {p : Pc} (h : w.ownsRow B 152 2 (.slice ao (ps.length + 1) cap) (ps.length + 1) (lay pv ps ++ [.bool p.1, .string ⟨p.2.toArray⟩])) : OwnP w B ao cap (ps ++ [p]) := by
  show w.ownsRow B _ 2 (.slice ao (ps ++ [p]).length cap) (ps ++ [p]).length (lay pv (ps ++ [p]))
  rw [lay_snoc, List.length_append]; exact h
theorem OwnB.snoc {w : World} {B cap : Nat} {ao : Option Addr} {ps : List UInt8} {p : UInt8} (h : w.ownsRow B 5 1 (.slice ao (ps.length + 1) cap) (ps.length + 1) (lay bv ps ++ [.int .u8 (p.toNat : Int)])) : OwnB w B ao cap (ps ++ [p]) := by
  show w.ownsRow B _ 1 (.slice ao (ps ++ [p]).length cap) (ps ++ [p]).length (lay bv (ps ++ [p]))
  rw [lay_snoc, List.length_append]; exact h

theorem str_of_row {w : World} {B cap : Nat} {ao : Option Addr} {tb : List UInt8} (h : OwnB w B ao cap tb) (hn : tb ≠ []) :
    (convert 25 9 (.slice ao tb.length cap)).run Tryz.prog w = .ok (.string ⟨tb.toArray⟩) w := by
  obtain ⟨g, rfl, hB, hg, hf, hc⟩ := own_some bv_len (by decide) (List.length_pos_iff.2 hn) h
  refine run_convert_bytes_back w _ _ 5 ⟨g, 0, none⟩ cap tb Tryz.underlying25 Tryz.underlying5 Tryz.underlying9 ?_
  intro j hj
  have := hc j 0 tb[j] _ (List.getElem?_eq_getElem hj) (by decide) rfl
  rw [Nat.mul_one, Nat.add_zero] at this
  rw [← this]
  congr 1
  unfold Addr.add; split <;> simp_all

set_option maxHeartbeats 2000000 in
theorem withText_any (cs : List Pc) (ao bo : Option Addr) (cap bcap : Nat) (tb : List UInt8) (B : Nat) (w : World) (hown : OwnP w B ao cap cs) (htx : OwnB w B bo bcap tb) (hB : B ≤ w.heap.size) (hn : cs.length ≤ 2048) (ht : tb.length ≤ 2048) :
    Calls Tryz.prog 126 #[.slice ao cs.length cap, .slice bo tb.length bcap] w fun e w' =>
      ∃ ao' cap', e = .returned (.slice ao' (flush cs tb).length cap') ∧ OwnP w' B ao' cap' (flush cs tb) ∧ Below B w w' := by
  obtain ⟨i0, hi, hz0, hz1, hz2⟩ := info_parts Tryz.infoP
  by_cases h0 : tb = []
  · have HF := hide (show flush cs tb = cs by rw [h0, flush_nil])
    have hl0 : ((tb.length : Int) == 0) = true := by rw [h0]; rfl
    clear h0
    go_enter Tryz.func126, Tryz.ntmps126
    go_wp2_with fail
    go_ret
    rw [unhide HF]
    exact ⟨ao, cap, rfl, hown, Below.refl _ _⟩
  · have HF := hide (flush_some cs tb h0)
    have hl1 : 1 ≤ tb.length := List.length_pos_iff.2 h0
    have hl0 : ((tb.length : Int) == 0) = false := beq_eq_false_iff_ne.2 (by omega)
    have hcv := str_of_row htx h0
    have hyc := own_le hown
    clear h0 htx
    go_enter Tryz.func126, Tryz.ntmps126
    go_wp2_with (at_builtin; refine wpList_append_lies _ rfl _ _ 147 rfl B 152 i0 (.agg #[.bool false, .string ByteArray.empty]) 2 24 Tryz.underlying147 hi hz0 hz1 hz2 rfl (by decide) _ _ _ rfl (hown.alloc _) ⟨w.heap.size, 0, none⟩ 1 1 [.bool false, .string ⟨tb.toArray⟩] rfl rfl (news_new _ #[.bool false, .string ⟨tb.toArray⟩] _) (one_bs _ _) (by decide) (by unfold maxLen; omega) (by omega) (le_alloc hB _) (w.heap.size + 1) (size_alloc _ _) ?_)
    intro g cp w1 hown1 hgrow hor hglt
    have hq1 : Below B w w1 := Below.grown ((Below.refl _ _).alloc hB _) hgrow (by simp; omega) (fun r hr => (hown.lt r hr).1)
    have HO := hide (OwnP.snoc (p := (false, tb)) hown1)
    clear hown1 hgrow hown hor
    go_wp2
    go_ret
    rw [unhide HF]
    exact ⟨some ⟨g, 0, none⟩, cp, by simp, unhide HO, hq1⟩

end Go.Proofs.YtgfegbeickaknabGreatDoor
