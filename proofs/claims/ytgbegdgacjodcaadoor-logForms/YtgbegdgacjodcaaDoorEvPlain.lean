/- Plain facts on values, with no program in them: a text's pieces, each told, one behind the other; no conditions. -/
import Derived.Lib.UnsafeStr
import Derived.Lib.Builder
import Derived.Test.YtgbegdgacjodcaaDoorPcMore
import Derived.Test.YtgbegdgacjodcaaDoorScPlain
namespace Go.Proofs.YtgbegdgacjodcaaDoor
open Go.RowKit

theorem mk_bl (x : ByteArray) : (⟨(bl x).toArray⟩ : ByteArray) = x := (of_bl rfl).symm

/-- What a piece stands for. -/
def txt (ins outs : List Bd) (p : Pc) : List UInt8 :=
  if p.1 then (if bl (getB ins ⟨p.2.toArray⟩) = [] then bl (getB outs ⟨p.2.toArray⟩) else bl (getB ins ⟨p.2.toArray⟩)) else p.2

/-- What pieces stand for. -/
def evT (ins outs : List Bd) (ps : List Pc) : List UInt8 := ps.flatMap (txt ins outs)

def evOk (l : List UInt8) (ins outs : List Bd) : Bool := decide (cutE l = 0) && scOk ins && scOk outs

/-- The value, or none; the number. -/
def evS (l : List UInt8) (ins outs : List Bd) : List UInt8 :=
  if evOk l ins outs && decide ((evT ins outs (cutP l)).length ≤ 256) then evT ins outs (cutP l) else []
def evE (l : List UInt8) (ins outs : List Bd) : Int :=
  if evOk l ins outs then (if (evT ins outs (cutP l)).length ≤ 256 then 0 else 501) else 500

theorem txt_text {ins outs : List Bd} {l : List UInt8} : txt ins outs (false, l) = l := by simp [txt]
theorem txt_of {ins outs : List Bd} {p : Pc} (h : p.1 = false) : txt ins outs p = p.2 := by simp [txt, h]
theorem txt_out {ins outs : List Bd} {p : Pc} (h : p.1 = true) (h0 : bl (getB ins ⟨p.2.toArray⟩) = []) : txt ins outs p = bl (getB outs ⟨p.2.toArray⟩) := by simp [txt, h, h0]
theorem txt_in {ins outs : List Bd} {p : Pc} (h : p.1 = true) (h0 : bl (getB ins ⟨p.2.toArray⟩) ≠ []) : txt ins outs p = bl (getB ins ⟨p.2.toArray⟩) := by simp [txt, h, h0]

theorem evT_nil (ins outs : List Bd) : evT ins outs [] = [] := rfl
theorem evT_app (ins outs : List Bd) (ps qs : List Pc) : evT ins outs (ps ++ qs) = evT ins outs ps ++ evT ins outs qs := by unfold evT; rw [List.flatMap_append]
theorem evT_snoc (ins outs : List Bd) (ps : List Pc) (p : Pc) : evT ins outs (ps ++ [p]) = evT ins outs ps ++ txt ins outs p := by rw [evT_app]; simp [evT]
theorem evT_take (ins outs : List Bd) {ps : List Pc} {k : Nat} {p : Pc} (h : ps[k]? = some p) : evT ins outs (ps.take (k + 1)) = evT ins outs (ps.take k) ++ txt ins outs p := by
  rw [List.take_add_one, h]; exact evT_snoc _ _ _ _
theorem evT_take_le (ins outs : List Bd) (ps : List Pc) (k : Nat) : (evT ins outs (ps.take k)).length ≤ (evT ins outs ps).length := by
  conv => rhs; rw [← List.take_append_drop k ps, evT_app, List.length_append]
  omega

theorem get_size {bs : List Bd} (n : ByteArray) : (bl (getB bs n)).length ≤ 256 := by
  unfold getB
  split
  · rename_i h
    split
    · split
      · rename_i b hb
        rw [bl_size]
        exact (mayBd_size ((scOk_parts h).2 _ b hb).1).2
      · decide
    · decide
  · decide
theorem txt_le {ins outs : List Bd} {n : Nat} {p : Pc} (hn : 256 ≤ n) (h : p.2.length ≤ n) : (txt ins outs p).length ≤ n := by
  unfold txt
  have h1 := get_size (bs := ins) ⟨p.2.toArray⟩
  have h2 := get_size (bs := outs) ⟨p.2.toArray⟩
  split
  · split <;> omega
  · exact h
theorem txt_cut {ins outs : List Bd} {l : List UInt8} {k : Nat} {p : Pc} (h : (cutP l)[k]? = some p) : (txt ins outs p).length ≤ 2064 :=
  txt_le (by omega) ((cutP_facts l).2 p (List.mem_of_getElem? h))

theorem ev_bad {l : List UInt8} {ins outs : List Bd} (h : evOk l ins outs = false) : evS l ins outs = [] ∧ evE l ins outs = 500 := by
  unfold evS evE; rw [h]; exact ⟨rfl, rfl⟩
theorem ev_long {l : List UInt8} {ins outs : List Bd} (h : evOk l ins outs = true) (h2 : 256 < (evT ins outs (cutP l)).length) : evS l ins outs = [] ∧ evE l ins outs = 501 := by
  unfold evS evE; rw [h, if_neg (by simp; omega), if_pos rfl, if_neg (by omega)]; exact ⟨rfl, rfl⟩
theorem ev_good {l : List UInt8} {ins outs : List Bd} (h : evOk l ins outs = true) (h2 : (evT ins outs (cutP l)).length ≤ 256) : evS l ins outs = evT ins outs (cutP l) ∧ evE l ins outs = 0 := by
  unfold evS evE; rw [h, if_pos (by simp; omega), if_pos rfl, if_pos h2]; exact ⟨rfl, rfl⟩
theorem evOk_cut {l : List UInt8} {ins outs : List Bd} (h : cutE l ≠ 0) : evOk l ins outs = false := by unfold evOk; rw [decide_eq_false h]; rfl
theorem evOk_in {l : List UInt8} {ins outs : List Bd} (h : scOk ins = false) : evOk l ins outs = false := by unfold evOk; rw [h]; simp
theorem evOk_out {l : List UInt8} {ins outs : List Bd} (h : scOk outs = false) : evOk l ins outs = false := by unfold evOk; rw [h]; simp
theorem evOk_all {l : List UInt8} {ins outs : List Bd} (h0 : cutE l = 0) (h1 : scOk ins = true) (h2 : scOk outs = true) : evOk l ins outs = true := by unfold evOk; rw [h1, h2, decide_eq_true h0]; rfl

theorem cut_no_or (l : List UInt8) : cutE l = 0 ∨ cutE l = 300 := by unfold cutE; split <;> simp

end Go.Proofs.YtgbegdgacjodcaaDoor
