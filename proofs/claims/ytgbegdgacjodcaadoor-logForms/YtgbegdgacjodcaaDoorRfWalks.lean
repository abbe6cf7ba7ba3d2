/- What the document's own split and Join answer: a text cut at each sign; texts joined by a sign; the conditions: the text has at most 2^40 bytes, and so has what is joined. -/
import Derived.Test.YtgbegdgacjodcaaDoorNmWalks
import Derived.Test.YtgbegdgacjodcaaDoorRfPlain
import Derived.Deep.AppendLies
import Derived.WalkSmall
namespace Go.Proofs.YtgbegdgacjodcaaDoor
open Go.RowKit

theorem Tryd.infoS : (Tryd.prog.info? 9).map (fun i => (i.zero, i.size, i.bytes)) = some (some (.string ByteArray.empty), 1, 16) := by kernel_rfl

/-- Texts that lie in a row. -/
def RowS (w : World) (ao : Option Addr) (xs : List ByteArray) : Prop :=
  (xs = []) ∨ ∃ g o, ao = some ⟨g, o, none⟩ ∧ g < w.heap.size ∧ ∀ (j : Nat) x, xs[j]? = some x → w.cell? ⟨g, o + j, none⟩ = some (.string x)

theorem RowS.of_own {w : World} {B e cap : Nat} {ao : Option Addr} {ys : List ByteArray} (h : w.ownsRow B e 1 (.slice ao ys.length cap) ys.length (ys.map Value.string)) : RowS w ao ys := by
  have h' := h
  obtain ⟨h1, h2⟩ := h
  rcases h2 with ⟨_, h2⟩ | ⟨g, cap', cur, e1, hb, hh, hn, hm, hs, ht⟩
  · exact Or.inl (List.eq_nil_of_length_eq_zero h2)
  · cases e1
    refine Or.inr ⟨g, 0, rfl, ?_, ?_⟩
    · rcases Nat.lt_or_ge g w.heap.size with h | h
      · exact h
      · rw [Array.getElem?_eq_none h] at hh; cases hh
    · intro j x hx
      have hj : j < ys.length := by
        rcases Nat.lt_or_ge j ys.length with h | h
        · exact h
        · rw [List.getElem?_eq_none h] at hx; cases hx
      rw [Nat.zero_add, h'.cellAt j (by omega), List.getElem?_map, hx]; rfl

theorem RowS.below {w w' : World} {ao : Option Addr} {ys : List ByteArray} (h : RowS w ao ys) (q : Q w w') : RowS w' ao ys := by
  rcases h with h | ⟨g, o, rfl, hg, hc⟩
  · exact Or.inl h
  · exact Or.inr ⟨g, o, rfl, Nat.lt_of_lt_of_le hg q.size, fun j x hx => (q.cell (p := ⟨g, o + j, none⟩) hg).trans (hc j x hx)⟩

theorem own_cap {w : World} {B e n cap : Nat} {ao : Option Addr} {xs : List Value} (h : w.ownsRow B e 1 (.slice ao n cap) n xs) : n ≤ cap := by
  obtain ⟨h1, h2⟩ := h
  rcases h2 with ⟨e1, h2⟩ | ⟨g, cap', cur, e, hb, hh, hn, hm, hs, ht⟩
  · omega
  · cases e; omega

theorem byte_eq {a : UInt8} {d : UInt8} (h : ((a.toNat : Int) == (d.toNat : Int)) = true) : a = d := by
  have := beq_iff_eq.1 h
  exact UInt8.toNat_inj.1 (by omega)
theorem byte_ne {a : UInt8} {d : UInt8} (h : ((a.toNat : Int) == (d.toNat : Int)) = false) : a ≠ d := by
  intro e; subst e; simp at h



end Go.Proofs.YtgbegdgacjodcaaDoor
