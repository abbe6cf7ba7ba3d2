/- The state of ScopeRow's first loop in memory: the scope, the row of names, the table of texts; what a step leaves of it; no conditions. -/
import Derived.Test.YtegcckaemhdkgaaScRow
import Derived.Test.YtegcckaemhdkgaaScAwake
import Derived.Test.YtegcckaemhdkgaaStrOne
import Derived.Test.YtegcckaemhdkgaaBitPlain
import Derived.Test.YtegcckaemhdkgaaRowPlain
namespace Go.Proofs.Ytegcckaemhdkgaa
open Go.RowKit

theorem Try.infoI : (Try.prog.info? 3).map (fun i => (i.zero, i.size, i.bytes)) = some (some (.int .i64 0), 1, 8) := by kernel_rfl

def iv (r : Nat) : List Value := [.int .i64 (r : Int)]
theorem iv_len (r : Nat) : (iv r).length = 1 := rfl

abbrev OwnI (w : World) (B : Nat) (ao : Option Addr) (cap : Nat) (row : List Nat) : Prop := w.ownsRow B 3 1 (.slice ao row.length cap) row.length (lay iv row)
theorem OwnI.snoc {w : World} {B cap : Nat} {ao : Option Addr} {row : List Nat} {r : Nat} (h : w.ownsRow B 3 1 (.slice ao (row.length + 1) cap) (row.length + 1) (lay iv row ++ [.int .i64 (r : Int)])) : OwnI w B ao cap (row ++ [r]) := by
  show w.ownsRow B _ 1 (.slice ao (row ++ [r]).length cap) (row ++ [r]).length (lay iv (row ++ [r]))
  rw [lay_snoc, List.length_append]; exact h

/-- What is owned stays owned where its block is as it was. -/
theorem own_blk {w w' : World} {B e size n : Nat} {v : Value} {xs : List Value} (h : w.ownsRow B e size v n xs) (hb : ∀ k, v.ownBlock = some k → w'.heap[k]? = w.heap[k]?) : w'.ownsRow B e size v n xs := by
  obtain ⟨h1, h2⟩ := h
  rcases h2 with hn | ⟨g, cap, cur, e1, hg, hgg, rest⟩
  · exact ⟨h1, Or.inl hn⟩
  · exact ⟨h1, Or.inr ⟨g, cap, cur, e1, hg, (hb g (by rw [e1]; rfl)).trans hgg, rest⟩⟩

structure RM (w wr : World) (wb : Nat) (ro : Option Addr) (rcap : Nat) (row : List Nat) (want : Nat → ByteArray) : Prop where
  rown : OwnI wr (wb + 1) ro rcap row
  cells : ∀ r, r < 8 → wr.cell? ⟨wb, r, none⟩ = some (.string (want r))
  frz : ∀ r, wr.frozen? ⟨wb, r, none⟩ = false
  q : Q w wr
  lo : w.heap.size ≤ wb
  hi : wb < wr.heap.size

theorem RM.next {w wr w2 : World} {wb : Nat} {ro : Option Addr} {rcap : Nat} {row : List Nat} {want : Nat → ByteArray} (h : RM w wr wb ro rcap row want) (hq : Q wr w2) : RM w w2 wb ro rcap row want :=
  ⟨own_q h.rown hq, fun r hr => (hq.cell (p := ⟨wb, r, none⟩) h.hi).trans (h.cells r hr), fun r => (World.frozen?_of_block (hq.block wb h.hi)).trans (h.frz r), h.q.trans hq, h.lo, Nat.lt_of_lt_of_le h.hi hq.size⟩

/-- One more in the row. -/
theorem RM.grow {w u w3 : World} {wb : Nat} {ro ro' : Option Addr} {rcap rcap' : Nat} {row row' : List Nat} {want : Nat → ByteArray} (h : RM w u wb ro rcap row want) (hgrow : u.grownBy w3 (Value.slice ro row.length rcap).ownBlock) (hr : OwnI w3 (wb + 1) ro' rcap' row') : RM w w3 wb ro' rcap' row' want := by
  have far : some wb ≠ (Value.slice ro row.length rcap).ownBlock := fun e => by have := (h.rown.lt wb e.symm).1; omega
  have hs : wb + 1 ≤ u.heap.size := h.hi
  refine ⟨hr, fun r hr => (hgrow.cell_far ⟨wb, r, none⟩ h.hi far).trans (h.cells r hr), fun r => (hgrow.frozen_far ⟨wb, r, none⟩ h.hi far).trans (h.frz r), ?_, h.lo, ?_⟩
  · exact Below.grown h.q hgrow (by have := h.lo; omega) (fun r hr => by have := (h.rown.lt r hr).1; have := h.lo; omega)
  · have := hgrow.size; have := h.hi; omega

theorem far_set {w2 : World} {wb r : Nat} {v : Value} {e size n : Nat} {x : Value} {xs : List Value} (h : w2.ownsRow (wb + 1) e size x n xs) : (w2.setCell ⟨wb, r, none⟩ v).ownsRow (wb + 1) e size x n xs :=
  own_blk h fun k hk => heap_setCell_other w2 ⟨wb, r, none⟩ k v (by show k ≠ wb; have := (h.lt k hk).1; omega)

/-- A text is written into the table. -/
theorem RM.put {w w2 : World} {wb : Nat} {ro : Option Addr} {rcap : Nat} {row : List Nat} {want : Nat → ByteArray} {r : Nat} {t : ByteArray} (h : RM w w2 wb ro rcap row want) :
    RM w (w2.setCell ⟨wb, r, none⟩ (.string t)) wb ro rcap row (upd want r t) := by
  refine ⟨far_set h.rown, ?_, ?_, h.q.setCell h.lo _, h.lo, ?_⟩
  · intro q hq
    by_cases e : q = r
    · subst e
      rw [upd_same]
      exact World.cell?_setCell_same' w2 ⟨wb, q, none⟩ (.string t) (by rw [h.cells q hq]; rfl)
    · rw [upd_other want t e, ← h.cells q hq]
      exact World.cell?_setCell_other w2 ⟨wb, r, none⟩ ⟨wb, q, none⟩ (.string t) (by intro h2; cases h2; exact e rfl)
  · intro q
    have := h.frz q
    rw [← this]
    simp
  · have := h.hi
    simpa using this

theorem RM.start {w w1 : World} (hq : Q w w1) (t : TypeId) : RM w (w1.alloc (.cells #[.string ⟨#[]⟩, .string ⟨#[]⟩, .string ⟨#[]⟩, .string ⟨#[]⟩, .string ⟨#[]⟩, .string ⟨#[]⟩, .string ⟨#[]⟩, .string ⟨#[]⟩] t)) w1.heap.size none 0 [] (fun _ => ⟨#[]⟩) := by
  refine ⟨World.ownsRow_nil _ _ _ _, ?_, ?_, hq.alloc _, hq.size, by simp⟩
  · intro r hr
    match r, hr with
    | 0, _ | 1, _ | 2, _ | 3, _ | 4, _ | 5, _ | 6, _ | 7, _ => simp
  · intro r; simp

end Go.Proofs.Ytegcckaemhdkgaa
