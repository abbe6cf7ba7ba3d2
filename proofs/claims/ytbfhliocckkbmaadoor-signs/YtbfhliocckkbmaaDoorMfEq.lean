/- When two graphs are the same: plain facts, no program in them; no conditions. -/
import Derived.Test.YtbfhliocckkbmaaDoorMfPlain
namespace Go.Proofs.YtbfhliocckkbmaaDoor
open Go.RowKit

def eqEd (a b : Ed) : Bool := decide (a.1 = b.1) && (decide (a.2.1 = b.2.1) && (decide (a.2.2.1 = b.2.2.1) && (decide (a.2.2.2.1 = b.2.2.2.1) && (a.2.2.2.2.1 == b.2.2.2.2.1 && (a.2.2.2.2.2.1 == b.2.2.2.2.2.1 && a.2.2.2.2.2.2 == b.2.2.2.2.2.2)))))
theorem eqEd_iff (a b : Ed) : eqEd a b = true ↔ a = b := by
  obtain ⟨a1, a2, a3, a4, a5, a6, a7⟩ := a
  obtain ⟨c1, c2, c3, c4, c5, c6, c7⟩ := b
  unfold eqEd
  simp only [Bool.and_eq_true, decide_eq_true_eq, beq_iff_eq, Prod.mk.injEq]

def eqEs : List Ed → List Ed → Bool
  | [], [] => true
  | a :: r, b :: s => eqEd a b && eqEs r s
  | _, _ => false
theorem eqEs_iff : ∀ (a b : List Ed), eqEs a b = true ↔ a = b
  | [], [] => by simp [eqEs]
  | a :: r, b :: s => by rw [eqEs, Bool.and_eq_true, eqEd_iff, eqEs_iff r s]; simp
  | [], b :: s => by simp [eqEs]
  | a :: r, [] => by simp [eqEs]
def eqGr (a b : Gr) : Bool := eqEs a.1 b.1 && (decide (a.2.1 = b.2.1) && decide (a.2.2 = b.2.2))
theorem eqGr_iff (a b : Gr) : eqGr a b = true ↔ a = b := by
  obtain ⟨a1, a2, a3⟩ := a
  obtain ⟨b1, b2, b3⟩ := b
  unfold eqGr
  simp only [Bool.and_eq_true, decide_eq_true_eq, eqEs_iff, Prod.mk.injEq]


end Go.Proofs.YtbfhliocckkbmaaDoor
