/- More plain facts on lines: texts of newlines alone, an empty row that has just been made; no conditions. -/
import Derived.Test.YthchjdegilhepaaDoorLnCut
namespace Go.Proofs.YthchjdegilhepaaDoor
open Go.RowKit

theorem lnT_nls : ∀ n, lnT (List.replicate n 10) = some []
  | 0 => by decide +kernel
  | n + 1 => by
    have h : lnT [10] = some [] := by decide +kernel
    have := lnT_app (lnT_nls n) h
    rw [List.replicate_succ']
    exact this

theorem own_new {w : World} {B e size : Nat} (hB : B ≤ w.heap.size) : (w.alloc (.cells #[] e)).ownsRow B e size (.slice (some ⟨w.heap.size, 0, none⟩) 0 0) 0 [] :=
  ⟨by simp, Or.inr ⟨w.heap.size, 0, #[], rfl, hB, heap_alloc_new _ _, Nat.le_refl _, Nat.zero_le _, by simp, by simp⟩⟩

theorem one_layL : ∀ (ps : List Ln), ∀ u ∈ lay lv ps, u.oneCell' = true
  | [], u, h => by simp [lay] at h
  | p :: r, u, h => by
    rw [lay_cons] at h
    rcases List.mem_append.1 h with h | h
    · exact one_bs p.1 ⟨p.2.toArray⟩ u h
    · exact one_layL r u h

end Go.Proofs.YthchjdegilhepaaDoor
