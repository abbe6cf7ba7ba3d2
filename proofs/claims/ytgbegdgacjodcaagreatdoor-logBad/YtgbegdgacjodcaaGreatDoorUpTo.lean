/- Is a number from a least to a most, as the document's own upTo answers; no conditions. -/
import Derived.Test.YtgbegdgacjodcaaGreatDoorNmWalks
import Derived.Test.YtgbegdgacjodcaaGreatDoorAfQuiet
namespace Go.Proofs.YtgbegdgacjodcaaGreatDoor
open Go.RowKit

theorem upTo_any (x a b : Int) (w : World) : Calls Tryz.prog 47 #[.int .i64 x, .int .i64 a, .int .i64 b] w fun e w' => e = .returned (.bool (decide (a ≤ x) && decide (x ≤ b))) ∧ w' = w := by
  by_cases h1 : a ≤ x <;> by_cases h2 : x ≤ b
  all_goals
    go_enter Tryz.func47, Tryz.ntmps47
    go_wp2
    go_ret
    exact ⟨ret_bool (by simp [h1, h2]), rfl⟩
theorem upTo_lit {v : Bool} (x a b : Int) (w : World) (h : (decide (a ≤ x) && decide (x ≤ b)) = v) : Calls Tryz.prog 47 #[.int .i64 x, .int .i64 a, .int .i64 b] w fun e w' => e = .returned (.bool v) ∧ Q w w' := by
  obtain rfl := h
  refine (upTo_any x a b w).mono ?_
  rintro e w' ⟨rfl, rfl⟩
  exact ⟨rfl, Q.refl _⟩

end Go.Proofs.YtgbegdgacjodcaaGreatDoor
