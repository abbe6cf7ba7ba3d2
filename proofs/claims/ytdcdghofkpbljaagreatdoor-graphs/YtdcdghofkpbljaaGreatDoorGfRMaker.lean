/- What the document's own Maker answers; the conditions: the graph lies in memory, no text is longer than a string can be. -/
import Derived.Test.YtdcdghofkpbljaaGreatDoorGfRCheck
namespace Go.Proofs.YtdcdghofkpbljaaGreatDoor
open Go.RowKit

set_option maxRecDepth 20000 in
set_option maxHeartbeats 4000000 in
theorem rMk_any (g : Gh) (n : ByteArray) (es : List EdA) (eo po dd : Option Addr) (ec pc dc : Nat) (w : World) (hg : GfR w g es eo po dd) :
    Calls Tryz.prog 6 #[.agg #[.slice eo es.length ec, .slice po g.2.1.length pc, .slice dd g.2.2.length dc], .string n] w fun e w' => e = .returned (.tuple #[.int .i64 (mkI g (bl n)), .bool (mkIs g (bl n)), .int .i64 (ckE g)]) ∧ Q w w' := by
  have S1 := hide (fun w2 (q : Q w w2) => rCk_any g es eo po dd ec pc dc w2 (hg.q' q))
  have S2 := hide (fun w2 (q : Q w w2) => rMo_any g n es eo po dd ec pc dc w2 (hg.q' q))
  have qb := grB_q w es g eo po dd ec pc dc
  have HB1 := hide (grB_blk w es g eo po dd ec pc dc)
  clear hg
  by_cases h0 : ckE g ≠ 0
  · have h1 : (ckE g != 0) = true := by simpa using h0
    have h2 : (ckE g == 0) = false := by simpa using h0
    have HO : Hid (mkI g (bl n) = 0 ∧ mkIs g (bl n) = false) := by
      show _ ∧ _
      unfold mkI mkIs
      rw [if_neg h0, h2]; exact ⟨rfl, rfl⟩
    clear h0
    generalize ckE g = ck at *
    go_enter Tryz.func6, Tryz.ntmps6
    go_wp2_with fail
    change Calls _ _ _ (grB w es g eo po dd ec pc dc) _
    refine (unhide S1 _ qb).mono ?_
    rintro e w1 ⟨rfl, q1⟩
    go_wp2_with fail
    go_ret3
    exact ⟨by rw [HO.out.1, HO.out.2]; rfl, qb.trans q1⟩
  · have h0' : ckE g = 0 := by simpa using h0
    have HI : Hid (mkI g (bl n) = max 0 (mkA g.1 (bl n)) ∧ mkIs g (bl n) = decide (0 ≤ mkA g.1 (bl n))) := by
      show _ ∧ _
      unfold mkI mkIs
      rw [h0']; exact ⟨rfl, rfl⟩
    rw [h0'] at S1 ⊢
    clear h0 h0'
    generalize mkA g.1 (bl n) = z at *
    go_enter Tryz.func6, Tryz.ntmps6
    go_wp2_with fail
    change Calls _ _ _ (grB w es g eo po dd ec pc dc) _
    generalize grB w es g eo po dd ec pc dc = wb at *
    generalize hX : w.heap.size = X at HB1 ⊢
    clear hX
    refine (unhide S1 _ qb).mono ?_
    rintro e w1 ⟨rfl, q1⟩
    have c0 : w1.cell? ⟨X, 0, none⟩ = some (.slice eo es.length ec) := ((unhide HB1).q q1).cell 0 rfl
    have c1 : w1.cell? ⟨X, 1, none⟩ = some (.slice po g.2.1.length pc) := ((unhide HB1).q q1).cell 1 rfl
    have c2 : w1.cell? ⟨X, 2, none⟩ = some (.slice dd g.2.2.length dc) := ((unhide HB1).q q1).cell 2 rfl
    go_wp2_with fail
    refine (unhide S2 _ (qb.trans q1)).mono ?_
    rintro e w2 ⟨rfl, q2⟩
    go_wp2_with fail
    go_ret3
    exact ⟨by rw [HI.out.1, HI.out.2]; rfl, qb.trans (q1.trans q2)⟩

end Go.Proofs.YtdcdghofkpbljaaGreatDoor
