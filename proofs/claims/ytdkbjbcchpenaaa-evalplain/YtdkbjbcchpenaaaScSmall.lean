/- What the small functions of package scope answer: may a bind be, where does a name stand; the conditions: the binds lie in memory, each text is no longer than a string can be. -/
import Derived.Test.YtdkbjbcchpenaaaNmMay
import Derived.Test.YtdkbjbcchpenaaaPlSmall
import Derived.Test.YtdkbjbcchpenaaaScPlain
namespace Go.Proofs.Ytdkbjbcchpenaaa
open Go.RowKit

set_option maxHeartbeats 1000000 in
theorem mayBind_any (n t : ByteArray) (w : World) (hn : n.size ≤ maxLen) (ht : t.size ≤ maxLen) :
    Calls Try.prog 32 #[.string n, .string t] w fun e w' => e = .returned (.bool (mayB n && txB t)) ∧ Q w w' := by
  have H1 := hide (may_any n · hn)
  have H2 := hide (pmay_any t 256 · ht)
  have HT : Hid ((decide ((t.size : Int) ≤ 256) && plainL (bl t)) = txB t) := rfl
  cases hm : mayB n
  · rw [hm] at H1
    clear hm
    go_enter Try.func32, Try.ntmps32
    go_wp2_with fail
    refine ((unhide H1) _).mono ?_
    rintro e w1 ⟨rfl, q1⟩
    go_wp2_with fail
    go_ret
    exact ⟨rfl, q1⟩
  · rw [hm] at H1
    clear hm
    go_enter Try.func32, Try.ntmps32
    go_wp2_with fail
    refine ((unhide H1) _).mono ?_
    rintro e w1 ⟨rfl, q1⟩
    go_wp2_with fail
    refine ((unhide H2) _).mono ?_
    rintro e w2 ⟨rfl, q2⟩
    rw [HT.out]
    go_wp2_with fail
    go_ret
    exact ⟨rfl, q1.trans q2⟩

set_option maxHeartbeats 1000000 in
theorem at1_any (b : Bd) (n : ByteArray) (p : Addr) (w : World) (hc : w.cell? p = some (.string n)) (hp : p.block < w.heap.size) :
    Calls Try.prog 47 #[.agg #[.string b.1, .string b.2], .pointer (some p)] w fun e w' => e = .returned (.bool (named n b)) ∧ Q w w' := by
  have HN := hide (named_toList n b)
  have hc2 : ∀ o, (w.alloc o).cell? p = some (.string n) := fun o => by
    rw [← hc]; exact ((Q.refl w).alloc o).cell hp
  go_enter Try.func47, Try.ntmps47
  go_wp2_with fail
  go_ret
  exact ⟨ret_bool (unhide HN), (Q.refl _).alloc _⟩

end Go.Proofs.Ytdkbjbcchpenaaa
