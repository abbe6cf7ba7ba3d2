/- Build where the answer is known; the fixed lines that every statement on words asks of first; the conditions: the lengths. -/
import Derived.Test.YtloeileblkleoaaDoorWdSame
namespace Go.Proofs.YtloeileblkleoaaDoor
open Go.RowKit

theorem build_some {a b c d : Ws} {r : List UInt8} (s : ByteArray) (w : World) (hs : s.size ≤ 1152921504606846976) (h : bdR (bl s) = some (a, r, b, c, d)) :
    Calls Tryd.prog 7 #[.string s] w fun e w' => ∃ (ao bo co eo : Option Addr) (ac bc cc ec k1 k2 k3 : Nat),
      e = .returned (.tuple #[.slice ao a.length ac, .string ⟨r.toArray⟩, .slice bo b.length bc, .slice co c.length cc, .slice eo d.length ec, .int .i64 0]) ∧ Four w' w.heap.size k1 k2 k3 (a, r, b, c, d) ao bo co eo ac bc cc ec ∧ Q w w' := by
  have := build_any s w hs
  unfold BSays at this
  rw [h] at this
  exact this

theorem build_none (s : ByteArray) (w : World) (hs : s.size ≤ 1152921504606846976) (h : bdR (bl s) = none) :
    Calls Tryd.prog 7 #[.string s] w fun e w' => ∃ (ao bo co eo : Option Addr) (ac bc cc ec : Nat),
      e = .returned (.tuple #[.slice ao 0 ac, .string ⟨#[]⟩, .slice bo 0 bc, .slice co 0 cc, .slice eo 0 ec, .int .i64 700]) ∧ Q w w' := by
  have := build_any s w hs
  unfold BSays at this
  rw [h] at this
  refine this.mono ?_
  rintro e w' ⟨ao, bo, co, eo, ac, bc, cc, ec, k1, k2, k3, h1, h2, h3⟩
  exact ⟨ao, bo, co, eo, ac, bc, cc, ec, h1, h3⟩

structure Four.Rows (w : World) (x : Bt) (ao bo co eo : Option Addr) : Prop where
  a : RowT w ao x.1
  b : RowT w bo x.2.2.1
  c : RowT w co x.2.2.2.1
  d : RowT w eo x.2.2.2.2
theorem Four.rows {w : World} {B k1 k2 k3 : Nat} {x : Bt} {ao bo co eo : Option Addr} {ac bc cc ec : Nat} (h : Four w B k1 k2 k3 x ao bo co eo ac bc cc ec) : Four.Rows w x ao bo co eo :=
  ⟨h.a.row, h.b.row, h.c.row, h.d.row⟩
theorem Four.Rows.q {w w' : World} {x : Bt} {ao bo co eo : Option Addr} (h : Four.Rows w x ao bo co eo) (hq : Q w w') : Four.Rows w' x ao bo co eo :=
  ⟨h.a.q hq, h.b.q hq, h.c.q hq, h.d.q hq⟩

theorem build_rv {a b c d : Ws} {rv : ByteArray} (s : ByteArray) (w : World) (hs : s.size ≤ 1152921504606846976) (h : bdR (bl s) = some (a, bl rv, b, c, d)) :
    Calls Tryd.prog 7 #[.string s] w fun e w' => ∃ (ao bo co eo : Option Addr) (ac bc cc ec : Nat),
      e = .returned (.tuple #[.slice ao a.length ac, .string rv, .slice bo b.length bc, .slice co c.length cc, .slice eo d.length ec, .int .i64 0]) ∧ Four.Rows w' (a, bl rv, b, c, d) ao bo co eo ∧ Q w w' := by
  refine (build_some s w hs h).mono ?_
  rintro e w' ⟨ao, bo, co, eo, ac, bc, cc, ec, k1, k2, k3, h1, h2, h3⟩
  rw [mk_bl] at h1
  exact ⟨ao, bo, co, eo, ac, bc, cc, ec, h1, h2.rows, h3⟩

def aw1 : Ws := [[120, 46, 111], [121]]
def aw2 : Ws := [[120, 46, 99]]
def aw3 : Ws := [[97, 46, 104]]
def aw4 : Ws := [[103, 101, 110]]
theorem wdlit1 : bdR (bl { data := #[120, 46, 111, 32, 32, 121, 32, 58, 32, 99, 99, 32, 120, 46, 99, 32, 124, 32, 97, 46, 104, 32, 124, 124, 32, 103, 101, 110] }) = some (aw1, [99, 99], aw2, aw3, aw4) := by kernel_rfl
theorem wdlit2 : bdR (bl { data := #[120, 32, 58, 32, 99, 99, 32, 124, 124, 32, 103, 101, 110] }) = some ([[120]], [99, 99], [], [], aw4) := by kernel_rfl
theorem wdlit3 : bdR (bl { data := #[120, 58, 32, 99, 99] }) = none := by kernel_rfl
theorem wdlit4 : bdR (bl { data := #[120, 32, 58, 32, 99, 99, 32, 124] }) = none := by kernel_rfl

set_option maxRecDepth 20000 in
set_option maxHeartbeats 4000000 in
theorem wdawake_any (w : World) :
    Calls Tryd.prog 12 #[] w fun e w' => e = .returned (.bool true) ∧ Q w w' := by
  go_enter Tryd.func12, Tryd.ntmps12
  go_wp2_with fail
  refine (build_some _ _ (by decide) wdlit1).mono ?_
  rintro e w1 ⟨ao, bo, co, eo, ac, bc, cc, ec, _, _, _, rfl, f1, q1⟩
  have R1 := hide f1.rows
  clear f1
  go_wp2_with fail
  refine (build_some _ _ (by decide) wdlit2).mono ?_
  rintro e w2 ⟨a2, b2, c2, e2, i1, i2, i3, i4, _, _, _, rfl, f2, q2⟩
  have R2 := hide f2.rows
  clear f2
  go_wp2_with fail
  refine (build_none _ _ (by decide) wdlit3).mono ?_
  rintro e w3 ⟨a3, b3, c3, e3, j1, j2, j3, j4, rfl, q3⟩
  go_wp2_with fail
  refine (build_none _ _ (by decide) wdlit4).mono ?_
  rintro e w4 ⟨a4, b4, c4, e4, l1, l2, l3, l4, rfl, q4⟩
  have q := q1.trans (q2.trans (q3.trans q4))
  have H1 := hide ((unhide R1).q (q2.trans (q3.trans q4)))
  have H2 := hide ((unhide R2).q (q3.trans q4))
  clear R1 R2 q1 q2 q3 q4
  go_wp2_with fail
  refine (sameT_any ao _ ac 2 aw1 aw1 _ ((unhide H1).a.q ((Q.refl _).alloc _)) (rowG_block tv_len _ _ _ aw1 rfl) (by decide)).mono ?_
  rintro e w5 ⟨rfl, q5⟩
  rw [decide_eq_true (rfl : aw1 = aw1)]
  have qa := q.trans (((Q.refl _).alloc _).trans q5)
  have HA := hide ((unhide H1).q (((Q.refl _).alloc _).trans q5))
  have HB := hide ((unhide H2).q (((Q.refl _).alloc _).trans q5))
  clear H1 H2 q q5
  go_wp2_with fail
  refine (sameT_any bo _ bc 1 aw2 aw2 _ ((unhide HA).b.q ((Q.refl _).alloc _)) (rowG_block tv_len _ _ _ aw2 rfl) (by decide)).mono ?_
  rintro e w6 ⟨rfl, q5⟩
  rw [decide_eq_true (rfl : aw2 = aw2)]
  have qb := qa.trans (((Q.refl _).alloc _).trans q5)
  have H1 := hide ((unhide HA).q (((Q.refl _).alloc _).trans q5))
  have H2 := hide ((unhide HB).q (((Q.refl _).alloc _).trans q5))
  clear HA HB qa q5
  go_wp2_with fail
  refine (sameT_any co _ cc 1 aw3 aw3 _ ((unhide H1).c.q ((Q.refl _).alloc _)) (rowG_block tv_len _ _ _ aw3 rfl) (by decide)).mono ?_
  rintro e w7 ⟨rfl, q5⟩
  rw [decide_eq_true (rfl : aw3 = aw3)]
  have qa := qb.trans (((Q.refl _).alloc _).trans q5)
  have HA := hide ((unhide H1).q (((Q.refl _).alloc _).trans q5))
  have HB := hide ((unhide H2).q (((Q.refl _).alloc _).trans q5))
  clear H1 H2 qb q5
  go_wp2_with fail
  refine (sameT_any eo _ ec 1 aw4 aw4 _ ((unhide HA).d.q ((Q.refl _).alloc _)) (rowG_block tv_len _ _ _ aw4 rfl) (by decide)).mono ?_
  rintro e w8 ⟨rfl, q5⟩
  rw [decide_eq_true (rfl : aw4 = aw4)]
  have qb := qa.trans (((Q.refl _).alloc _).trans q5)
  have H2 := hide ((unhide HB).q (((Q.refl _).alloc _).trans q5))
  clear HA HB qa q5
  go_wp2_with fail
  refine (num_any _ _).mono ?_
  rintro e w' ⟨rfl, rfl⟩
  go_wp2_with fail
  refine (sameT_any e2 _ i4 1 aw4 aw4 _ ((unhide H2).d.q ((Q.refl _).alloc _)) (rowG_block tv_len _ _ _ aw4 rfl) (by decide)).mono ?_
  rintro e w9 ⟨rfl, q5⟩
  rw [decide_eq_true (rfl : aw4 = aw4)]
  have qa := qb.trans (((Q.refl _).alloc _).trans q5)
  clear H2 qb q5
  go_wp2_with (go_at_call 10; refine (num_any _ _).mono ?_; rintro e w' ⟨rfl, rfl⟩)
  go_ret
  exact ⟨rfl, qa⟩

end Go.Proofs.YtloeileblkleoaaDoor
