/- Plain facts on the document's own reading of a build line: it takes all names that stand there and counts them in the end; no conditions. -/
import Derived.Test.YtloeileblkleoaaDoorWdMore
import Derived.Test.YtloeileblkleoaaDoorWdRef
namespace Go.Proofs.YtloeileblkleoaaDoor
open Go.RowKit

/-- All names that stand ahead; what stands behind them. -/
def tg (ws : Ws) : Ws := ws.take (cnW ws)
def lg (ws : Ws) : Ws := ws.drop (cnW ws)

theorem tg_eq (ws : Ws) : tg ws = ws.takeWhile okN := by
  unfold tg cnW
  exact (List.prefix_iff_eq_take.1 (List.takeWhile_prefix okN)).symm
theorem tg_ok (ws : Ws) : AllN (tg ws) := by
  intro x hx
  rw [tg_eq] at hx
  exact List.all_eq_true.1 List.all_takeWhile x hx
theorem tg_lg (ws : Ws) : tg ws ++ lg ws = ws := List.take_append_drop _ _
theorem tg_len (ws : Ws) : (tg ws).length = cnW ws := by rw [tg_eq]; rfl
theorem lg_head (ws : Ws) : ∀ x, (lg ws).head? = some x → okN x = false := by
  intro x hx
  cases ho : okN x with
  | false => rfl
  | true =>
    exfalso
    have h1 := tg_eq ws
    have h2 := tg_lg ws
    cases hl : lg ws with
    | nil => rw [hl] at hx; cases hx
    | cons y q =>
      rw [hl] at hx h2
      cases hx
      have h3 : ws.takeWhile okN = tg ws ++ (x :: q).takeWhile okN := by
        conv => lhs; rw [← h2]
        exact takeWhile_ge (tg_ok ws)
      rw [List.takeWhile_cons_of_pos ho, ← h1] at h3
      have := congrArg List.length h3
      simp at this

theorem tk_small {ws : Ws} (h : cnW ws ≤ 8) : tkW ws = tg ws ∧ lfW ws = lg ws := by
  have := tk_stop (ys := tg ws) (r := lg ws) (tg_ok ws) (by rw [tg_len]; exact h) (lg_head ws)
  rw [tg_lg] at this; exact this
theorem tk_big {ws : Ws} (h : 8 < cnW ws) : ∃ x q, lfW ws = x :: q ∧ okN x = true := by
  have := tk_over (ys := tg ws) (r := lg ws) (tg_ok ws) (by rw [tg_len]; exact h)
  rw [tg_lg] at this; exact this

def gpW (x : List UInt8) (ws : Ws) : Ws × Ws × Bool := if ws.head? = some x then (tg ws.tail, lg ws.tail, !(tg ws.tail).isEmpty) else ([], ws, true)
theorem gpW_no {x : List UInt8} {ws : Ws} (h : ws.head? ≠ some x) : gpW x ws = ([], ws, true) := by unfold gpW; rw [if_neg h]
theorem gpW_yes {x : List UInt8} {ws : Ws} (h : ws.head? = some x) : gpW x ws = (tg ws.tail, lg ws.tail, !(tg ws.tail).isEmpty) := by unfold gpW; rw [if_pos h]
theorem prW_is {x : List UInt8} {ws : Ws} (h : ws.head? = some x) : prW x ws = (tkW ws.tail, lfW ws.tail, !(tkW ws.tail).isEmpty) := by unfold prW; rw [if_pos h]

def gEnd (a : Ws) (r : List UInt8) (b : Ws) (c d : Ws × Ws × Bool) : Option Bt :=
  if c.2.2 && d.2.2 && d.2.1.isEmpty && decide (b.length ≤ 8) && decide (c.1.length ≤ 8) && decide (d.1.length ≤ 8) then some (a, r, b, c.1, d.1) else none

theorem gEnd_no1 {a b : Ws} {r : List UInt8} {c d : Ws × Ws × Bool} (h : 8 < b.length) : gEnd a r b c d = none := by
  unfold gEnd; rw [if_neg]; simp; intros; omega
theorem gEnd_no2 {a b : Ws} {r : List UInt8} {c d : Ws × Ws × Bool} (h : 8 < c.1.length) : gEnd a r b c d = none := by
  unfold gEnd; rw [if_neg]; simp; intros; omega
theorem gEnd_no3 {a b : Ws} {r : List UInt8} {c d : Ws × Ws × Bool} (h : 8 < d.1.length) : gEnd a r b c d = none := by
  unfold gEnd; rw [if_neg]; simp; intros; omega
theorem gEnd_no4 {a b : Ws} {r : List UInt8} {c d : Ws × Ws × Bool} (h : c.2.2 = false) : gEnd a r b c d = none := by
  unfold gEnd; rw [if_neg]; simp [h]
theorem gEnd_no5 {a b : Ws} {r : List UInt8} {c d : Ws × Ws × Bool} (h : d.2.2 = false) : gEnd a r b c d = none := by
  unfold gEnd; rw [if_neg]; simp [h]
theorem gEnd_no6 {a b : Ws} {r : List UInt8} {c d : Ws × Ws × Bool} (h : d.2.1 ≠ []) : gEnd a r b c d = none := by
  unfold gEnd; rw [if_neg]; simp [h]
theorem gEnd_yes {a b : Ws} {r : List UInt8} {c d : Ws × Ws × Bool} (h1 : c.2.2 = true) (h2 : d.2.2 = true) (h3 : d.2.1 = []) (h4 : b.length ≤ 8) (h5 : c.1.length ≤ 8) (h6 : d.1.length ≤ 8) : gEnd a r b c d = some (a, r, b, c.1, d.1) := by
  unfold gEnd; rw [if_pos]; simp [h1, h2, h3, h4, h5, h6]

theorem pr_gp {x : List UInt8} {z : Ws} (h : ((gpW x z).1).length ≤ 8) : prW x z = gpW x z := by
  by_cases hh : z.head? = some x
  · rw [gpW_yes hh] at h ⊢
    rw [prW_is hh]
    obtain ⟨e1, e2⟩ := tk_small (ws := z.tail) (by rw [← tg_len]; exact h)
    rw [e1, e2]
  · rw [gpW_no hh, prW_no hh]
theorem pr_big {x : List UInt8} {z : Ws} (h : 8 < ((gpW x z).1).length) : ∃ c k y q, prW x z = (c, y :: q, k) ∧ okN y = true := by
  by_cases hh : z.head? = some x
  · rw [gpW_yes hh] at h
    obtain ⟨y, q, e1, e2⟩ := tk_big (ws := z.tail) (by rw [← tg_len]; exact h)
    exact ⟨_, _, y, q, by rw [prW_is hh, e1], e2⟩
  · rw [gpW_no hh] at h; simp at h

theorem end_g (a : Ws) (r : List UInt8) (z : Ws) : endW a r (tkW z) (lfW z) = gEnd a r (tg z) (gpW [124] (lg z)) (gpW [124, 124] (gpW [124] (lg z)).2.1) := by
  by_cases hb : cnW z ≤ 8
  · obtain ⟨e1, e2⟩ := tk_small hb
    rw [e1, e2]
    unfold endW
    by_cases hc : ((gpW [124] (lg z)).1).length ≤ 8
    · rw [pr_gp hc]
      unfold endP
      by_cases hd : ((gpW [124, 124] (gpW [124] (lg z)).2.1).1).length ≤ 8
      · rw [pr_gp hd]
        unfold endD gEnd
        rw [decide_eq_true (by rw [tg_len]; exact hb : (tg z).length ≤ 8), decide_eq_true hc, decide_eq_true hd, Bool.and_true, Bool.and_true, Bool.and_true]
      · obtain ⟨c, k, y, q, h1, h2⟩ := pr_big (by omega : 8 < ((gpW [124, 124] (gpW [124] (lg z)).2.1).1).length)
        rw [gEnd_no3 (by omega), h1]
        unfold endD; rw [if_neg (by simp)]
    · obtain ⟨c, k, y, q, h1, h2⟩ := pr_big (by omega : 8 < ((gpW [124] (lg z)).1).length)
      rw [gEnd_no2 (by omega), h1, endP_no h2]
  · obtain ⟨x, q, h1, h2⟩ := tk_big (by omega : 8 < cnW z)
    rw [gEnd_no1 (by rw [tg_len]; omega), h1]
    unfold endW
    rw [prW_no (name_head h2 okN_124), endP_no h2]

/-- The document's own reading is that one. -/
theorem rf_no1 {ws : Ws} (h : cnW ws < 1) : bdW ws = none := by
  refine bd_none1 ?_
  rw [(tk_small (by omega)).1]
  exact List.eq_nil_of_length_eq_zero (by rw [tg_len]; omega)
theorem rf_no2 {ws : Ws} (h : 8 < cnW ws) : bdW ws = none := by
  obtain ⟨x, q, h1, h2⟩ := tk_big h
  refine bd_none2 ?_
  rw [h1]; exact name_head h2 okN_58
theorem rf_no4 {ws : Ws} (h : cnW ws ≤ 8) (hx : (lg ws).head? ≠ some [58]) : bdW ws = none := bd_none2 (by rw [(tk_small h).2]; exact hx)
theorem rf_no5 {ws : Ws} (h : cnW ws ≤ 8) (hx : okN ((lg ws).tail.headD []) = false) : bdW ws = none := bd_none3 (by rw [(tk_small h).2]; exact hx)
theorem rf_no3 {ws : Ws} (h : cnW ws ≤ 8) (hx : ws.length ≤ cnW ws + 1) : bdW ws = none := by
  have hl : (lg ws).length ≤ 1 := by unfold lg; rw [List.length_drop]; omega
  refine rf_no5 h ?_
  cases hg : lg ws with
  | nil => rfl
  | cons x q =>
    rw [hg] at hl
    cases q with
    | nil => rfl
    | cons y p => simp at hl
theorem rf_end {ws : Ws} (h1 : 1 ≤ cnW ws) (h2 : cnW ws ≤ 8) (h3 : (lg ws).head? = some [58]) (h4 : okN ((lg ws).tail.headD []) = true) :
    bdW ws = gEnd (tg ws) ((lg ws).tail.headD []) (tg (lg ws).tail.tail) (gpW [124] (lg (lg ws).tail.tail)) (gpW [124, 124] (gpW [124] (lg (lg ws).tail.tail)).2.1) := by
  obtain ⟨e1, e2⟩ := tk_small h2
  rw [bd_endW (by rw [e1]; intro e; have := tg_len ws; rw [e] at this; simp at this; omega) (by rw [e2]; exact h3) (by rw [e2]; exact h4), e1, e2, end_g]

theorem lg_at (ws : Ws) (j : Nat) : (lg ws)[j]? = ws[cnW ws + j]? := by unfold lg; rw [List.getElem?_drop]
theorem lg_two (ws : Ws) : (lg ws).tail.tail = ws.drop (cnW ws + 2) := by
  unfold lg; rw [List.tail_drop, List.tail_drop]

end Go.Proofs.YtloeileblkleoaaDoor
