/- Plain facts on build lines that are put together of their parts, with no program in them; no conditions. -/
import Derived.Test.YtloeileblkleoaaDoorWdPlain
import Derived.Lib.Join
namespace Go.Proofs.YtloeileblkleoaaDoor
open Go.RowKit

def AllN (xs : Ws) : Prop := ∀ x ∈ xs, okN x = true

def pt (x : List UInt8) (c : Ws) : Ws := if c = [] then [] else x :: c

/-- The words of a build line of those parts. -/
def lnW (a : Ws) (r : List UInt8) (b c d : Ws) : Ws := a ++ [58] :: r :: (b ++ (pt [124] c ++ pt [124, 124] d))

theorem okN_58 : okN [58] = false := by decide +kernel
theorem okN_124 : okN [124] = false := by decide +kernel
theorem okN_124' : okN [124, 124] = false := by decide +kernel

theorem prW_no {x : List UInt8} {ws : Ws} (h : ws.head? ≠ some x) : prW x ws = ([], ws, true) := by unfold prW; rw [if_neg h]
theorem prW_yes {x : List UInt8} {ws : Ws} : prW x (x :: ws) = (tkW ws, lfW ws, !(tkW ws).isEmpty) := by unfold prW; rw [if_pos (show (x :: ws).head? = some x from rfl)]; rfl

theorem tk_nil : tkW [] = [] := rfl

theorem name_head {x y : List UInt8} {q : Ws} (h : okN x = true) (hy : okN y = false) : (x :: q).head? ≠ some y := by
  intro e; simp at e; subst e; rw [h] at hy; cases hy

theorem notEmpty {c : Ws} (h : c ≠ []) : (!c.isEmpty) = true := by cases c with
  | nil => exact absurd rfl h
  | cons x y => rfl

/-- A part at the end. -/
theorem pr_end {x : List UInt8} {d : Ws} (hd : AllN d) :
    prW x (pt x d) = (if d.length ≤ 8 then (d, [], true) else prW x (pt x d)) ∧ (8 < d.length → (prW x (pt x d)).2.1.isEmpty = false) := by
  refine ⟨?_, ?_⟩
  · split
    · next h =>
      unfold pt; split
      · next e => subst e; rfl
      · next e =>
        rw [prW_yes]
        have := tk_stop (ys := d) (r := []) hd h (fun x hx => by cases hx)
        rw [List.append_nil] at this
        rw [this.1, this.2, notEmpty e]
    · rfl
  · intro h
    unfold pt; rw [if_neg (by rintro rfl; simp at h), prW_yes]
    obtain ⟨y, q, h1, h2⟩ := tk_over (ys := d) (r := []) hd h
    rw [List.append_nil] at h1
    rw [h1]; rfl

theorem pt_head {x : List UInt8} {d : Ws} {y : List UInt8} (h : (pt x d).head? = some y) : y = x := by
  unfold pt at h; split at h
  · cases h
  · simp at h; exact h.symm

def endD (a : Ws) (r : List UInt8) (b c : Ws) (k : Bool) (q : Ws × Ws × Bool) : Option Bt := if k && q.2.2 && q.2.1.isEmpty then some (a, r, b, c, q.1) else none
def endP (a : Ws) (r : List UInt8) (b : Ws) (p : Ws × Ws × Bool) : Option Bt := endD a r b p.1 p.2.2 (prW [124, 124] p.2.1)
def endW (a : Ws) (r : List UInt8) (b z : Ws) : Option Bt := endP a r b (prW [124] z)
theorem bd_endW {ws : Ws} (h1 : tkW ws ≠ []) (h2 : (lfW ws).head? = some [58]) (h3 : okN ((lfW ws).tail.headD []) = true) :
    bdW ws = endW (tkW ws) ((lfW ws).tail.headD []) (tkW (lfW ws).tail.tail) (lfW (lfW ws).tail.tail) := bd_last h1 h2 h3
theorem endP_no {a b z : Ws} {r : List UInt8} {c : Ws} {k : Bool} {x : List UInt8} (h : okN x = true) : endP a r b (c, x :: z, k) = none := by
  unfold endP
  show endD a r b c k (prW [124, 124] (x :: z)) = none
  rw [prW_no (name_head h okN_124')]
  unfold endD; rw [if_neg (by simp)]

theorem bd_ln {a b c d : Ws} {r : List UInt8} (ha : AllN a) (hr : okN r = true) (hb : AllN b) (hc : AllN c) (hd : AllN d) :
    bdW (lnW a r b c d) = if a ≠ [] ∧ a.length ≤ 8 ∧ b.length ≤ 8 ∧ c.length ≤ 8 ∧ d.length ≤ 8 then some (a, r, b, c, d) else none := by
  unfold lnW
  by_cases ha0 : a = []
  · subst ha0
    rw [if_neg (by simp), bd_none1]
    rw [List.nil_append]
    show ((([58] :: _ : Ws)).takeWhile okN).take 8 = []
    rw [List.takeWhile_cons_of_neg (by rw [okN_58]; simp)]; rfl
  by_cases ha8 : 8 < a.length
  · obtain ⟨x, q, h1, h2⟩ := tk_over (ys := a) (r := [58] :: r :: (b ++ (pt [124] c ++ pt [124, 124] d))) ha ha8
    rw [if_neg (by omega), bd_none2]
    rw [h1]; exact name_head h2 okN_58
  obtain ⟨e1, e2⟩ := tk_stop (ys := a) (r := [58] :: r :: (b ++ (pt [124] c ++ pt [124, 124] d))) ha (by omega) (fun x hx => by simp at hx; subst hx; exact okN_58)
  rw [bd_endW (by rw [e1]; exact ha0) (by rw [e2]; rfl) (by rw [e2]; exact hr), e1, e2]
  show endW a r (tkW (b ++ (pt [124] c ++ pt [124, 124] d))) (lfW (b ++ (pt [124] c ++ pt [124, 124] d))) = _
  by_cases hb8 : 8 < b.length
  · obtain ⟨x, q, h1, h2⟩ := tk_over (ys := b) (r := pt [124] c ++ pt [124, 124] d) hb hb8
    rw [h1, if_neg (by omega)]
    unfold endW
    rw [prW_no (name_head h2 okN_124), endP_no h2]
  have hdh : ∀ x, (pt [124, 124] d).head? = some x → okN x = false := fun x hx => by rw [pt_head hx]; exact okN_124'
  have hch : ∀ x, (pt [124] c ++ pt [124, 124] d).head? = some x → okN x = false := by
    intro x hx
    by_cases hc0 : c = []
    · rw [show pt [124] c = [] by unfold pt; rw [if_pos hc0], List.nil_append] at hx; exact hdh x hx
    · rw [show pt [124] c = [124] :: c by unfold pt; rw [if_neg hc0]] at hx
      simp at hx; subst hx; exact okN_124
  obtain ⟨e3, e4⟩ := tk_stop (ys := b) (r := pt [124] c ++ pt [124, 124] d) hb (by omega) hch
  rw [e3, e4]
  obtain ⟨p1, p2⟩ := pr_end (x := [124, 124]) hd
  have last : ∀ (c' : Ws), endP a r b (c', pt [124, 124] d, true) = if d.length ≤ 8 then some (a, r, b, c', d) else none := by
    intro c'
    show endD a r b c' true (prW [124, 124] (pt [124, 124] d)) = _
    by_cases hd8 : d.length ≤ 8
    · rw [p1, if_pos hd8, if_pos hd8]; rfl
    · have := p2 (by omega)
      unfold endD
      rw [this, if_neg (by simp), if_neg hd8]
  unfold endW
  by_cases hc0 : c = []
  · subst hc0
    have hh : (pt [124] [] ++ pt [124, 124] d : Ws) = pt [124, 124] d := rfl
    rw [hh, prW_no (fun e => by have := pt_head e; cases this), last]
    by_cases hd8 : d.length ≤ 8
    · rw [if_pos hd8, if_pos ⟨ha0, by omega, by omega, by simp, hd8⟩]
    · rw [if_neg hd8, if_neg (by omega)]
  have hpc : pt [124] c = [124] :: c := by unfold pt; rw [if_neg hc0]
  rw [hpc, List.cons_append, prW_yes]
  by_cases hc8 : 8 < c.length
  · obtain ⟨x, q, h1, h2⟩ := tk_over (ys := c) (r := pt [124, 124] d) hc hc8
    rw [h1, endP_no h2, if_neg (by omega)]
  obtain ⟨e5, e6⟩ := tk_stop (ys := c) (r := pt [124, 124] d) hc (by omega) hdh
  rw [e5, e6, notEmpty hc0, last]
  by_cases hd8 : d.length ≤ 8
  · rw [if_pos hd8, if_pos ⟨ha0, by omega, by omega, by omega, hd8⟩]
  · rw [if_neg hd8, if_neg (by omega)]

theorem pr_ok (x : List UInt8) (ws : Ws) : AllN (prW x ws).1 ∧ (prW x ws).1.length ≤ 8 := by
  unfold prW; split
  · exact ⟨tk_ok, tk_len _⟩
  · exact ⟨(fun y hy => by cases hy), by simp⟩

/-- What is told of a line that is one. -/
theorem bd_some {ws a b c d : Ws} {r : List UInt8} (h : bdW ws = some (a, r, b, c, d)) :
    a ≠ [] ∧ AllN a ∧ okN r = true ∧ AllN b ∧ AllN c ∧ AllN d ∧ a.length ≤ 8 ∧ b.length ≤ 8 ∧ c.length ≤ 8 ∧ d.length ≤ 8 := by
  by_cases h1 : tkW ws = []
  · rw [bd_none1 h1] at h; cases h
  by_cases h2 : (lfW ws).head? ≠ some [58]
  · rw [bd_none2 h2] at h; cases h
  cases h3 : okN ((lfW ws).tail.headD [])
  · rw [bd_none3 h3] at h; cases h
  rw [bd_last h1 (Classical.not_not.1 h2) h3] at h
  split at h
  · cases h
    obtain ⟨p1, p2⟩ := pr_ok [124] (lfW (lfW ws).tail.tail)
    obtain ⟨p3, p4⟩ := pr_ok [124, 124] (prW [124] (lfW (lfW ws).tail.tail)).2.1
    exact ⟨h1, tk_ok, h3, tk_ok, p1, p3, tk_len _, tk_len _, p2, p4⟩
  · cases h

theorem wdL_name {x : List UInt8} (h : okN x = true) : wdL x = [x] := by
  rw [wdL_plain (okN_32 h)]; unfold one; rw [if_neg (okN_ne h)]

theorem wd_tail : ∀ (r : Ws) (y : List UInt8), AllN r → wdL (y ++ Lib.joinTail [32] r) = wdL y ++ r
  | [], y, _ => by simp [Lib.joinTail]
  | b :: r, y, h => by
    have e : Lib.joinTail [32] (b :: r) = 32 :: (b ++ Lib.joinTail [32] r) := by simp [Lib.joinTail]
    rw [e, wdL_app, wd_tail r b (fun x hx => h x (List.mem_cons_of_mem _ hx)), wdL_name (h b (by simp))]; rfl
theorem wd_join {xs : Ws} (h : AllN xs) : wdL (Lib.join xs [32]) = xs := by
  cases xs with
  | nil => rfl
  | cons x r =>
    rw [Lib.join_cons, wd_tail r x (fun y hy => h y (List.mem_cons_of_mem _ hy)), wdL_name (h x (by simp))]; rfl
theorem join_le {xs : Ws} (h : AllN xs) : (Lib.join xs [32]).length ≤ 17 * xs.length := by
  cases xs with
  | nil => simp [Lib.join_nil]
  | cons x r =>
    rw [Lib.join_cons, List.length_append]
    have h1 := (okN_len (h x (by simp))).2.1
    have : ∀ r : Ws, AllN r → (Lib.joinTail [32] r).length ≤ 17 * r.length := by
      intro r
      induction r with
      | nil => intro _; simp [Lib.joinTail]
      | cons b r ih =>
        intro hr
        have e : Lib.joinTail [32] (b :: r) = 32 :: (b ++ Lib.joinTail [32] r) := by simp [Lib.joinTail]
        have h2 := (okN_len (hr b (by simp))).2.1
        have h3 := ih (fun y hy => hr y (List.mem_cons_of_mem _ hy))
        rw [e]; simp only [List.length_cons, List.length_append]; omega
    have h2 := this r (fun y hy => h y (List.mem_cons_of_mem _ hy))
    simp only [List.length_cons]; omega

/-- One more word, and names behind it. -/
theorem wd_part {u x : List UInt8} {c : Ws} (hx : 32 ∉ x) (hx0 : x ≠ []) (hc : AllN c) : wdL (u ++ 32 :: (x ++ 32 :: Lib.join c [32])) = wdL u ++ x :: c := by
  rw [wdL_app, wdL_app, wd_join hc, wdL_plain hx]; unfold one; rw [if_neg hx0]; rfl

theorem wd_head {a b : Ws} {r : List UInt8} (ha : AllN a) (hr : okN r = true) (hb : AllN b) : wdL (Lib.join a [32] ++ [32, 58, 32] ++ r ++ [32] ++ Lib.join b [32]) = a ++ [58] :: r :: b := by
  have e : Lib.join a [32] ++ [32, 58, 32] ++ r ++ [32] ++ Lib.join b [32] = Lib.join a [32] ++ 32 :: ([58] ++ 32 :: (r ++ 32 :: Lib.join b [32])) := by simp
  rw [e, wdL_app, wdL_app, wdL_app, wd_join ha, wd_join hb, wdL_name hr, wdL_plain (by decide)]
  rfl

/-- A text that ends in a blank, and its words. -/
def Gp (s : List UInt8) (ws : Ws) : Prop := wdL s = ws ∧ ∃ u, s = u ++ [32]
theorem wdL_reps : ∀ m : Nat, wdL (List.replicate m 32) = []
  | 0 => rfl
  | m + 1 => by rw [List.replicate_succ, wdL_blank]; exact wdL_reps m
theorem Gp.start {m : Nat} (hm : 1 ≤ m) : Gp (List.replicate m 32) [] :=
  ⟨wdL_reps m, List.replicate (m - 1) 32, by obtain ⟨k, rfl⟩ : ∃ k, m = k + 1 := ⟨m - 1, by omega⟩; rw [List.replicate_succ']; rfl⟩
theorem Gp.next {s x : List UInt8} {ws : Ws} {m : Nat} (h : Gp s ws) (hm : 1 ≤ m) (hx : 32 ∉ x) (hx0 : x ≠ []) : Gp (s ++ x ++ List.replicate m 32) (ws ++ [x]) := by
  obtain ⟨h1, u, rfl⟩ := h
  obtain ⟨k, rfl⟩ : ∃ k, m = k + 1 := ⟨m - 1, by omega⟩
  refine ⟨?_, u ++ [32] ++ x ++ List.replicate k 32, by rw [List.replicate_succ']; simp⟩
  rw [wdL_end] at h1
  rw [show u ++ [32] ++ x ++ List.replicate (k + 1) 32 = u ++ 32 :: (x ++ 32 :: List.replicate k 32) by rw [List.replicate_succ]; simp]
  rw [wdL_app, wdL_app, wdL_reps, wdL_plain hx, h1]; unfold one; rw [if_neg hx0]; simp

end Go.Proofs.YtloeileblkleoaaDoor
