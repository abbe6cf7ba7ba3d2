/- Plain facts on words between blanks and on a build line's parts, with no program in them; no conditions. -/
import Derived.Test.YtgbegdgacjodcaaDoorSpPlain
import Derived.Test.YtgbegdgacjodcaaDoorNmPlain
import Derived.Lib.TrimByte
namespace Go.Proofs.YtgbegdgacjodcaaDoor
open Go.RowKit

abbrev Ws := List (List UInt8)

/-- A name, as bytes. -/
def okN (l : List UInt8) : Bool := decide (1 ≤ l.length) && decide (l.length ≤ 16) && allOk l

theorem may_okN (s : ByteArray) : mayB s = okN (bl s) := by
  unfold mayB okN; rw [bl_size]; rfl

theorem okN_len {l : List UInt8} (h : okN l = true) : 1 ≤ l.length ∧ l.length ≤ 16 ∧ allOk l = true := by
  unfold okN at h; simp at h; exact ⟨h.1.1, h.1.2, h.2⟩
theorem okN_ne {l : List UInt8} (h : okN l = true) : l ≠ [] := by
  rintro rfl; simp [okN] at h
theorem okN_no {l : List UInt8} (h : okN l = true) (d : UInt8) (hd : okb d.toNat = false) : d ∉ l := by
  intro hm
  have := List.all_eq_true.1 (okN_len h).2.2 d hm
  rw [hd] at this; cases this
theorem okN_32 {l : List UInt8} (h : okN l = true) : 32 ∉ l := okN_no h 32 (by decide)

/-- The words of a text. -/
def wdL (l : List UInt8) : Ws := (spc 32 l).filter fun x => !x.isEmpty

def one (x : List UInt8) : Ws := if x = [] then [] else [x]

theorem wdL_nil : wdL [] = [] := rfl
theorem wdL_plain {x : List UInt8} (h : 32 ∉ x) : wdL x = one x := by
  unfold wdL one; rw [spc_plain 32 x h]; cases x <;> simp
theorem wdL_app (a b : List UInt8) : wdL (a ++ 32 :: b) = wdL a ++ wdL b := by
  unfold wdL; rw [spc_app, List.filter_append]
theorem wdL_blank (b : List UInt8) : wdL (32 :: b) = wdL b := by
  have := wdL_app [] b; simpa [wdL_nil] using this
theorem wdL_end (a : List UInt8) : wdL (a ++ [32]) = wdL a := by
  have := wdL_app a []; simpa [wdL_nil] using this
theorem wdL_trim : ∀ l : List UInt8, wdL (Lib.trimLeftB l 32) = wdL l
  | [] => rfl
  | c :: r => by
    unfold Lib.trimLeftB
    by_cases h : c = 32
    · subst h; rw [List.dropWhile_cons_of_pos (by simp), wdL_blank]; exact wdL_trim r
    · rw [List.dropWhile_cons_of_neg (by simpa using h)]
theorem trim_head (l r : List UInt8) : Lib.trimLeftB l 32 ≠ 32 :: r := by
  intro h
  unfold Lib.trimLeftB at h
  have := List.head?_dropWhile_not (fun x : UInt8 => x == 32) l
  rw [h] at this
  simp at this

theorem wdL_ne {l : List UInt8} : ∀ x ∈ wdL l, x ≠ [] := by
  intro x hx
  unfold wdL at hx
  have := (List.mem_filter.1 hx).2
  rintro rfl; simp at this

theorem spc_no (d : UInt8) : ∀ (l : List UInt8), ∀ x ∈ spc d l, d ∉ x
  | [], x, h => by simp [spc] at h; subst h; simp
  | c :: r, x, h => by
    rw [spc] at h
    by_cases hc : c = d
    · rw [if_pos hc] at h
      rcases List.mem_cons.1 h with rfl | h
      · simp
      · exact spc_no d r x h
    · rw [if_neg hc] at h
      cases hs : spc d r with
      | nil => exact absurd hs (spc_ne d r)
      | cons y z =>
        rw [hs] at h
        rcases List.mem_cons.1 h with rfl | h
        · have := spc_no d r y (by rw [hs]; simp)
          simp only [List.headD_cons, List.mem_cons, not_or]
          exact ⟨fun e => hc e.symm, this⟩
        · exact spc_no d r x (by rw [hs]; exact List.mem_cons_of_mem _ h)

/-- The first word's step, no blank behind it. -/
theorem next_none {l : List UInt8} (h : Lib.index (Lib.trimLeftB l 32) [32] = -1) : wdL l = one (Lib.trimLeftB l 32) := by
  rw [← wdL_trim, wdL_plain (idx_none 32 _ h)]

theorem next_some {l : List UInt8} {i : Nat} (h : Lib.index (Lib.trimLeftB l 32) [32] = i) :
    i < (Lib.trimLeftB l 32).length ∧ wdL l = (Lib.trimLeftB l 32).take i :: wdL ((Lib.trimLeftB l 32).drop i) ∧ (Lib.trimLeftB l 32).take i ≠ [] := by
  obtain ⟨h1, h2, h3⟩ := idx_some 32 _ i h
  have hn : (Lib.trimLeftB l 32).take i ≠ [] := by
    intro e; rw [e] at h2; exact trim_head l _ h2
  refine ⟨h1, ?_, hn⟩
  have hd : (Lib.trimLeftB l 32).drop i = 32 :: (Lib.trimLeftB l 32).drop (i + 1) := by
    have e := congrArg (List.drop i) h2
    rw [List.drop_append] at e
    rw [e]; simp
    rw [show i - min i (Lib.trimLeftB l 32).length = 0 by omega]
    rfl
  rw [hd, wdL_blank, ← wdL_trim]
  conv => lhs; rw [h2]
  rw [wdL_app, wdL_plain h3]
  unfold one; rw [if_neg hn]; rfl

/-- What a row of words looks like in memory: the first one, and a text whose words are the others. -/
def StW (a b : List UInt8) (ws : Ws) : Prop := a = ws.headD [] ∧ wdL b = ws.tail ∧ ∀ x ∈ ws, x ≠ []

theorem StW.of_none {l : List UInt8} (h : Lib.index (Lib.trimLeftB l 32) [32] = -1) : StW (Lib.trimLeftB l 32) [] (wdL l) := by
  refine ⟨?_, ?_, wdL_ne⟩
  · rw [next_none h]; unfold one; split
    · next e => rw [e]; rfl
    · rfl
  · rw [next_none h, wdL_nil]; unfold one; split <;> rfl
theorem StW.of_some {l : List UInt8} {i : Nat} (h : Lib.index (Lib.trimLeftB l 32) [32] = i) : StW ((Lib.trimLeftB l 32).take i) ((Lib.trimLeftB l 32).drop i) (wdL l) := by
  obtain ⟨h1, h2, h3⟩ := next_some h
  exact ⟨by rw [h2]; rfl, by rw [h2]; rfl, wdL_ne⟩

theorem StW.of_nil {a b : List UInt8} {ws : Ws} (h : StW a b ws) : (a = []) = (ws = []) := by
  obtain ⟨h1, h2, h3⟩ := h
  cases ws with
  | nil => simp [h1]
  | cons x r =>
    have := h3 x (by simp)
    simp only [List.headD_cons] at h1
    subst h1
    simp [this]
theorem StW.is {a b : List UInt8} {ws : Ws} (h : StW a b ws) (x : List UInt8) (hx : x ≠ []) : (a = x) = (ws.head? = some x) := by
  obtain ⟨h1, h2, h3⟩ := h
  cases ws with
  | nil => simp only [List.headD_nil] at h1; subst h1; simp [Ne.symm hx]
  | cons y r => simp only [List.headD_cons] at h1; subst h1; simp

/-- AtW most eight names that stand ahead, and what stands behind them. -/
def tkW (ws : Ws) : Ws := (ws.takeWhile okN).take 8
def lfW (ws : Ws) : Ws := ws.drop (tkW ws).length

theorem tk_ok {ws : Ws} : ∀ x ∈ tkW ws, okN x = true := by
  intro x hx
  have h1 := List.mem_of_mem_take hx
  exact List.all_eq_true.1 List.all_takeWhile x h1
theorem tk_len (ws : Ws) : (tkW ws).length ≤ 8 := by unfold tkW; rw [List.length_take]; omega

theorem takeWhile_of {p : List UInt8 → Bool} {ys r : Ws} (h : ∀ y ∈ ys, p y = true) (hr : ∀ x, r.head? = some x → p x = false) : (ys ++ r).takeWhile p = ys := by
  induction ys with
  | nil =>
    cases r with
    | nil => rfl
    | cons x r => rw [List.nil_append, List.takeWhile_cons_of_neg]; rw [hr x rfl]; simp
  | cons y ys ih =>
    rw [List.cons_append, List.takeWhile_cons_of_pos (h y (by simp)), ih (fun z hz => h z (List.mem_cons_of_mem _ hz))]

theorem takeWhile_ge {p : List UInt8 → Bool} {ys r : Ws} (h : ∀ y ∈ ys, p y = true) : (ys ++ r).takeWhile p = ys ++ r.takeWhile p := by
  induction ys with
  | nil => rfl
  | cons y ys ih =>
    rw [List.cons_append, List.takeWhile_cons_of_pos (h y (by simp)), ih (fun z hz => h z (List.mem_cons_of_mem _ hz))]; rfl

theorem tk_full {ys r : Ws} (h : ∀ y ∈ ys, okN y = true) (hl : ys.length = 8) : tkW (ys ++ r) = ys ∧ lfW (ys ++ r) = r := by
  have e : tkW (ys ++ r) = ys := by
    unfold tkW; rw [takeWhile_ge h, List.take_append_of_le_length (by omega), List.take_of_length_le (by omega)]
  refine ⟨e, ?_⟩
  unfold lfW; rw [e, List.drop_left]
theorem tk_stop {ys r : Ws} (h : ∀ y ∈ ys, okN y = true) (hl : ys.length ≤ 8) (hr : ∀ x, r.head? = some x → okN x = false) : tkW (ys ++ r) = ys ∧ lfW (ys ++ r) = r := by
  have e : tkW (ys ++ r) = ys := by
    unfold tkW; rw [takeWhile_of h hr, List.take_of_length_le (by omega)]
  refine ⟨e, ?_⟩
  unfold lfW; rw [e, List.drop_left]
theorem tk_over {ys r : Ws} (h : ∀ y ∈ ys, okN y = true) (hl : 8 < ys.length) : ∃ x q, lfW (ys ++ r) = x :: q ∧ okN x = true := by
  have e : tkW (ys ++ r) = ys.take 8 := by
    unfold tkW; rw [takeWhile_ge h, List.take_append_of_le_length (by omega)]
  have e2 : lfW (ys ++ r) = ys.drop 8 ++ r := by
    unfold lfW; rw [e, List.length_take, show min 8 ys.length = 8 by omega, List.drop_append_of_le_length (by omega)]
  rw [e2, List.drop_eq_getElem_cons hl]
  exact ⟨_, _, rfl, h _ (List.getElem_mem _)⟩

/-- A sign and the names behind it, if the sign stands there: what is taken, what is left, whether it may be. -/
def prW (x : List UInt8) (ws : Ws) : Ws × Ws × Bool :=
  if ws.head? = some x then (tkW ws.tail, lfW ws.tail, !(tkW ws.tail).isEmpty) else ([], ws, true)

abbrev Bt := Ws × List UInt8 × Ws × Ws × Ws

/-- A build line, as words. -/
def bdW (ws : Ws) : Option Bt :=
  let a := tkW ws
  let r1 := lfW ws
  if a.isEmpty || !(r1.head? == some [58]) then none else
  let r2 := r1.tail
  let rule := r2.headD []
  if !okN rule then none else
  let r3 := r2.tail
  let b := tkW r3
  let c := prW [124] (lfW r3)
  let d := prW [124, 124] c.2.1
  if c.2.2 && d.2.2 && d.2.1.isEmpty then some (a, rule, b, c.1, d.1) else none

theorem bd_none1 {ws : Ws} (h : tkW ws = []) : bdW ws = none := by
  unfold bdW; simp [h]
theorem bd_none2 {ws : Ws} (h : (lfW ws).head? ≠ some [58]) : bdW ws = none := by
  unfold bdW; simp [h]
theorem bd_none3 {ws : Ws} (h : okN ((lfW ws).tail.headD []) = false) : bdW ws = none := by
  unfold bdW
  simp only [h]
  split <;> rfl
theorem bd_last {ws : Ws} (h1 : tkW ws ≠ []) (h2 : (lfW ws).head? = some [58]) (h3 : okN ((lfW ws).tail.headD []) = true) :
    bdW ws = (if (prW [124] (lfW (lfW ws).tail.tail)).2.2 && (prW [124, 124] (prW [124] (lfW (lfW ws).tail.tail)).2.1).2.2 && (prW [124, 124] (prW [124] (lfW (lfW ws).tail.tail)).2.1).2.1.isEmpty then
      some (tkW ws, (lfW ws).tail.headD [], tkW (lfW ws).tail.tail, (prW [124] (lfW (lfW ws).tail.tail)).1, (prW [124, 124] (prW [124] (lfW (lfW ws).tail.tail)).2.1).1) else none) := by
  unfold bdW
  have e1 : (tkW ws).isEmpty = false := by cases h : tkW ws with
    | nil => exact absurd h h1
    | cons x y => rfl
  have e2 : ((lfW ws).head? == some [58]) = true := by rw [h2]; rfl
  simp only [e1, e2, h3]
  rfl

def btS (x : Option Bt) : Bt := x.getD ([], [], [], [], [])
def btE (x : Option Bt) : Int := if x.isSome then 0 else 700

def bdR (l : List UInt8) : Option Bt := bdW (wdL l)

end Go.Proofs.YtgbegdgacjodcaaDoor
