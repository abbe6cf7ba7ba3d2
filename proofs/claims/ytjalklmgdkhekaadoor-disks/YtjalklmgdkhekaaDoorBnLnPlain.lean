/- Several texts of mine in one: PcPlain, LnPlain. -/
import Derived.Test.YtjalklmgdkhekaaDoorBnIxWalks
import Derived.Test.YtjalklmgdkhekaaDoorSpPlain
import Derived.Lib.TrimByte
/- Plain facts on texts with variables, with no program in them: how they are cut into pieces; no conditions. -/
namespace Go.Proofs.YtjalklmgdkhekaaDoor
open Go.RowKit

/-- May the byte stand in a variable's name? -/
def vb (c : UInt8) : Bool := smallB (c.toNat : Int) || decide ((c.toNat : Int) = 95)

def nlen : List UInt8 → Nat
  | [] => 0
  | c :: r => if vb c then nlen r + 1 else 0

/-- A part of a text: a byte of text, or a variable's name. -/
abbrev Tok := UInt8 ⊕ List UInt8

/-- What a text begins with, and how many bytes stand for it. -/
def tk : List UInt8 → Option (Tok × Nat)
  | [] => none
  | c :: r =>
    if c ≠ 36 then some (.inl c, 1) else
    match r with
    | [] => none
    | d :: r' =>
      if d = 36 ∨ d = 32 ∨ d = 58 then some (.inl d, 2) else
      if d = 123 then (if 1 ≤ nlen r' ∧ nlen r' ≤ 16 ∧ r'[nlen r']? = some 125 then some (.inr (r'.take (nlen r')), nlen r' + 3) else none)
      else (if 1 ≤ nlen (d :: r') ∧ nlen (d :: r') ≤ 16 then some (.inr ((d :: r').take (nlen (d :: r'))), nlen (d :: r') + 1) else none)

def tksF : Nat → List UInt8 → Option (List Tok)
  | _, [] => some []
  | 0, _ :: _ => none
  | n + 1, c :: r => match tk (c :: r) with
    | none => none
    | some (x, k) => (tksF n ((c :: r).drop k)).map (x :: ·)

def tks (l : List UInt8) : Option (List Tok) := tksF l.length l

abbrev Pc := Bool × List UInt8

def add (ps : List Pc) : Tok → List Pc
  | .inl c => match ps.getLast? with
    | some (false, l) => ps.dropLast ++ [(false, l ++ [c])]
    | _ => ps ++ [(false, [c])]
  | .inr n => ps ++ [(true, n)]

def addAll (ps : List Pc) (ts : List Tok) : List Pc := ts.foldl add ps

def plainL (l : List UInt8) : Bool := l.all fun c => decide (32 ≤ (c.toNat : Int)) && decide ((c.toNat : Int) ≤ 126)

/-- The document's cut. -/
def cutL (l : List UInt8) : Option (List Pc) :=
  if l.length ≤ 2048 ∧ plainL l = true then (tks l).map (addAll []) else none

def cutP (l : List UInt8) : List Pc := (cutL l).getD []
def cutE (l : List UInt8) : Int := if (cutL l).isSome then 0 else 300

theorem nlen_le : ∀ l : List UInt8, nlen l ≤ l.length
  | [] => by simp [nlen]
  | c :: r => by have := nlen_le r; unfold nlen; split <;> simp <;> omega

theorem tk_pos {l : List UInt8} {x : Tok} {k : Nat} (h : tk l = some (x, k)) : 1 ≤ k ∧ k ≤ l.length := by
  unfold tk at h
  split at h
  · cases h
  · rename_i c r
    split at h
    · simp at h; obtain ⟨_, rfl⟩ := h; simp
    · split at h
      · cases h
      · rename_i d r'
        split at h
        · simp at h; obtain ⟨_, rfl⟩ := h; simp
        · split at h
          · split at h
            · rename_i hk
              have hl : nlen r' < r'.length := (List.getElem?_eq_some_iff.1 hk.2.2).1
              simp at h; obtain ⟨_, rfl⟩ := h; simp; omega
            · cases h
          · split at h
            · have hl := nlen_le (d :: r')
              simp at h; obtain ⟨_, rfl⟩ := h; simp at hl ⊢; omega
            · cases h

theorem tksF_more : ∀ (n m : Nat) (l : List UInt8), l.length ≤ n → l.length ≤ m → tksF n l = tksF m l
  | _, _, [], _, _ => by simp [tksF]
  | 0, _, c :: r, h, _ => by simp at h
  | _ + 1, 0, c :: r, _, h => by simp at h
  | n + 1, m + 1, c :: r, h1, h2 => by
    unfold tksF
    cases ht : tk (c :: r) with
    | none => rfl
    | some xk =>
      obtain ⟨x, k⟩ := xk
      have hk := tk_pos ht
      simp only
      rw [tksF_more n m ((c :: r).drop k) (by simp at h1 ⊢; omega) (by simp at h2 ⊢; omega)]

theorem tks_nil : tks [] = some [] := rfl
theorem tks_step {l : List UInt8} {x : Tok} {k : Nat} (h : tk l = some (x, k)) : tks l = (tks (l.drop k)).map (x :: ·) := by
  cases l with
  | nil => simp [tk] at h
  | cons c r =>
    have hk := tk_pos h
    unfold tks
    rw [List.length_cons, tksF, h]
    simp only
    rw [tksF_more r.length ((c :: r).drop k).length _ (by simp at hk ⊢; omega) (Nat.le_refl _)]
theorem tks_none {l : List UInt8} (hl : l ≠ []) (h : tk l = none) : tks l = none := by
  cases l with
  | nil => exact absurd rfl hl
  | cons c r => unfold tks; rw [List.length_cons, tksF, h]

/-- Under way: what is read, what is left. -/
def At (l : List UInt8) (i : Nat) (pre : List Tok) : Prop := tks l = (tks (l.drop i)).map (pre ++ ·)

theorem At.start (l : List UInt8) : At l 0 [] := by unfold At; simp
theorem At.step {l : List UInt8} {i : Nat} {pre : List Tok} {x : Tok} {k : Nat} (h : At l i pre) (ht : tk (l.drop i) = some (x, k)) : At l (i + k) (pre ++ [x]) := by
  unfold At at *
  rw [h, tks_step ht, List.drop_drop, Option.map_map]
  congr 1
  funext a; simp
theorem At.fail {l : List UInt8} {i : Nat} {pre : List Tok} (h : At l i pre) (hi : i < l.length) (ht : tk (l.drop i) = none) : tks l = none := by
  unfold At at h
  rw [h, tks_none (by intro e; have := congrArg List.length e; simp at this; omega) ht]; rfl
theorem At.done {l : List UInt8} {i : Nat} {pre : List Tok} (h : At l i pre) (hi : l.length ≤ i) : tks l = some pre := by
  unfold At at h
  rw [h, List.drop_eq_nil_of_le hi, tks_nil]; simp

theorem addAll_snoc (ps : List Pc) (ts : List Tok) (x : Tok) : addAll ps (ts ++ [x]) = add (addAll ps ts) x := by unfold addAll; simp
theorem addAll_app (ps : List Pc) (ts us : List Tok) : addAll ps (ts ++ us) = addAll (addAll ps ts) us := by unfold addAll; simp

/-- What is cut, with text under way. -/
def flush (cs : List Pc) (tb : List UInt8) : List Pc := if tb = [] then cs else cs ++ [(false, tb)]
def noText (cs : List Pc) : Prop := ∀ l, cs.getLast? ≠ some (false, l)

theorem noText_nil : noText [] := by intro l; simp
theorem noText_var (cs : List Pc) (n : List UInt8) : noText (cs ++ [(true, n)]) := by intro l; simp

theorem add_t_flush {cs : List Pc} {tb : List UInt8} (h : noText cs) (c : UInt8) : add (flush cs tb) (.inl c) = flush cs (tb ++ [c]) := by
  unfold flush add
  by_cases ht : tb = []
  · subst ht
    simp only [if_true, List.nil_append]
    rw [if_neg (by simp)]
    split
    · rename_i l hl; exact absurd hl (h l)
    · rfl
  · rw [if_neg ht, if_neg (by simp)]
    simp
theorem add_v_flush {cs : List Pc} {tb : List UInt8} (n : List UInt8) : add (flush cs tb) (.inr n) = flush cs tb ++ [(true, n)] := rfl
theorem flush_nil (cs : List Pc) : flush cs [] = cs := by simp [flush]
theorem flush_some (cs : List Pc) (tb : List UInt8) (h : tb ≠ []) : flush cs tb = cs ++ [(false, tb)] := by simp [flush, h]

theorem flush_len (cs : List Pc) (tb : List UInt8) : (flush cs tb).length ≤ cs.length + tb.length ∧ cs.length ≤ (flush cs tb).length := by
  unfold flush
  split
  · omega
  · rename_i h
    have := List.length_pos_iff.2 h
    simp; omega

theorem cut_of {l : List UInt8} {ts : List Tok} (h1 : l.length ≤ 2048) (h2 : plainL l = true) (h : tks l = some ts) : cutP l = addAll [] ts ∧ cutE l = 0 := by
  unfold cutP cutE cutL
  rw [if_pos ⟨h1, h2⟩, h]; simp
theorem cut_bad {l : List UInt8} (h : tks l = none) : cutP l = [] ∧ cutE l = 300 := by
  unfold cutP cutE cutL
  split <;> simp [h]
theorem cut_long {l : List UInt8} (h : 2048 < l.length) : cutP l = [] ∧ cutE l = 300 := by
  unfold cutP cutE cutL
  rw [if_neg (by omega)]; simp
theorem cut_odd {l : List UInt8} (h : plainL l = false) : cutP l = [] ∧ cutE l = 300 := by
  unfold cutP cutE cutL
  rw [if_neg (by rw [h]; simp)]; simp

/-- How long pieces are. -/
def most (n : Nat) (ps : List Pc) : Prop := ∀ p ∈ ps, p.2.length ≤ n
theorem most_nil (n : Nat) : most n [] := by intro p hp; simp at hp
theorem most_mono {n m : Nat} {ps : List Pc} (h : most n ps) (hm : n ≤ m) : most m ps := fun p hp => Nat.le_trans (h p hp) hm
theorem most_snoc {n : Nat} {ps : List Pc} {p : Pc} (h : most n ps) (hp : p.2.length ≤ n) : most n (ps ++ [p]) := by
  intro q hq
  rcases List.mem_append.1 hq with hq | hq
  · exact h q hq
  · rw [List.mem_singleton.1 hq]; exact hp
theorem most_t {n : Nat} {ps : List Pc} (h : most n ps) (c : UInt8) : most (n + 1) (add ps (.inl c)) := by
  unfold add
  simp only
  split
  · rename_i l hl
    have hm : (false, l) ∈ ps := List.mem_of_getLast? hl
    refine most_snoc (fun p hp => Nat.le_trans (h p ((List.dropLast_sublist _).subset hp)) (by omega)) ?_
    have := h _ hm; simp at this ⊢; omega
  · exact most_snoc (most_mono h (by omega)) (by simp)
theorem add_len (ps : List Pc) (x : Tok) : (add ps x).length ≤ ps.length + 1 := by
  cases x with
  | inr n => simp [add]
  | inl c =>
    unfold add; simp only; split
    · simp
    · simp

/-- The variable that a text begins with: its name, how many bytes stand for it; 0: there is none. -/
def vr (l : List UInt8) : List UInt8 × Nat :=
  if l.take 2 = [36, 123] then (if 1 ≤ nlen (l.drop 2) ∧ nlen (l.drop 2) ≤ 16 ∧ (l.drop 2)[nlen (l.drop 2)]? = some 125 then ((l.drop 2).take (nlen (l.drop 2)), nlen (l.drop 2) + 3) else ([], 0))
  else (if 1 ≤ nlen (l.drop 1) ∧ nlen (l.drop 1) ≤ 16 then ((l.drop 1).take (nlen (l.drop 1)), nlen (l.drop 1) + 1) else ([], 0))

def escB (d : UInt8) : Bool := d == 36 || d == 32 || d == 58

theorem vr_tk {l : List UInt8} (h0 : l.head? = some 36) (h1 : ∀ d, l[1]? = some d → escB d = false) :
    ((vr l).2 = 0 ∧ tk l = none) ∨ (1 ≤ (vr l).2 ∧ (vr l).1.length ≤ 16 ∧ tk l = some (.inr (vr l).1, (vr l).2)) := by
  cases l with
  | nil => simp at h0
  | cons c r =>
    simp at h0; subst h0
    cases r with
    | nil => left; decide
    | cons d r' =>
      have hd : ¬ (d = 36 ∨ d = 32 ∨ d = 58) := by
        have := h1 d (by simp)
        unfold escB at this; simp at this
        rintro (h | h | h) <;> simp_all
      unfold tk
      simp only [ne_eq, not_true_eq_false, if_false, if_neg hd]
      unfold vr
      by_cases hb : d = 123
      · subst hb
        simp only [List.take_succ_cons, List.take_zero, if_true, List.drop_succ_cons, List.drop_zero]
        split
        · rename_i hk; right; simp; omega
        · left; simp
      · simp only [List.take_succ_cons, List.take_zero, List.drop_succ_cons, List.drop_zero, List.cons.injEq, true_and, and_true, if_neg hb]
        split
        · rename_i hk; right; refine ⟨by simp, ?_, rfl⟩; simp; omega
        · left; simp

theorem tk_text {l : List UInt8} {c : UInt8} (h : l.head? = some c) (hc : c ≠ 36) : tk l = some (.inl c, 1) := by
  cases l with
  | nil => simp at h
  | cons a r => simp at h; subst h; simp [tk, hc]
theorem tk_esc {l : List UInt8} {d : UInt8} (h : l.head? = some 36) (h1 : l[1]? = some d) (hd : escB d = true) : tk l = some (.inl d, 2) := by
  cases l with
  | nil => simp at h
  | cons a r =>
    simp at h; subst h
    cases r with
    | nil => simp at h1
    | cons b r' =>
      simp at h1; subst h1
      unfold tk
      have : b = 36 ∨ b = 32 ∨ b = 58 := by unfold escB at hd; simp at hd; rcases hd with (h | h) | h <;> simp [h]
      simp [this]

theorem nlen_yes {l : List UInt8} {p : Nat} {c : UInt8} (h : l[p]? = some c) (hv : vb c = true) : nlen (l.drop p) = nlen (l.drop (p + 1)) + 1 := by
  obtain ⟨hp, he⟩ := List.getElem?_eq_some_iff.1 h
  rw [List.drop_eq_getElem_cons hp, he]
  conv => lhs; unfold nlen
  rw [if_pos hv]
theorem nlen_no {l : List UInt8} {p : Nat} {c : UInt8} (h : l[p]? = some c) (hv : vb c = false) : nlen (l.drop p) = 0 := by
  obtain ⟨hp, he⟩ := List.getElem?_eq_some_iff.1 h
  rw [List.drop_eq_getElem_cons hp, he]
  unfold nlen
  rw [if_neg (by rw [hv]; decide)]
theorem nlen_end {l : List UInt8} {p : Nat} (h : l.length ≤ p) : nlen (l.drop p) = 0 := by
  rw [List.drop_eq_nil_of_le h]; rfl

theorem plainL_app (a b : List UInt8) : plainL (a ++ b) = (plainL a && plainL b) := by simp [plainL]

end Go.Proofs.YtjalklmgdkhekaaDoor

/- Plain facts on a manifest's lines: what a text is cut into, with no program in them; no conditions. -/
namespace Go.Proofs.YtjalklmgdkhekaaDoor
open Go.RowKit

abbrev Ln := Bool × List UInt8

/-- Does a row end with an odd number of 36? -/
def goL (l : List UInt8) : Bool := (l.length - (Lib.trimRightB l 36).length) % 2 == 1
def frL (l : List UInt8) : List UInt8 := Lib.trimLeftB l 32
def trL (l : List UInt8) : List UInt8 := Lib.trimB l 32
/-- A row, as it is joined: b: there is something ahead of it. -/
def rowL (b : Bool) (r : List UInt8) : List UInt8 := if b then frL r else r
def lnOf (t : List UInt8) : Option Ln := if trL t = [] ∨ (trL t).head? = some 35 then none else some (decide (t.head? = some 32), trL t)

/-- The lines of rows, a: what is joined so far. -/
def cutR : Bool → List UInt8 → List (List UInt8) → Option (List Ln)
  | b, _, [] => if b then none else some []
  | b, a, r :: rs => if goL (rowL b r) then cutR true (a ++ (rowL b r).dropLast) rs else (cutR false [] rs).map ((lnOf (a ++ rowL b r)).toList ++ ·)

/-- The line that rows begin with, and how many it takes. -/
def jn : Bool → List UInt8 → List (List UInt8) → Option (List UInt8 × Nat)
  | _, _, [] => none
  | b, a, r :: rs => if goL (rowL b r) then (jn true (a ++ (rowL b r).dropLast) rs).map (fun x => (x.1, x.2 + 1)) else some (a ++ rowL b r, 1)

def endL (l : List UInt8) : Bool := l.isEmpty || l.getLast? == some 10
def lnT (l : List UInt8) : Option (List Ln) := if endL l && plainL (without 10 l) then cutR false [] (spc 10 l).dropLast else none
def lnC (l : List UInt8) : Option (List Ln) := if l.length ≤ 2048 then lnT l else none
def lnS (l : List UInt8) : List Ln := (lnC l).getD []
def lnE (l : List UInt8) : Int := if (lnC l).isSome then 0 else 600

theorem ln_bad {l : List UInt8} (h : lnC l = none) : lnS l = [] ∧ lnE l = 600 := by unfold lnS lnE; rw [h]; exact ⟨rfl, rfl⟩
theorem ln_good {l : List UInt8} {x : List Ln} (h : lnC l = some x) : lnS l = x ∧ lnE l = 0 := by unfold lnS lnE; rw [h]; exact ⟨rfl, rfl⟩
theorem ln_long {l : List UInt8} (h : 2048 < l.length) : lnC l = none := by unfold lnC; rw [if_neg (by omega)]
theorem ln_end {l : List UInt8} (h : endL l = false) : lnC l = none := by unfold lnC lnT; rw [h]; simp
theorem ln_odd {l : List UInt8} (h : plainL (without 10 l) = false) : lnC l = none := by unfold lnC lnT; rw [h]; simp
theorem ln_rows {l : List UInt8} (h1 : l.length ≤ 2048) (h2 : endL l = true) (h3 : plainL (without 10 l) = true) : lnC l = cutR false [] (spc 10 l).dropLast := by
  unfold lnC lnT; rw [if_pos h1, h2, h3]; rfl

theorem cutR_nil : cutR false [] [] = some [] := rfl

theorem jn_none : ∀ (rs : List (List UInt8)) (b : Bool) (a : List UInt8), jn b a rs = none → (rs ≠ [] ∨ b = true) → cutR b a rs = none
  | [], b, a, _, h => by
    rcases h with h | h
    · exact absurd rfl h
    · subst h; rfl
  | r :: rs, b, a, h, _ => by
    rw [jn] at h
    rw [cutR]
    split at h
    · rename_i hg
      rw [if_pos hg]
      exact jn_none rs true _ (by simpa using h) (Or.inr rfl)
    · cases h

theorem jn_some : ∀ (rs : List (List UInt8)) (b : Bool) (a t : List UInt8) (k : Nat), jn b a rs = some (t, k) → 1 ≤ k ∧ k ≤ rs.length ∧ cutR b a rs = (cutR false [] (rs.drop k)).map ((lnOf t).toList ++ ·)
  | [], b, a, t, k, h => by simp [jn] at h
  | r :: rs, b, a, t, k, h => by
    rw [jn] at h
    rw [cutR]
    split at h
    · rename_i hg
      rw [if_pos hg]
      obtain ⟨⟨t', k'⟩, h1, h2⟩ := Option.map_eq_some_iff.1 h
      cases h2
      obtain ⟨i1, i2, i3⟩ := jn_some rs true _ _ _ h1
      exact ⟨by omega, by simp; omega, by rw [i3]; rfl⟩
    · rename_i hg
      rw [if_neg hg]
      cases h
      exact ⟨Nat.le_refl _, by simp, rfl⟩

/-- One round of a join, as the walk meets it: i rows are taken. -/
theorem jn_step {rows : List (List UInt8)} {i : Nat} {a r : List UInt8} (hr : rows[i]? = some r) :
    jn (decide (0 < i)) a (rows.drop i) = if goL (rowL (decide (0 < i)) r) then (jn true (a ++ (rowL (decide (0 < i)) r).dropLast) (rows.drop (i + 1))).map (fun x => (x.1, x.2 + 1)) else some (a ++ rowL (decide (0 < i)) r, 1) := by
  obtain ⟨hi, e⟩ := List.getElem?_eq_some_iff.1 hr
  rw [List.drop_eq_getElem_cons hi, e, jn]

theorem go_ne {l : List UInt8} (h : goL l = true) : l ≠ [] := by
  rintro rfl; exact absurd h (by decide)

theorem go_len {l : List UInt8} (h : goL l = true) : 1 ≤ l.length := List.length_pos_iff.2 (go_ne h)

/-! Trims from both sides. -/

theorem trimR_cons (c x : UInt8) (r : List UInt8) : Lib.trimRightB (x :: r) c = if Lib.trimRightB r c = [] then (if x = c then [] else [x]) else x :: Lib.trimRightB r c := by
  unfold Lib.trimRightB
  rw [List.reverse_cons, List.dropWhile_append]
  by_cases h : (List.dropWhile (· == c) r.reverse) = []
  · rw [h]; simp only [List.isEmpty_nil, if_true, List.reverse_nil]
    by_cases hx : x = c
    · simp [hx]
    · simp [hx]
  · have h2 : (List.dropWhile (· == c) r.reverse).isEmpty = false := by simpa using h
    rw [h2]; simp [h]

theorem trim_comm (c : UInt8) : ∀ l : List UInt8, Lib.trimRightB (Lib.trimLeftB l c) c = Lib.trimB l c
  | [] => rfl
  | x :: r => by
    have ih := trim_comm c r
    unfold Lib.trimB at ih ⊢
    rw [trimR_cons]
    by_cases hx : x = c
    · subst hx
      have e : Lib.trimLeftB (x :: r) x = Lib.trimLeftB r x := by simp [Lib.trimLeftB]
      rw [e, ih]
      split
      · rename_i h; rw [h]; simp
      · simp [Lib.trimLeftB]
    · have e : Lib.trimLeftB (x :: r) c = x :: r := by simp [Lib.trimLeftB, hx]
      rw [e, trimR_cons]
      split
      · simp [hx, Lib.trimLeftB]
      · simp [hx, Lib.trimLeftB]

theorem trimR_len (c : UInt8) (l : List UInt8) : (Lib.trimRightB l c).length ≤ l.length := by
  unfold Lib.trimRightB
  rw [List.length_reverse]
  exact Nat.le_trans (List.dropWhile_sublist _).length_le (by simp)
theorem trimL_len (c : UInt8) (l : List UInt8) : (Lib.trimLeftB l c).length ≤ l.length := (List.dropWhile_sublist _).length_le
theorem tr_len (l : List UInt8) : (trL l).length ≤ l.length := Nat.le_trans (trimL_len _ _) (trimR_len _ _)
theorem fr_len (l : List UInt8) : (frL l).length ≤ l.length := trimL_len _ _
theorem rowL_len (b : Bool) (l : List UInt8) : (rowL b l).length ≤ l.length := by unfold rowL; split; exact fr_len l; exact Nat.le_refl _

theorem tr_ne {l : List UInt8} (h : trL l ≠ []) : l ≠ [] := by rintro rfl; exact h rfl

/-! Two texts, one behind the other. -/

theorem rows_end {l : List UInt8} (h : endL l = true) : spc 10 l = (spc 10 l).dropLast ++ [[]] := by
  unfold endL at h
  cases l with
  | nil => rfl
  | cons c r =>
    have h2 : (c :: r).getLast? = some 10 := by simpa using h
    have hd := List.dropLast_concat_getLast (l := c :: r) (by simp)
    have hg : (c :: r).getLast (by simp) = 10 := by
      rw [List.getLast?_eq_some_getLast (by simp)] at h2; exact Option.some.inj h2
    rw [hg] at hd
    rw [← hd, spc_app]
    simp [spc]

theorem rows_nl (l : List UInt8) : (spc 10 (l ++ [10])).dropLast = spc 10 l := by
  rw [spc_app]; simp [spc]

theorem end_nl (l : List UInt8) : endL (l ++ [10]) = true := by unfold endL; simp

theorem end_split {l : List UInt8} (h : endL l = true) : l = [] ∨ ∃ m, l = m ++ [10] := by
  unfold endL at h
  cases l with
  | nil => exact Or.inl rfl
  | cons c r =>
    right
    have h2 : (c :: r).getLast? = some 10 := by simpa using h
    refine ⟨(c :: r).dropLast, ?_⟩
    have hd := List.dropLast_concat_getLast (l := c :: r) (by simp)
    rw [List.getLast?_eq_some_getLast (by simp)] at h2
    rw [Option.some.inj h2] at hd
    exact hd.symm

theorem rows_app {a b : List UInt8} (h : endL a = true) : (spc 10 (a ++ b)).dropLast = (spc 10 a).dropLast ++ (spc 10 b).dropLast := by
  rcases end_split h with rfl | ⟨m, rfl⟩
  · rfl
  · rw [rows_nl, List.append_assoc, List.singleton_append, spc_app, List.dropLast_append_of_ne_nil (spc_ne 10 b)]

theorem end_app {a b : List UInt8} (ha : endL a = true) (hb : endL b = true) : endL (a ++ b) = true := by
  rcases end_split hb with rfl | ⟨m, rfl⟩
  · rw [List.append_nil]; exact ha
  · rw [← List.append_assoc]; exact end_nl _

theorem cutR_app : ∀ (rs qs : List (List UInt8)) (b : Bool) (a : List UInt8) (x : List Ln), (b = false → a = []) → cutR b a rs = some x → cutR b a (rs ++ qs) = (cutR false [] qs).map (x ++ ·)
  | [], qs, b, a, x, ha, h => by
    cases b with
    | true => simp [cutR] at h
    | false =>
      simp [cutR] at h
      subst h
      rw [ha rfl, List.nil_append]
      cases cutR false [] qs <;> simp
  | r :: rs, qs, b, a, x, ha, h => by
    rw [List.cons_append, cutR]
    rw [cutR] at h
    split at h
    · rename_i hg
      rw [if_pos hg]
      exact cutR_app rs qs true _ x (fun e => by cases e) h
    · rename_i hg
      rw [if_neg hg]
      obtain ⟨y, h1, rfl⟩ := Option.map_eq_some_iff.1 h
      rw [cutR_app rs qs false [] y (fun _ => rfl) h1]
      cases cutR false [] qs <;> simp

theorem lnT_some {l : List UInt8} {x : List Ln} (h : lnT l = some x) : endL l = true ∧ plainL (without 10 l) = true ∧ cutR false [] (spc 10 l).dropLast = some x := by
  unfold lnT at h
  split at h
  · rename_i hc
    exact ⟨(Bool.and_eq_true_iff.1 hc).1, (Bool.and_eq_true_iff.1 hc).2, h⟩
  · cases h

theorem lnT_of {l : List UInt8} (h1 : endL l = true) (h2 : plainL (without 10 l) = true) : lnT l = cutR false [] (spc 10 l).dropLast := by
  unfold lnT; rw [h1, h2]; rfl

theorem lnT_app {a b : List UInt8} {x y : List Ln} (ha : lnT a = some x) (hb : lnT b = some y) : lnT (a ++ b) = some (x ++ y) := by
  obtain ⟨a1, a2, a3⟩ := lnT_some ha
  obtain ⟨b1, b2, b3⟩ := lnT_some hb
  rw [lnT_of (end_app a1 b1) (by rw [without_app, plainL_app, a2, b2]; rfl), rows_app a1, cutR_app _ _ _ _ x (fun _ => rfl) a3, b3]; rfl

theorem lnC_of {l : List UInt8} {x : List Ln} (h : lnT l = some x) (hl : l.length ≤ 2048) : lnC l = some x := by unfold lnC; rw [if_pos hl, h]
theorem lnC_some {l : List UInt8} {x : List Ln} (h : lnC l = some x) : l.length ≤ 2048 ∧ lnT l = some x := by
  unfold lnC at h; split at h
  · exact ⟨by assumption, h⟩
  · cases h

theorem ln_cases (l : List UInt8) : (lnC l = none ∧ lnS l = [] ∧ lnE l = 600) ∨ ∃ x, lnC l = some x ∧ lnS l = x ∧ lnE l = 0 := by
  cases h : lnC l with
  | none => exact Or.inl ⟨rfl, ln_bad h⟩
  | some x => exact Or.inr ⟨x, rfl, ln_good h⟩

/-! How many, how long. -/

theorem tot_spc (d : UInt8) : ∀ (l : List UInt8), tot (spc d l) = l.length + 1
  | [] => rfl
  | c :: r => by
    have ih := tot_spc d r
    have hn := spc_ne d r
    rw [spc]
    cases h : spc d r with
    | nil => exact absurd h hn
    | cons x y =>
      rw [h, tot_cons] at ih
      split
      · rw [tot_cons, tot_cons]; simp; omega
      · simp only [List.headD_cons, List.tail_cons]; rw [tot_cons]; simp; omega

theorem tot_mem : ∀ (rs : List (List UInt8)) (r : List UInt8), r ∈ rs → r.length + 1 ≤ tot rs
  | [], r, h => by simp at h
  | x :: xs, r, h => by
    rw [tot_cons]
    rcases List.mem_cons.1 h with rfl | h
    · omega
    · have := tot_mem xs r h; omega

theorem spc_mem_len {d : UInt8} {l r : List UInt8} (h : r ∈ spc d l) : r.length ≤ l.length := by
  have := tot_mem _ _ h
  rw [tot_spc] at this; omega

theorem lnOf_len {t : List UInt8} {x : Ln} (h : lnOf t = some x) : x.2.length ≤ t.length := by
  unfold lnOf at h
  split at h
  · cases h
  · cases h; exact tr_len t

theorem cutR_len : ∀ (rs : List (List UInt8)) (b : Bool) (a : List UInt8) (x : List Ln), cutR b a rs = some x → x.length ≤ rs.length ∧ ∀ y ∈ x, y.2.length ≤ a.length + tot rs
  | [], b, a, x, h => by
    cases b with
    | true => simp [cutR] at h
    | false => simp [cutR] at h; subst h; simp
  | r :: rs, b, a, x, h => by
    rw [cutR] at h
    have hrl := rowL_len b r
    split at h
    · obtain ⟨h1, h2⟩ := cutR_len rs true _ x h
      refine ⟨by simp; omega, fun y hy => ?_⟩
      have := h2 y hy
      rw [List.length_append, List.length_dropLast] at this
      rw [tot_cons]; omega
    · obtain ⟨y, h1, rfl⟩ := Option.map_eq_some_iff.1 h
      obtain ⟨i1, i2⟩ := cutR_len rs false [] y h1
      refine ⟨?_, ?_⟩
      · cases lnOf (a ++ rowL b r) <;> simp <;> omega
      · intro z hz
        rw [tot_cons]
        rcases List.mem_append.1 hz with hz | hz
        · have := lnOf_len (Option.mem_toList.1 hz)
          rw [List.length_append] at this; omega
        · have := i2 z hz
          simp at this; omega

theorem lnS_len (l : List UInt8) : (lnS l).length ≤ 2048 ∧ ∀ y ∈ lnS l, y.2.length ≤ 4096 := by
  rcases ln_cases l with ⟨_, h, _⟩ | ⟨x, h, hx, _⟩
  · rw [h]; simp
  · rw [hx]
    obtain ⟨h1, h2⟩ := lnC_some h
    obtain ⟨h3, h4, h5⟩ := lnT_some h2
    obtain ⟨h6, h7⟩ := cutR_len _ _ _ _ h5
    have h8 := spc_len 10 l
    rw [List.length_dropLast] at h6
    refine ⟨by omega, fun y hy => ?_⟩
    have h9 := h7 y hy
    have h10 : tot (spc 10 l).dropLast ≤ tot (spc 10 l) := by
      rw [rows_end h3, tot_app]; simp
    rw [tot_spc] at h10
    simp at h9; omega

/-! Each row by itself. -/

theorem rows_plain : ∀ (l : List UInt8), plainL (without 10 l) = (spc 10 l).all plainL
  | [] => rfl
  | c :: r => by
    have ih := rows_plain r
    have hn := spc_ne 10 r
    rw [spc]
    by_cases hc : c = 10
    · subst hc
      rw [if_pos rfl, List.all_cons, ← ih]
      simp [without, plainL]
    · rw [if_neg hc]
      have e : without 10 (c :: r) = c :: without 10 r := by simp [without, hc]
      rw [e]
      cases h : spc 10 r with
      | nil => exact absurd h hn
      | cons x y =>
        rw [h, List.all_cons] at ih
        simp only [List.headD_cons, List.tail_cons, List.all_cons]
        rw [show plainL (c :: without 10 r) = (plainL [c] && plainL (without 10 r)) from plainL_app [c] _, show plainL (c :: x) = (plainL [c] && plainL x) from plainL_app [c] _, ih, Bool.and_assoc]

theorem rows_plain' {l : List UInt8} (h : endL l = true) : plainL (without 10 l) = (spc 10 l).dropLast.all plainL := by
  rw [rows_plain, rows_end h, List.all_append, List.dropLast_concat]
  simp [plainL]

end Go.Proofs.YtjalklmgdkhekaaDoor
