/- Plain facts on texts with variables, with no program in them: how they are cut into pieces; no conditions. -/
import Derived.Test.YtgbegdgacjodcaaDoorRfPlain
namespace Go.Proofs.YtgbegdgacjodcaaDoor
open Go.RowKit

/-- May the byte stand in a variable's name? -/
def vb (c : UInt8) : Bool := smallB (c.toNat : Int) || decide ((c.toNat : Int) = 95)

def nlen : List UInt8 → Nat
  | [] => 0
  | c :: r => if vb c then nlen r + 1 else 0

/-- A part of a text: a byte of text, or a variable's name. -/
abbrev Tok := UInt8 ⊕ List UInt8

/-- What a text begins with, and how many bytes stand for it. -/
def tk : List UInt8 → Option (Tok × Nat)
  | [] => none
  | c :: r =>
    if c ≠ 36 then some (.inl c, 1) else
    match r with
    | [] => none
    | d :: r' =>
      if d = 36 ∨ d = 32 ∨ d = 58 then some (.inl d, 2) else
      if d = 123 then (if 1 ≤ nlen r' ∧ nlen r' ≤ 16 ∧ r'[nlen r']? = some 125 then some (.inr (r'.take (nlen r')), nlen r' + 3) else none)
      else (if 1 ≤ nlen (d :: r') ∧ nlen (d :: r') ≤ 16 then some (.inr ((d :: r').take (nlen (d :: r'))), nlen (d :: r') + 1) else none)

def tksF : Nat → List UInt8 → Option (List Tok)
  | _, [] => some []
  | 0, _ :: _ => none
  | n + 1, c :: r => match tk (c :: r) with
    | none => none
    | some (x, k) => (tksF n ((c :: r).drop k)).map (x :: ·)

def tks (l : List UInt8) : Option (List Tok) := tksF l.length l

abbrev Pc := Bool × List UInt8

def add (ps : List Pc) : Tok → List Pc
  | .inl c => match ps.getLast? with
    | some (false, l) => ps.dropLast ++ [(false, l ++ [c])]
    | _ => ps ++ [(false, [c])]
  | .inr n => ps ++ [(true, n)]

def addAll (ps : List Pc) (ts : List Tok) : List Pc := ts.foldl add ps

def plainL (l : List UInt8) : Bool := l.all fun c => decide (32 ≤ (c.toNat : Int)) && decide ((c.toNat : Int) ≤ 126)

/-- The document's cut. -/
def cutL (l : List UInt8) : Option (List Pc) :=
  if l.length ≤ 2048 ∧ plainL l = true then (tks l).map (addAll []) else none

def cutP (l : List UInt8) : List Pc := (cutL l).getD []
def cutE (l : List UInt8) : Int := if (cutL l).isSome then 0 else 300

theorem nlen_le : ∀ l : List UInt8, nlen l ≤ l.length
  | [] => by simp [nlen]
  | c :: r => by have := nlen_le r; unfold nlen; split <;> simp <;> omega

theorem tk_pos {l : List UInt8} {x : Tok} {k : Nat} (h : tk l = some (x, k)) : 1 ≤ k ∧ k ≤ l.length := by
  unfold tk at h
  split at h
  · cases h
  · rename_i c r
    split at h
    · simp at h; obtain ⟨_, rfl⟩ := h; simp
    · split at h
      · cases h
      · rename_i d r'
        split at h
        · simp at h; obtain ⟨_, rfl⟩ := h; simp
        · split at h
          · split at h
            · rename_i hk
              have hl : nlen r' < r'.length := (List.getElem?_eq_some_iff.1 hk.2.2).1
              simp at h; obtain ⟨_, rfl⟩ := h; simp; omega
            · cases h
          · split at h
            · have hl := nlen_le (d :: r')
              simp at h; obtain ⟨_, rfl⟩ := h; simp at hl ⊢; omega
            · cases h

theorem tksF_more : ∀ (n m : Nat) (l : List UInt8), l.length ≤ n → l.length ≤ m → tksF n l = tksF m l
  | _, _, [], _, _ => by simp [tksF]
  | 0, _, c :: r, h, _ => by simp at h
  | _ + 1, 0, c :: r, _, h => by simp at h
  | n + 1, m + 1, c :: r, h1, h2 => by
    unfold tksF
    cases ht : tk (c :: r) with
    | none => rfl
    | some xk =>
      obtain ⟨x, k⟩ := xk
      have hk := tk_pos ht
      simp only
      rw [tksF_more n m ((c :: r).drop k) (by simp at h1 ⊢; omega) (by simp at h2 ⊢; omega)]

theorem tks_nil : tks [] = some [] := rfl
theorem tks_step {l : List UInt8} {x : Tok} {k : Nat} (h : tk l = some (x, k)) : tks l = (tks (l.drop k)).map (x :: ·) := by
  cases l with
  | nil => simp [tk] at h
  | cons c r =>
    have hk := tk_pos h
    unfold tks
    rw [List.length_cons, tksF, h]
    simp only
    rw [tksF_more r.length ((c :: r).drop k).length _ (by simp at hk ⊢; omega) (Nat.le_refl _)]
theorem tks_none {l : List UInt8} (hl : l ≠ []) (h : tk l = none) : tks l = none := by
  cases l with
  | nil => exact absurd rfl hl
  | cons c r => unfold tks; rw [List.length_cons, tksF, h]

/-- Under way: what is read, what is left. -/
def At (l : List UInt8) (i : Nat) (pre : List Tok) : Prop := tks l = (tks (l.drop i)).map (pre ++ ·)

theorem At.start (l : List UInt8) : At l 0 [] := by unfold At; simp
theorem At.step {l : List UInt8} {i : Nat} {pre : List Tok} {x : Tok} {k : Nat} (h : At l i pre) (ht : tk (l.drop i) = some (x, k)) : At l (i + k) (pre ++ [x]) := by
  unfold At at *
  rw [h, tks_step ht, List.drop_drop, Option.map_map]
  congr 1
  funext a; simp
theorem At.fail {l : List UInt8} {i : Nat} {pre : List Tok} (h : At l i pre) (hi : i < l.length) (ht : tk (l.drop i) = none) : tks l = none := by
  unfold At at h
  rw [h, tks_none (by intro e; have := congrArg List.length e; simp at this; omega) ht]; rfl
theorem At.done {l : List UInt8} {i : Nat} {pre : List Tok} (h : At l i pre) (hi : l.length ≤ i) : tks l = some pre := by
  unfold At at h
  rw [h, List.drop_eq_nil_of_le hi, tks_nil]; simp

theorem addAll_snoc (ps : List Pc) (ts : List Tok) (x : Tok) : addAll ps (ts ++ [x]) = add (addAll ps ts) x := by unfold addAll; simp
theorem addAll_app (ps : List Pc) (ts us : List Tok) : addAll ps (ts ++ us) = addAll (addAll ps ts) us := by unfold addAll; simp

/-- What is cut, with text under way. -/
def flush (cs : List Pc) (tb : List UInt8) : List Pc := if tb = [] then cs else cs ++ [(false, tb)]
def noText (cs : List Pc) : Prop := ∀ l, cs.getLast? ≠ some (false, l)

theorem noText_nil : noText [] := by intro l; simp
theorem noText_var (cs : List Pc) (n : List UInt8) : noText (cs ++ [(true, n)]) := by intro l; simp

theorem add_t_flush {cs : List Pc} {tb : List UInt8} (h : noText cs) (c : UInt8) : add (flush cs tb) (.inl c) = flush cs (tb ++ [c]) := by
  unfold flush add
  by_cases ht : tb = []
  · subst ht
    simp only [if_true, List.nil_append]
    rw [if_neg (by simp)]
    split
    · rename_i l hl; exact absurd hl (h l)
    · rfl
  · rw [if_neg ht, if_neg (by simp)]
    simp
theorem add_v_flush {cs : List Pc} {tb : List UInt8} (n : List UInt8) : add (flush cs tb) (.inr n) = flush cs tb ++ [(true, n)] := rfl
theorem flush_nil (cs : List Pc) : flush cs [] = cs := by simp [flush]
theorem flush_some (cs : List Pc) (tb : List UInt8) (h : tb ≠ []) : flush cs tb = cs ++ [(false, tb)] := by simp [flush, h]

theorem flush_len (cs : List Pc) (tb : List UInt8) : (flush cs tb).length ≤ cs.length + tb.length ∧ cs.length ≤ (flush cs tb).length := by
  unfold flush
  split
  · omega
  · rename_i h
    have := List.length_pos_iff.2 h
    simp; omega

theorem cut_of {l : List UInt8} {ts : List Tok} (h1 : l.length ≤ 2048) (h2 : plainL l = true) (h : tks l = some ts) : cutP l = addAll [] ts ∧ cutE l = 0 := by
  unfold cutP cutE cutL
  rw [if_pos ⟨h1, h2⟩, h]; simp
theorem cut_bad {l : List UInt8} (h : tks l = none) : cutP l = [] ∧ cutE l = 300 := by
  unfold cutP cutE cutL
  split <;> simp [h]
theorem cut_long {l : List UInt8} (h : 2048 < l.length) : cutP l = [] ∧ cutE l = 300 := by
  unfold cutP cutE cutL
  rw [if_neg (by omega)]; simp
theorem cut_odd {l : List UInt8} (h : plainL l = false) : cutP l = [] ∧ cutE l = 300 := by
  unfold cutP cutE cutL
  rw [if_neg (by rw [h]; simp)]; simp

/-- How long pieces are. -/
def most (n : Nat) (ps : List Pc) : Prop := ∀ p ∈ ps, p.2.length ≤ n
theorem most_nil (n : Nat) : most n [] := by intro p hp; simp at hp
theorem most_mono {n m : Nat} {ps : List Pc} (h : most n ps) (hm : n ≤ m) : most m ps := fun p hp => Nat.le_trans (h p hp) hm
theorem most_snoc {n : Nat} {ps : List Pc} {p : Pc} (h : most n ps) (hp : p.2.length ≤ n) : most n (ps ++ [p]) := by
  intro q hq
  rcases List.mem_append.1 hq with hq | hq
  · exact h q hq
  · rw [List.mem_singleton.1 hq]; exact hp
theorem most_t {n : Nat} {ps : List Pc} (h : most n ps) (c : UInt8) : most (n + 1) (add ps (.inl c)) := by
  unfold add
  simp only
  split
  · rename_i l hl
    have hm : (false, l) ∈ ps := List.mem_of_getLast? hl
    refine most_snoc (fun p hp => Nat.le_trans (h p ((List.dropLast_sublist _).subset hp)) (by omega)) ?_
    have := h _ hm; simp at this ⊢; omega
  · exact most_snoc (most_mono h (by omega)) (by simp)
theorem add_len (ps : List Pc) (x : Tok) : (add ps x).length ≤ ps.length + 1 := by
  cases x with
  | inr n => simp [add]
  | inl c =>
    unfold add; simp only; split
    · simp
    · simp

/-- The variable that a text begins with: its name, how many bytes stand for it; 0: there is none. -/
def vr (l : List UInt8) : List UInt8 × Nat :=
  if l.take 2 = [36, 123] then (if 1 ≤ nlen (l.drop 2) ∧ nlen (l.drop 2) ≤ 16 ∧ (l.drop 2)[nlen (l.drop 2)]? = some 125 then ((l.drop 2).take (nlen (l.drop 2)), nlen (l.drop 2) + 3) else ([], 0))
  else (if 1 ≤ nlen (l.drop 1) ∧ nlen (l.drop 1) ≤ 16 then ((l.drop 1).take (nlen (l.drop 1)), nlen (l.drop 1) + 1) else ([], 0))

def escB (d : UInt8) : Bool := d == 36 || d == 32 || d == 58

theorem vr_tk {l : List UInt8} (h0 : l.head? = some 36) (h1 : ∀ d, l[1]? = some d → escB d = false) :
    ((vr l).2 = 0 ∧ tk l = none) ∨ (1 ≤ (vr l).2 ∧ (vr l).1.length ≤ 16 ∧ tk l = some (.inr (vr l).1, (vr l).2)) := by
  cases l with
  | nil => simp at h0
  | cons c r =>
    simp at h0; subst h0
    cases r with
    | nil => left; decide
    | cons d r' =>
      have hd : ¬ (d = 36 ∨ d = 32 ∨ d = 58) := by
        have := h1 d (by simp)
        unfold escB at this; simp at this
        rintro (h | h | h) <;> simp_all
      unfold tk
      simp only [ne_eq, not_true_eq_false, if_false, if_neg hd]
      unfold vr
      by_cases hb : d = 123
      · subst hb
        simp only [List.take_succ_cons, List.take_zero, if_true, List.drop_succ_cons, List.drop_zero]
        split
        · rename_i hk; right; simp; omega
        · left; simp
      · simp only [List.take_succ_cons, List.take_zero, List.drop_succ_cons, List.drop_zero, List.cons.injEq, true_and, and_true, if_neg hb]
        split
        · rename_i hk; right; refine ⟨by simp, ?_, rfl⟩; simp; omega
        · left; simp

theorem tk_text {l : List UInt8} {c : UInt8} (h : l.head? = some c) (hc : c ≠ 36) : tk l = some (.inl c, 1) := by
  cases l with
  | nil => simp at h
  | cons a r => simp at h; subst h; simp [tk, hc]
theorem tk_esc {l : List UInt8} {d : UInt8} (h : l.head? = some 36) (h1 : l[1]? = some d) (hd : escB d = true) : tk l = some (.inl d, 2) := by
  cases l with
  | nil => simp at h
  | cons a r =>
    simp at h; subst h
    cases r with
    | nil => simp at h1
    | cons b r' =>
      simp at h1; subst h1
      unfold tk
      have : b = 36 ∨ b = 32 ∨ b = 58 := by unfold escB at hd; simp at hd; rcases hd with (h | h) | h <;> simp [h]
      simp [this]

theorem nlen_yes {l : List UInt8} {p : Nat} {c : UInt8} (h : l[p]? = some c) (hv : vb c = true) : nlen (l.drop p) = nlen (l.drop (p + 1)) + 1 := by
  obtain ⟨hp, he⟩ := List.getElem?_eq_some_iff.1 h
  rw [List.drop_eq_getElem_cons hp, he]
  conv => lhs; unfold nlen
  rw [if_pos hv]
theorem nlen_no {l : List UInt8} {p : Nat} {c : UInt8} (h : l[p]? = some c) (hv : vb c = false) : nlen (l.drop p) = 0 := by
  obtain ⟨hp, he⟩ := List.getElem?_eq_some_iff.1 h
  rw [List.drop_eq_getElem_cons hp, he]
  unfold nlen
  rw [if_neg (by rw [hv]; decide)]
theorem nlen_end {l : List UInt8} {p : Nat} (h : l.length ≤ p) : nlen (l.drop p) = 0 := by
  rw [List.drop_eq_nil_of_le h]; rfl

theorem plainL_app (a b : List UInt8) : plainL (a ++ b) = (plainL a && plainL b) := by simp [plainL]

end Go.Proofs.YtgbegdgacjodcaaDoor
