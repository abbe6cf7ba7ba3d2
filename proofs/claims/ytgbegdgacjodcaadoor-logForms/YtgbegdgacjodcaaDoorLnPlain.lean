/- Plain facts on a manifest's lines: what a text is cut into, with no program in them; no conditions. -/
import Derived.Test.YtgbegdgacjodcaaDoorPcPlain
import Derived.Test.YtgbegdgacjodcaaDoorSpPlain
import Derived.Lib.TrimByte
namespace Go.Proofs.YtgbegdgacjodcaaDoor
open Go.RowKit

abbrev Ln := Bool × List UInt8

/-- Does a row end with an odd number of 36? -/
def goL (l : List UInt8) : Bool := (l.length - (Lib.trimRightB l 36).length) % 2 == 1
def frL (l : List UInt8) : List UInt8 := Lib.trimLeftB l 32
def trL (l : List UInt8) : List UInt8 := Lib.trimB l 32
/-- A row, as it is joined: b: there is something ahead of it. -/
def rowL (b : Bool) (r : List UInt8) : List UInt8 := if b then frL r else r
def lnOf (t : List UInt8) : Option Ln := if trL t = [] ∨ (trL t).head? = some 35 then none else some (decide (t.head? = some 32), trL t)

/-- The lines of rows, a: what is joined so far. -/
def cutR : Bool → List UInt8 → List (List UInt8) → Option (List Ln)
  | b, _, [] => if b then none else some []
  | b, a, r :: rs => if goL (rowL b r) then cutR true (a ++ (rowL b r).dropLast) rs else (cutR false [] rs).map ((lnOf (a ++ rowL b r)).toList ++ ·)

/-- The line that rows begin with, and how many it takes. -/
def jn : Bool → List UInt8 → List (List UInt8) → Option (List UInt8 × Nat)
  | _, _, [] => none
  | b, a, r :: rs => if goL (rowL b r) then (jn true (a ++ (rowL b r).dropLast) rs).map (fun x => (x.1, x.2 + 1)) else some (a ++ rowL b r, 1)

def endL (l : List UInt8) : Bool := l.isEmpty || l.getLast? == some 10
def lnT (l : List UInt8) : Option (List Ln) := if endL l && plainL (without 10 l) then cutR false [] (spc 10 l).dropLast else none
def lnC (l : List UInt8) : Option (List Ln) := if l.length ≤ 2048 then lnT l else none
def lnS (l : List UInt8) : List Ln := (lnC l).getD []
def lnE (l : List UInt8) : Int := if (lnC l).isSome then 0 else 600

theorem ln_bad {l : List UInt8} (h : lnC l = none) : lnS l = [] ∧ lnE l = 600 := by unfold lnS lnE; rw [h]; exact ⟨rfl, rfl⟩
theorem ln_good {l : List UInt8} {x : List Ln} (h : lnC l = some x) : lnS l = x ∧ lnE l = 0 := by unfold lnS lnE; rw [h]; exact ⟨rfl, rfl⟩
theorem ln_long {l : List UInt8} (h : 2048 < l.length) : lnC l = none := by unfold lnC; rw [if_neg (by omega)]
theorem ln_end {l : List UInt8} (h : endL l = false) : lnC l = none := by unfold lnC lnT; rw [h]; simp
theorem ln_odd {l : List UInt8} (h : plainL (without 10 l) = false) : lnC l = none := by unfold lnC lnT; rw [h]; simp
theorem ln_rows {l : List UInt8} (h1 : l.length ≤ 2048) (h2 : endL l = true) (h3 : plainL (without 10 l) = true) : lnC l = cutR false [] (spc 10 l).dropLast := by
  unfold lnC lnT; rw [if_pos h1, h2, h3]; rfl

theorem cutR_nil : cutR false [] [] = some [] := rfl

theorem jn_none : ∀ (rs : List (List UInt8)) (b : Bool) (a : List UInt8), jn b a rs = none → (rs ≠ [] ∨ b = true) → cutR b a rs = none
  | [], b, a, _, h => by
    rcases h with h | h
    · exact absurd rfl h
    · subst h; rfl
  | r :: rs, b, a, h, _ => by
    rw [jn] at h
    rw [cutR]
    split at h
    · rename_i hg
      rw [if_pos hg]
      exact jn_none rs true _ (by simpa using h) (Or.inr rfl)
    · cases h

theorem jn_some : ∀ (rs : List (List UInt8)) (b : Bool) (a t : List UInt8) (k : Nat), jn b a rs = some (t, k) → 1 ≤ k ∧ k ≤ rs.length ∧ cutR b a rs = (cutR false [] (rs.drop k)).map ((lnOf t).toList ++ ·)
  | [], b, a, t, k, h => by simp [jn] at h
  | r :: rs, b, a, t, k, h => by
    rw [jn] at h
    rw [cutR]
    split at h
    · rename_i hg
      rw [if_pos hg]
      obtain ⟨⟨t', k'⟩, h1, h2⟩ := Option.map_eq_some_iff.1 h
      cases h2
      obtain ⟨i1, i2, i3⟩ := jn_some rs true _ _ _ h1
      exact ⟨by omega, by simp; omega, by rw [i3]; rfl⟩
    · rename_i hg
      rw [if_neg hg]
      cases h
      exact ⟨Nat.le_refl _, by simp, rfl⟩

/-- One round of a join, as the walk meets it: i rows are taken. -/
theorem jn_step {rows : List (List UInt8)} {i : Nat} {a r : List UInt8} (hr : rows[i]? = some r) :
    jn (decide (0 < i)) a (rows.drop i) = if goL (rowL (decide (0 < i)) r) then (jn true (a ++ (rowL (decide (0 < i)) r).dropLast) (rows.drop (i + 1))).map (fun x => (x.1, x.2 + 1)) else some (a ++ rowL (decide (0 < i)) r, 1) := by
  obtain ⟨hi, e⟩ := List.getElem?_eq_some_iff.1 hr
  rw [List.drop_eq_getElem_cons hi, e, jn]

theorem go_ne {l : List UInt8} (h : goL l = true) : l ≠ [] := by
  rintro rfl; exact absurd h (by decide)

theorem go_len {l : List UInt8} (h : goL l = true) : 1 ≤ l.length := List.length_pos_iff.2 (go_ne h)

/-! Trims from both sides. -/

theorem trimR_cons (c x : UInt8) (r : List UInt8) : Lib.trimRightB (x :: r) c = if Lib.trimRightB r c = [] then (if x = c then [] else [x]) else x :: Lib.trimRightB r c := by
  unfold Lib.trimRightB
  rw [List.reverse_cons, List.dropWhile_append]
  by_cases h : (List.dropWhile (· == c) r.reverse) = []
  · rw [h]; simp only [List.isEmpty_nil, if_true, List.reverse_nil]
    by_cases hx : x = c
    · simp [hx]
    · simp [hx]
  · have h2 : (List.dropWhile (· == c) r.reverse).isEmpty = false := by simpa using h
    rw [h2]; simp [h]

theorem trim_comm (c : UInt8) : ∀ l : List UInt8, Lib.trimRightB (Lib.trimLeftB l c) c = Lib.trimB l c
  | [] => rfl
  | x :: r => by
    have ih := trim_comm c r
    unfold Lib.trimB at ih ⊢
    rw [trimR_cons]
    by_cases hx : x = c
    · subst hx
      have e : Lib.trimLeftB (x :: r) x = Lib.trimLeftB r x := by simp [Lib.trimLeftB]
      rw [e, ih]
      split
      · rename_i h; rw [h]; simp
      · simp [Lib.trimLeftB]
    · have e : Lib.trimLeftB (x :: r) c = x :: r := by simp [Lib.trimLeftB, hx]
      rw [e, trimR_cons]
      split
      · simp [hx, Lib.trimLeftB]
      · simp [hx, Lib.trimLeftB]

theorem trimR_len (c : UInt8) (l : List UInt8) : (Lib.trimRightB l c).length ≤ l.length := by
  unfold Lib.trimRightB
  rw [List.length_reverse]
  exact Nat.le_trans (List.dropWhile_sublist _).length_le (by simp)
theorem trimL_len (c : UInt8) (l : List UInt8) : (Lib.trimLeftB l c).length ≤ l.length := (List.dropWhile_sublist _).length_le
theorem tr_len (l : List UInt8) : (trL l).length ≤ l.length := Nat.le_trans (trimL_len _ _) (trimR_len _ _)
theorem fr_len (l : List UInt8) : (frL l).length ≤ l.length := trimL_len _ _
theorem rowL_len (b : Bool) (l : List UInt8) : (rowL b l).length ≤ l.length := by unfold rowL; split; exact fr_len l; exact Nat.le_refl _

theorem tr_ne {l : List UInt8} (h : trL l ≠ []) : l ≠ [] := by rintro rfl; exact h rfl

/-! Two texts, one behind the other. -/

theorem rows_end {l : List UInt8} (h : endL l = true) : spc 10 l = (spc 10 l).dropLast ++ [[]] := by
  unfold endL at h
  cases l with
  | nil => rfl
  | cons c r =>
    have h2 : (c :: r).getLast? = some 10 := by simpa using h
    have hd := List.dropLast_concat_getLast (l := c :: r) (by simp)
    have hg : (c :: r).getLast (by simp) = 10 := by
      rw [List.getLast?_eq_some_getLast (by simp)] at h2; exact Option.some.inj h2
    rw [hg] at hd
    rw [← hd, spc_app]
    simp [spc]

theorem rows_nl (l : List UInt8) : (spc 10 (l ++ [10])).dropLast = spc 10 l := by
  rw [spc_app]; simp [spc]

theorem end_nl (l : List UInt8) : endL (l ++ [10]) = true := by unfold endL; simp

theorem end_split {l : List UInt8} (h : endL l = true) : l = [] ∨ ∃ m, l = m ++ [10] := by
  unfold endL at h
  cases l with
  | nil => exact Or.inl rfl
  | cons c r =>
    right
    have h2 : (c :: r).getLast? = some 10 := by simpa using h
    refine ⟨(c :: r).dropLast, ?_⟩
    have hd := List.dropLast_concat_getLast (l := c :: r) (by simp)
    rw [List.getLast?_eq_some_getLast (by simp)] at h2
    rw [Option.some.inj h2] at hd
    exact hd.symm

theorem rows_app {a b : List UInt8} (h : endL a = true) : (spc 10 (a ++ b)).dropLast = (spc 10 a).dropLast ++ (spc 10 b).dropLast := by
  rcases end_split h with rfl | ⟨m, rfl⟩
  · rfl
  · rw [rows_nl, List.append_assoc, List.singleton_append, spc_app, List.dropLast_append_of_ne_nil (spc_ne 10 b)]

theorem end_app {a b : List UInt8} (ha : endL a = true) (hb : endL b = true) : endL (a ++ b) = true := by
  rcases end_split hb with rfl | ⟨m, rfl⟩
  · rw [List.append_nil]; exact ha
  · rw [← List.append_assoc]; exact end_nl _

theorem cutR_app : ∀ (rs qs : List (List UInt8)) (b : Bool) (a : List UInt8) (x : List Ln), (b = false → a = []) → cutR b a rs = some x → cutR b a (rs ++ qs) = (cutR false [] qs).map (x ++ ·)
  | [], qs, b, a, x, ha, h => by
    cases b with
    | true => simp [cutR] at h
    | false =>
      simp [cutR] at h
      subst h
      rw [ha rfl, List.nil_append]
      cases cutR false [] qs <;> simp
  | r :: rs, qs, b, a, x, ha, h => by
    rw [List.cons_append, cutR]
    rw [cutR] at h
    split at h
    · rename_i hg
      rw [if_pos hg]
      exact cutR_app rs qs true _ x (fun e => by cases e) h
    · rename_i hg
      rw [if_neg hg]
      obtain ⟨y, h1, rfl⟩ := Option.map_eq_some_iff.1 h
      rw [cutR_app rs qs false [] y (fun _ => rfl) h1]
      cases cutR false [] qs <;> simp

theorem lnT_some {l : List UInt8} {x : List Ln} (h : lnT l = some x) : endL l = true ∧ plainL (without 10 l) = true ∧ cutR false [] (spc 10 l).dropLast = some x := by
  unfold lnT at h
  split at h
  · rename_i hc
    exact ⟨(Bool.and_eq_true_iff.1 hc).1, (Bool.and_eq_true_iff.1 hc).2, h⟩
  · cases h

theorem lnT_of {l : List UInt8} (h1 : endL l = true) (h2 : plainL (without 10 l) = true) : lnT l = cutR false [] (spc 10 l).dropLast := by
  unfold lnT; rw [h1, h2]; rfl

theorem lnT_app {a b : List UInt8} {x y : List Ln} (ha : lnT a = some x) (hb : lnT b = some y) : lnT (a ++ b) = some (x ++ y) := by
  obtain ⟨a1, a2, a3⟩ := lnT_some ha
  obtain ⟨b1, b2, b3⟩ := lnT_some hb
  rw [lnT_of (end_app a1 b1) (by rw [without_app, plainL_app, a2, b2]; rfl), rows_app a1, cutR_app _ _ _ _ x (fun _ => rfl) a3, b3]; rfl

theorem lnC_of {l : List UInt8} {x : List Ln} (h : lnT l = some x) (hl : l.length ≤ 2048) : lnC l = some x := by unfold lnC; rw [if_pos hl, h]
theorem lnC_some {l : List UInt8} {x : List Ln} (h : lnC l = some x) : l.length ≤ 2048 ∧ lnT l = some x := by
  unfold lnC at h; split at h
  · exact ⟨by assumption, h⟩
  · cases h

theorem ln_cases (l : List UInt8) : (lnC l = none ∧ lnS l = [] ∧ lnE l = 600) ∨ ∃ x, lnC l = some x ∧ lnS l = x ∧ lnE l = 0 := by
  cases h : lnC l with
  | none => exact Or.inl ⟨rfl, ln_bad h⟩
  | some x => exact Or.inr ⟨x, rfl, ln_good h⟩

/-! How many, how long. -/

theorem tot_spc (d : UInt8) : ∀ (l : List UInt8), tot (spc d l) = l.length + 1
  | [] => rfl
  | c :: r => by
    have ih := tot_spc d r
    have hn := spc_ne d r
    rw [spc]
    cases h : spc d r with
    | nil => exact absurd h hn
    | cons x y =>
      rw [h, tot_cons] at ih
      split
      · rw [tot_cons, tot_cons]; simp; omega
      · simp only [List.headD_cons, List.tail_cons]; rw [tot_cons]; simp; omega

theorem tot_mem : ∀ (rs : List (List UInt8)) (r : List UInt8), r ∈ rs → r.length + 1 ≤ tot rs
  | [], r, h => by simp at h
  | x :: xs, r, h => by
    rw [tot_cons]
    rcases List.mem_cons.1 h with rfl | h
    · omega
    · have := tot_mem xs r h; omega

theorem spc_mem_len {d : UInt8} {l r : List UInt8} (h : r ∈ spc d l) : r.length ≤ l.length := by
  have := tot_mem _ _ h
  rw [tot_spc] at this; omega

theorem lnOf_len {t : List UInt8} {x : Ln} (h : lnOf t = some x) : x.2.length ≤ t.length := by
  unfold lnOf at h
  split at h
  · cases h
  · cases h; exact tr_len t

theorem cutR_len : ∀ (rs : List (List UInt8)) (b : Bool) (a : List UInt8) (x : List Ln), cutR b a rs = some x → x.length ≤ rs.length ∧ ∀ y ∈ x, y.2.length ≤ a.length + tot rs
  | [], b, a, x, h => by
    cases b with
    | true => simp [cutR] at h
    | false => simp [cutR] at h; subst h; simp
  | r :: rs, b, a, x, h => by
    rw [cutR] at h
    have hrl := rowL_len b r
    split at h
    · obtain ⟨h1, h2⟩ := cutR_len rs true _ x h
      refine ⟨by simp; omega, fun y hy => ?_⟩
      have := h2 y hy
      rw [List.length_append, List.length_dropLast] at this
      rw [tot_cons]; omega
    · obtain ⟨y, h1, rfl⟩ := Option.map_eq_some_iff.1 h
      obtain ⟨i1, i2⟩ := cutR_len rs false [] y h1
      refine ⟨?_, ?_⟩
      · cases lnOf (a ++ rowL b r) <;> simp <;> omega
      · intro z hz
        rw [tot_cons]
        rcases List.mem_append.1 hz with hz | hz
        · have := lnOf_len (Option.mem_toList.1 hz)
          rw [List.length_append] at this; omega
        · have := i2 z hz
          simp at this; omega

theorem lnS_len (l : List UInt8) : (lnS l).length ≤ 2048 ∧ ∀ y ∈ lnS l, y.2.length ≤ 4096 := by
  rcases ln_cases l with ⟨_, h, _⟩ | ⟨x, h, hx, _⟩
  · rw [h]; simp
  · rw [hx]
    obtain ⟨h1, h2⟩ := lnC_some h
    obtain ⟨h3, h4, h5⟩ := lnT_some h2
    obtain ⟨h6, h7⟩ := cutR_len _ _ _ _ h5
    have h8 := spc_len 10 l
    rw [List.length_dropLast] at h6
    refine ⟨by omega, fun y hy => ?_⟩
    have h9 := h7 y hy
    have h10 : tot (spc 10 l).dropLast ≤ tot (spc 10 l) := by
      rw [rows_end h3, tot_app]; simp
    rw [tot_spc] at h10
    simp at h9; omega

/-! Each row by itself. -/

theorem rows_plain : ∀ (l : List UInt8), plainL (without 10 l) = (spc 10 l).all plainL
  | [] => rfl
  | c :: r => by
    have ih := rows_plain r
    have hn := spc_ne 10 r
    rw [spc]
    by_cases hc : c = 10
    · subst hc
      rw [if_pos rfl, List.all_cons, ← ih]
      simp [without, plainL]
    · rw [if_neg hc]
      have e : without 10 (c :: r) = c :: without 10 r := by simp [without, hc]
      rw [e]
      cases h : spc 10 r with
      | nil => exact absurd h hn
      | cons x y =>
        rw [h, List.all_cons] at ih
        simp only [List.headD_cons, List.tail_cons, List.all_cons]
        rw [show plainL (c :: without 10 r) = (plainL [c] && plainL (without 10 r)) from plainL_app [c] _, show plainL (c :: x) = (plainL [c] && plainL x) from plainL_app [c] _, ih, Bool.and_assoc]

theorem rows_plain' {l : List UInt8} (h : endL l = true) : plainL (without 10 l) = (spc 10 l).dropLast.all plainL := by
  rw [rows_plain, rows_end h, List.all_append, List.dropLast_concat]
  simp [plainL]

end Go.Proofs.YtgbegdgacjodcaaDoor
