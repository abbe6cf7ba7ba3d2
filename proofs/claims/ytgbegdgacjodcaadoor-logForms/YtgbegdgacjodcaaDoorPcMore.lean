/- Plain facts on cut texts: how many pieces there are, how long they are; texts one behind the other; with no program in them; no conditions. -/
import Derived.Test.YtgbegdgacjodcaaDoorPcPlain
namespace Go.Proofs.YtgbegdgacjodcaaDoor
open Go.RowKit

def vsize : Tok → Nat
  | .inl _ => 0
  | .inr n => n.length

theorem tk_vsize {l : List UInt8} {x : Tok} {k : Nat} (h : tk l = some (x, k)) : vsize x ≤ 16 := by
  unfold tk at h
  split at h
  · cases h
  · split at h
    · simp at h; obtain ⟨rfl, _⟩ := h; simp [vsize]
    · split at h
      · cases h
      · split at h
        · simp at h; obtain ⟨rfl, _⟩ := h; simp [vsize]
        · split at h
          · split at h
            · simp at h; obtain ⟨rfl, _⟩ := h; simp [vsize]; omega
            · cases h
          · split at h
            · simp at h; obtain ⟨rfl, _⟩ := h; simp [vsize]; omega
            · cases h

theorem tksF_facts : ∀ (n : Nat) (l : List UInt8) (ts : List Tok), tksF n l = some ts → ts.length ≤ l.length ∧ ∀ x ∈ ts, vsize x ≤ 16
  | _, [], ts, h => by simp [tksF] at h; subst h; simp
  | 0, c :: r, ts, h => by simp [tksF] at h
  | n + 1, c :: r, ts, h => by
    unfold tksF at h
    cases ht : tk (c :: r) with
    | none => rw [ht] at h; cases h
    | some xk =>
      obtain ⟨x, k⟩ := xk
      rw [ht] at h
      simp only [Option.map_eq_some_iff] at h
      obtain ⟨us, hu, rfl⟩ := h
      obtain ⟨h1, h2⟩ := tksF_facts n _ us hu
      have hk := tk_pos ht
      refine ⟨?_, ?_⟩
      · rw [List.length_drop] at h1; simp only [List.length_cons] at *; omega
      · intro y hy
        rcases List.mem_cons.1 hy with rfl | hy
        · exact tk_vsize ht
        · exact h2 y hy

theorem tks_facts {l : List UInt8} {ts : List Tok} (h : tks l = some ts) : ts.length ≤ l.length ∧ ∀ x ∈ ts, vsize x ≤ 16 := tksF_facts _ _ _ h

theorem addAll_facts : ∀ (ts : List Tok) (ps : List Pc) (n : Nat), 16 ≤ n → most n ps → (∀ x ∈ ts, vsize x ≤ 16) → most (n + ts.length) (addAll ps ts) ∧ (addAll ps ts).length ≤ ps.length + ts.length
  | [], ps, n, _, hm, _ => ⟨hm, by simp [addAll]⟩
  | x :: r, ps, n, h16, hm, hv => by
    have hx : most (n + 1) (add ps x) := by
      cases x with
      | inl c => exact most_t hm c
      | inr m => exact most_snoc (most_mono hm (by omega)) (by have := hv (.inr m) (by simp); simp [vsize] at this ⊢; omega)
    have := addAll_facts r (add ps x) (n + 1) (by omega) hx (fun y hy => hv y (by simp [hy]))
    have hl := add_len ps x
    have e : addAll ps (x :: r) = addAll (add ps x) r := rfl
    rw [e]
    exact ⟨most_mono this.1 (by simp; omega), by simp; omega⟩

theorem cutP_facts (l : List UInt8) : (cutP l).length ≤ 2048 ∧ most 2064 (cutP l) := by
  unfold cutP cutL
  split
  · rename_i h
    cases ht : tks l with
    | none => simp [most_nil]
    | some ts =>
      obtain ⟨h1, h2⟩ := tks_facts ht
      have := addAll_facts ts [] 16 (by omega) (most_nil _) h2
      simp at this
      exact ⟨by simp; omega, most_mono this.1 (by omega)⟩
  · simp [most_nil]

/-- A part of a text, told so that it stands alone. -/
def wrT : Tok → List UInt8
  | .inl c => if c = 36 then [36, 36] else [c]
  | .inr n => 36 :: 123 :: (n ++ [125])
def wrAll (ts : List Tok) : List UInt8 := ts.flatMap wrT
def goodT : Tok → Bool
  | .inl c => plainL [c]
  | .inr n => decide (1 ≤ n.length) && decide (n.length ≤ 16) && n.all vb && plainL n

theorem wrAll_snoc (ts : List Tok) (x : Tok) : wrAll (ts ++ [x]) = wrAll ts ++ wrT x := by unfold wrAll; rw [List.flatMap_append]; simp

theorem nlen_all (l : List UInt8) : ∀ n : List UInt8, n.all vb = true → nlen (n ++ 125 :: l) = n.length
  | [], _ => by simp [nlen]; decide
  | c :: r, h => by
    rw [List.all_cons, Bool.and_eq_true_iff] at h
    rw [List.cons_append, nlen, if_pos h.1, nlen_all l r h.2]; rfl

theorem tk_wr (x : Tok) (l : List UInt8) (h : goodT x = true) : tk (wrT x ++ l) = some (x, (wrT x).length) := by
  cases x with
  | inl c =>
    unfold wrT
    by_cases hc : c = 36
    · subst hc; simp [tk]
    · simp [tk, hc]
  | inr n =>
    unfold goodT at h
    simp only [Bool.and_eq_true, decide_eq_true_eq] at h
    obtain ⟨⟨⟨h1, h2⟩, h3⟩, h4⟩ := h
    have hn := nlen_all l n h3
    have e : wrT (.inr n) ++ l = 36 :: 123 :: (n ++ 125 :: l) := by simp [wrT]
    rw [e]
    simp only [tk, ne_eq, not_true_eq_false, if_false]
    rw [if_neg (by decide), if_pos trivial, hn, if_pos ⟨h1, h2, by rw [List.getElem?_append_right (Nat.le_refl _)]; simp⟩]
    simp [wrT]

theorem tks_wr : ∀ (ts : List Tok), (∀ x ∈ ts, goodT x = true) → tks (wrAll ts) = some ts
  | [], _ => rfl
  | x :: r, h => by
    have e : wrAll (x :: r) = wrT x ++ wrAll r := by simp [wrAll]
    rw [e, tks_step (tk_wr x (wrAll r) (h x (by simp))), List.drop_left, tks_wr r (fun y hy => h y (by simp [hy]))]; rfl

theorem plain_wr : ∀ (ts : List Tok), (∀ x ∈ ts, goodT x = true) → plainL (wrAll ts) = true
  | [], _ => rfl
  | x :: r, h => by
    have e : wrAll (x :: r) = wrT x ++ wrAll r := by simp [wrAll]
    rw [e, plainL_app, plain_wr r (fun y hy => h y (by simp [hy])), Bool.and_true]
    have hx := h x (by simp)
    cases x with
    | inl c =>
      by_cases hc : c = 36
      · subst hc; decide
      · rw [show wrT (.inl c) = [c] by simp [wrT, hc]]; exact hx
    | inr n =>
      unfold goodT at hx
      simp only [Bool.and_eq_true, decide_eq_true_eq] at hx
      have e2 : wrT (.inr n) = [36, 123] ++ (n ++ [125]) := rfl
      rw [e2, plainL_app, plainL_app, hx.2]; decide

theorem cut_wr (ts : List Tok) (h : ∀ x ∈ ts, goodT x = true) (hl : (wrAll ts).length ≤ 2048) : cutP (wrAll ts) = addAll [] ts ∧ cutE (wrAll ts) = 0 :=
  cut_of hl (plain_wr ts h) (tks_wr ts h)

/-- What the statement's loop holds. -/
structure JS (k : Nat) (t : ByteArray) (ps : List Pc) (ts : List Tok) : Prop where
  len : ts.length ≤ k
  txt : bl t = wrAll ts
  good : ∀ x ∈ ts, goodT x = true
  ps : ps = addAll [] ts
  size : t.size ≤ 6 * k

theorem good_vsize {x : Tok} (h : goodT x = true) : vsize x ≤ 16 := by
  cases x with
  | inl c => simp [vsize]
  | inr n => unfold goodT at h; simp only [Bool.and_eq_true, decide_eq_true_eq] at h; simp [vsize]; omega

theorem JS.start : JS 0 ⟨#[]⟩ [] [] := ⟨by simp, rfl, by simp, rfl, by decide⟩
theorem JS.step {k : Nat} {t u : ByteArray} {ps : List Pc} {ts : List Tok} {x : Tok} (h : JS k t ps ts) (hg : goodT x = true) (hu : bl u = wrT x) (hs : u.size ≤ 6) : JS (k + 1) (t ++ u) (add ps x) (ts ++ [x]) := by
  refine ⟨by have := h.len; simp; omega, by rw [bl_app, h.txt, hu, wrAll_snoc], ?_, by rw [addAll_snoc, h.ps], ?_⟩
  · intro y hy
    rcases List.mem_append.1 hy with hy | hy
    · exact h.good y hy
    · rw [List.mem_singleton.1 hy]; exact hg
  · rw [← bl_size, bl_app, List.length_append, bl_size, bl_size]; have := h.size; omega
theorem JS.facts {k : Nat} {t : ByteArray} {ps : List Pc} {ts : List Tok} (h : JS k t ps ts) : ps.length ≤ k ∧ most (16 + k) ps := by
  have := addAll_facts ts [] 16 (by omega) (most_nil _) (fun x hx => good_vsize (h.good x hx))
  rw [← h.ps] at this
  have hl := h.len
  simp at this
  exact ⟨by omega, most_mono this.1 (by omega)⟩
theorem JS.done {k : Nat} {t : ByteArray} {ps : List Pc} {ts : List Tok} (h : JS k t ps ts) (hk : k ≤ 20) : cutP (bl t) = ps ∧ cutE (bl t) = 0 := by
  have hs := h.size
  rw [h.txt, h.ps]
  exact cut_wr ts h.good (by rw [← h.txt, bl_size]; omega)

end Go.Proofs.YtgbegdgacjodcaaDoor
