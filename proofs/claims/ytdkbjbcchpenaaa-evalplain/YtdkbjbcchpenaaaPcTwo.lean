/- Plain facts on two texts, one behind the other, cut into pieces; with no program in them; no conditions. -/
import Derived.Test.YtdkbjbcchpenaaaPcMore
namespace Go.Proofs.Ytdkbjbcchpenaaa
open Go.RowKit

theorem nlen_app36 (u : List UInt8) : ∀ l : List UInt8, nlen (l ++ 36 :: u) = nlen l
  | [] => by simp [nlen]; decide
  | c :: r => by rw [List.cons_append, nlen, nlen, nlen_app36 u r]

theorem tk_app {l : List UInt8} {x : Tok} {k : Nat} (u : List UInt8) (h : tk l = some (x, k)) : tk (l ++ 36 :: u) = some (x, k) := by
  cases l with
  | nil => simp [tk] at h
  | cons c r =>
    by_cases hc : c = 36
    · subst hc
      cases r with
      | nil => simp [tk] at h
      | cons d r' =>
        by_cases he : d = 36 ∨ d = 32 ∨ d = 58
        · simp only [tk, List.cons_append, ne_eq, not_true_eq_false, if_false, if_pos he] at h ⊢; exact h
        · by_cases hb : d = 123
          · subst hb
            simp only [tk, List.cons_append, ne_eq, not_true_eq_false, if_false, if_neg he, if_true] at h ⊢
            rw [nlen_app36]
            split at h
            · rename_i hk
              have hl : nlen r' < r'.length := (List.getElem?_eq_some_iff.1 hk.2.2).1
              rw [if_pos ⟨hk.1, hk.2.1, by rw [List.getElem?_append_left hl]; exact hk.2.2⟩, List.take_append_of_le_length (by omega)]
              exact h
            · cases h
          · simp only [tk, List.cons_append, ne_eq, not_true_eq_false, if_false, if_neg he, if_neg hb] at h ⊢
            have e : nlen (d :: (r' ++ 36 :: u)) = nlen (d :: r') := by rw [← List.cons_append, nlen_app36]
            have hl := nlen_le (d :: r')
            rw [e]
            split at h
            · rename_i hk
              rw [if_pos hk, ← List.cons_append, List.take_append_of_le_length hl]
              exact h
            · cases h
    · simp [tk, hc] at h ⊢; exact h

theorem tks_app (u : List UInt8) : ∀ (n : Nat) (l : List UInt8) (ts : List Tok), l.length ≤ n → tks l = some ts → tks (l ++ 36 :: u) = (tks (36 :: u)).map (ts ++ ·)
  | n, [], ts, _, h => by
    rw [tks_nil] at h; cases h; simp
  | 0, c :: r, ts, hn, _ => by simp at hn
  | n + 1, c :: r, ts, hn, h => by
    cases ht : tk (c :: r) with
    | none => rw [tks_none (by simp) ht] at h; cases h
    | some xk =>
      obtain ⟨x, k⟩ := xk
      have hk := tk_pos ht
      rw [tks_step ht, Option.map_eq_some_iff] at h
      obtain ⟨us, hu, rfl⟩ := h
      rw [tks_step (tk_app u ht), List.drop_append_of_le_length hk.2, tks_app u n _ us (by simp at hn ⊢; omega) hu, Option.map_map]
      congr 1

theorem tks_colon (t : List UInt8) : tks (36 :: 58 :: t) = (tks t).map (.inl 58 :: ·) := tks_step (x := .inl 58) (k := 2) (by simp [tk])

theorem add_ne (ps : List Pc) (x : Tok) : add ps x ≠ [] := by
  cases x with
  | inr n => simp [add]
  | inl c => unfold add; simp only; split <;> simp

theorem add_app (ps : List Pc) {qs : List Pc} (h : qs ≠ []) (x : Tok) : add (ps ++ qs) x = ps ++ add qs x := by
  cases x with
  | inr n => simp [add]
  | inl c =>
    unfold add
    simp only
    obtain ⟨q, hq⟩ : ∃ q, qs.getLast? = some q := ⟨_, List.getLast?_eq_some_getLast h⟩
    rw [List.getLast?_append, hq]
    obtain ⟨b, l⟩ := q
    cases b
    · show (ps ++ qs).dropLast ++ [(false, l ++ [c])] = ps ++ (qs.dropLast ++ [(false, l ++ [c])])
      rw [List.dropLast_append_of_ne_nil h, List.append_assoc]
    · show ps ++ qs ++ [(false, [c])] = ps ++ (qs ++ [(false, [c])])
      rw [List.append_assoc]

theorem addAll_front (ps : List Pc) : ∀ (us : List Tok) {qs : List Pc}, qs ≠ [] → addAll (ps ++ qs) us = ps ++ addAll qs us
  | [], qs, _ => rfl
  | x :: r, qs, h => by
    show addAll (add (ps ++ qs) x) r = ps ++ addAll (add qs x) r
    rw [add_app ps h]
    exact addAll_front ps r (add_ne qs x)

theorem addAll_text (l : List UInt8) : ∀ (us : List Tok) (m : List UInt8), ∃ m' r, addAll [(false, m)] us = (false, m') :: r ∧ addAll [(false, l ++ m)] us = (false, l ++ m') :: r
  | [], m => ⟨m, [], rfl, rfl⟩
  | .inl c :: r, m => by
    obtain ⟨m', q, h1, h2⟩ := addAll_text l r (m ++ [c])
    refine ⟨m', q, h1, ?_⟩
    rw [← List.append_assoc] at h2
    exact h2
  | .inr n :: r, m => by
    have e : ∀ k : List UInt8, addAll [(false, k)] (.inr n :: r) = (false, k) :: addAll [(true, n)] r := fun k => addAll_front [(false, k)] r (qs := [(true, n)]) (by simp)
    exact ⟨m, addAll [(true, n)] r, e m, e (l ++ m)⟩

theorem addAll_less : ∀ us : List Tok, (addAll [] us).length ≤ (addAll [(false, [58])] us).length
  | [] => by simp [addAll]
  | .inl c :: r => by
    obtain ⟨m', q, h1, h2⟩ := addAll_text [58] r [c]
    have e1 : addAll [] (.inl c :: r) = addAll [(false, [c])] r := rfl
    have e2 : addAll [(false, [58])] (.inl c :: r) = addAll [(false, [58] ++ [c])] r := rfl
    rw [e1, e2, h1, h2]; simp
  | .inr n :: r => by
    have e1 : addAll [] (.inr n :: r) = addAll [(true, n)] r := rfl
    have e2 : addAll [(false, [58])] (.inr n :: r) = (false, [58]) :: addAll [(true, n)] r := addAll_front [(false, [58])] r (qs := [(true, n)]) (by simp)
    rw [e1, e2]; simp

theorem cutE_or (l : List UInt8) : cutE l = 0 ∨ cutE l = 300 := by unfold cutE; split <;> simp

/-- What the statement on two texts asks. -/
theorem two_facts {s t : List UInt8} (hs : cutE s = 0) (ht : cutE t = 0) (h1 : s.length ≤ 900) (h2 : t.length ≤ 900) :
    ∃ m r, cutP (36 :: 58 :: t) = (false, m) :: r ∧ cutE (36 :: 58 :: t) = 0 ∧ cutE (s ++ 36 :: 58 :: t) = 0 ∧ (cutP t).length ≤ ((false, m) :: r).length ∧
      ((∃ l, (cutP s).getLast? = some (false, l) ∧ cutP (s ++ 36 :: 58 :: t) = (cutP s).dropLast ++ (false, l ++ m) :: r) ∨
       (noText (cutP s) ∧ cutP (s ++ 36 :: 58 :: t) = cutP s ++ (false, m) :: r)) := by
  have some_of : ∀ l : List UInt8, cutE l = 0 → l.length ≤ 2048 ∧ plainL l = true ∧ ∃ ts, tks l = some ts ∧ cutP l = addAll [] ts := by
    intro l h
    by_cases hp : l.length ≤ 2048 ∧ plainL l = true
    · cases hk : tks l with
      | none => rw [(cut_bad hk).2] at h; cases h
      | some ts => exact ⟨hp.1, hp.2, ts, rfl, (cut_of hp.1 hp.2 hk).1⟩
    · unfold cutE cutL at h
      rw [if_neg hp] at h; simp at h
  obtain ⟨_, ps, ts, hts, hcs⟩ := some_of s hs
  obtain ⟨_, pt, us, hus, hct⟩ := some_of t ht
  have hp : plainL (36 :: 58 :: t) = true := by
    rw [show (36 :: 58 :: t : List UInt8) = [36, 58] ++ t from rfl, plainL_app, pt]; decide
  have hd : tks (36 :: 58 :: t) = some (.inl 58 :: us) := by rw [tks_colon, hus]; rfl
  have hc : tks (s ++ 36 :: 58 :: t) = some (ts ++ .inl 58 :: us) := by
    rw [tks_app (58 :: t) s.length s ts (Nat.le_refl _) hts, hd]; rfl
  have cd := cut_of (by simp; omega) hp hd
  have cc := cut_of (l := s ++ 36 :: 58 :: t) (by simp; omega) (by rw [plainL_app, ps, hp]; rfl) hc
  have ed : addAll [] (.inl 58 :: us) = addAll [(false, [58])] us := rfl
  rw [ed] at cd
  obtain ⟨m, r, e1, _⟩ := addAll_text [] us [58]
  refine ⟨m, r, by rw [cd.1, e1], cd.2, cc.2, ?_, ?_⟩
  · rw [hct, ← e1]; exact addAll_less us
  · rw [cc.1, hcs, addAll_app]
    show _ ∨ (_ ∧ addAll (add (addAll [] ts) (.inl 58)) us = _)
    by_cases hl : ∃ l, (addAll [] ts).getLast? = some (false, l)
    · obtain ⟨l, hl⟩ := hl
      left
      refine ⟨l, hl, ?_⟩
      have ea : add (addAll [] ts) (.inl 58) = (addAll [] ts).dropLast ++ [(false, l ++ [58])] := by
        unfold add; simp only [hl]
      show addAll (add (addAll [] ts) (.inl 58)) us = _
      rw [ea, addAll_front _ us (by simp)]
      obtain ⟨m2, r2, f1, f2⟩ := addAll_text l us [58]
      rw [e1] at f1
      obtain ⟨rfl, rfl⟩ : m = m2 ∧ r = r2 := by simpa using f1
      rw [f2]
    · right
      have hn : noText (addAll [] ts) := fun l h => hl ⟨l, h⟩
      refine ⟨hn, ?_⟩
      have ea : add (addAll [] ts) (.inl 58) = addAll [] ts ++ [(false, [58])] := by
        unfold add; simp only; split
        · rename_i l h; exact absurd h (hn l)
        · rfl
      rw [ea, addAll_front _ us (by simp), e1]

end Go.Proofs.Ytdkbjbcchpenaaa
