/- Plain facts on a line that is broken at some of its blanks: what is joined is the line; no conditions. -/
import Derived.Test.YthchjdegilhepaaDoorLnCut
namespace Go.Proofs.YthchjdegilhepaaDoor
open Go.RowKit

theorem spc_one {d : UInt8} : ∀ {x : List UInt8}, d ∉ x → spc d x = [x]
  | [], _ => rfl
  | c :: r, h => by
    have h1 : c ≠ d := fun e => h (by rw [e]; exact List.mem_cons_self)
    rw [spc, if_neg h1, spc_one (fun e => h (List.mem_cons_of_mem _ e))]; rfl

theorem spc_more {d : UInt8} : ∀ (t : List UInt8) (pre : List (List UInt8)) (last x : List UInt8), spc d t = pre ++ [last] → d ∉ x → spc d (t ++ x) = pre ++ [last ++ x]
  | [], pre, last, x, h, hx => by
    have h' : [[]] = pre ++ [last] := h
    cases pre with
    | nil => simp at h'; subst h'; exact spc_one hx
    | cons p q => simp at h'
  | c :: r, pre, last, x, h, hx => by
    have hn := spc_ne d r
    rw [List.cons_append, spc]
    rw [spc] at h
    by_cases hc : c = d
    · rw [if_pos hc] at h ⊢
      cases pre with
      | nil => simp at h; exact absurd h.2 hn
      | cons p q =>
        simp at h
        rw [spc_more r q last x h.2 hx, h.1]; rfl
    · rw [if_neg hc] at h ⊢
      cases e : spc d r with
      | nil => exact absurd e hn
      | cons u v =>
        rw [e] at h
        simp only [List.headD_cons, List.tail_cons] at h
        cases pre with
        | nil =>
          simp at h
          obtain ⟨h1, h2⟩ := h
          subst h1 h2
          rw [spc_more r [] u x (by rw [e]; rfl) hx]; rfl
        | cons p q =>
          simp at h
          obtain ⟨h1, h2⟩ := h
          subst h1
          rw [spc_more r (u :: q) last x (by rw [e, h2]; rfl) hx]; rfl

theorem trimR_id {l : List UInt8} {c d : UInt8} (h : l.getLast? = some c) (hc : c ≠ d) : Lib.trimRightB l d = l := by
  obtain ⟨m, rfl⟩ := List.getLast?_eq_some_iff.1 h
  unfold Lib.trimRightB
  simp [hc]

theorem trimL_id {l : List UInt8} {c d : UInt8} (h : l.head? = some c) (hc : c ≠ d) : Lib.trimLeftB l d = l := by
  cases l with
  | nil => cases h
  | cons x r => simp at h; subst h; simp [Lib.trimLeftB, hc]

theorem tr_id {l : List UInt8} {c e : UInt8} (h : l.head? = some c) (hc : c ≠ 32) (h2 : l.getLast? = some e) (he : e ≠ 32) : trL l = l := by
  unfold trL Lib.trimB
  rw [trimR_id h2 he, trimL_id h hc]

theorem go_no {l : List UInt8} {c : UInt8} (h : l.getLast? = some c) (hc : c ≠ 36) : goL l = false := by
  unfold goL; rw [trimR_id h hc]; simp

theorem go_yes (l : List UInt8) : goL (l ++ [32, 36]) = true := by
  have e : Lib.trimRightB (l ++ [32, 36]) 36 = l ++ [32] := by
    unfold Lib.trimRightB; simp
  unfold goL; rw [e]; simp

theorem rowL_app {b : Bool} {l : List UInt8} (x : List UInt8) (h : rowL b l ≠ []) : rowL b (l ++ x) = rowL b l ++ x := by
  cases b with
  | false => rfl
  | true =>
    have h' : frL l ≠ [] := h
    show frL (l ++ x) = frL l ++ x
    unfold frL Lib.trimLeftB at h' ⊢
    rw [List.dropWhile_append]
    have : (List.dropWhile (· == 32) l).isEmpty = false := by simpa using h'
    rw [this]; rfl

abbrev Let (c : UInt8) : Prop := 97 ≤ c.toNat ∧ c.toNat ≤ 112
theorem Let.ne {c : UInt8} (h : Let c) (d : UInt8) (hd : d.toNat < 97) : c ≠ d := fun e => by subst e; omega
theorem Let.plain {c : UInt8} (h : Let c) : plainL [c] = true := by
  have : ∀ k : Fin 16, plainL [UInt8.ofNat (97 + k.val)] = true := by decide +kernel
  have e : c = UInt8.ofNat (97 + (c.toNat - 97)) := UInt8.toNat_inj.1 (by rw [UInt8.toNat_ofNat']; omega)
  rw [e]; exact this ⟨c.toNat - 97, by omega⟩

/-- s: words with a blank between two; t: the same, broken at some of the blanks. -/
def Brk (s t : List UInt8) : Prop :=
  (∃ c, Let c ∧ s.head? = some c) ∧ plainL (without 10 t) = true ∧
  ∃ (pre : List (List UInt8)) (b : Bool) (a last : List UInt8) (c : UInt8), spc 10 t = pre ++ [last] ∧ (∀ rs, cutR false [] (pre ++ rs) = cutR b a rs) ∧ a ++ rowL b last = s ∧ Let c ∧ (rowL b last).getLast? = some c

theorem Brk.one {c : UInt8} (h : Let c) : Brk [c] [c] := by
  refine ⟨⟨c, h, rfl⟩, ?_, [], false, [], [c], c, spc_one (by simpa using fun e => h.ne 10 (by decide) e.symm), fun rs => rfl, rfl, h, rfl⟩
  have : without 10 [c] = [c] := by simp [without, h.ne 10 (by decide)]
  rw [this]; exact h.plain

theorem head_app {s x : List UInt8} (h : ∃ c, Let c ∧ s.head? = some c) : ∃ c, Let c ∧ (s ++ x).head? = some c := by
  obtain ⟨c, h1, h2⟩ := h
  refine ⟨c, h1, ?_⟩
  cases s with
  | nil => cases h2
  | cons y r => exact h2

theorem plain_more {t x : List UInt8} (h : plainL (without 10 t) = true) (hx : plainL (without 10 x) = true) : plainL (without 10 (t ++ x)) = true := by
  rw [without_app, plainL_app, h, hx]; rfl

theorem let_plain {x : List UInt8} {c : UInt8} (h : Let c) (hx : plainL (without 10 x) = true) : plainL (without 10 (x ++ [c])) = true := by
  refine plain_more hx ?_
  have : without 10 [c] = [c] := by simp [without, h.ne 10 (by decide)]
  rw [this]; exact h.plain

theorem Brk.plain {s t : List UInt8} {c : UInt8} (h : Brk s t) (hc : Let c) : Brk (s ++ [32] ++ [c]) (t ++ [32] ++ [c]) := by
  obtain ⟨hh, hp, pre, b, a, last, c0, h1, h2, h3, h4, h5⟩ := h
  have hne : rowL b last ≠ [] := fun e => by rw [e] at h5; cases h5
  refine ⟨head_app (head_app hh), let_plain hc (plain_more hp (by decide +kernel)), pre, b, a, last ++ [32] ++ [c], c, ?_, h2, ?_, hc, ?_⟩
  · rw [List.append_assoc, List.append_assoc]
    exact spc_more t pre last _ h1 (by simpa using fun e => hc.ne 10 (by decide) e.symm)
  · rw [List.append_assoc last, rowL_app _ hne, ← List.append_assoc, h3, ← List.append_assoc]
  · rw [List.append_assoc last, rowL_app _ hne]; simp

theorem Brk.broken {s t : List UInt8} {c : UInt8} (h : Brk s t) (hc : Let c) : Brk (s ++ [32] ++ [c]) (t ++ [32] ++ [36, 10, 32, 32, 32, 32] ++ [c]) := by
  obtain ⟨hh, hp, pre, b, a, last, c0, h1, h2, h3, h4, h5⟩ := h
  have hne : rowL b last ≠ [] := fun e => by rw [e] at h5; cases h5
  have hfr : rowL true [32, 32, 32, 32, c] = [c] := by
    have : (c == 32) = false := beq_eq_false_iff_ne.2 (hc.ne 32 (by decide))
    simp [rowL, frL, Lib.trimLeftB, this]
  refine ⟨head_app (head_app hh), let_plain hc (plain_more (plain_more hp (by decide +kernel)) (by decide +kernel)), pre ++ [last ++ [32, 36]], true, s ++ [32], [32, 32, 32, 32, c], c, ?_, ?_, ?_, hc, ?_⟩
  · have e : t ++ [32] ++ [36, 10, 32, 32, 32, 32] ++ [c] = (t ++ [32, 36]) ++ 10 :: [32, 32, 32, 32, c] := by simp
    rw [e, spc_app, spc_more t pre last _ h1 (by decide), spc_one (x := [32, 32, 32, 32, c]) (by simpa using fun e => hc.ne 10 (by decide) e.symm)]
  · intro rs
    rw [List.append_assoc, h2, List.singleton_append, cutR, rowL_app _ hne, if_pos (go_yes _)]
    have e : (rowL b last ++ [32, 36]).dropLast = rowL b last ++ [32] := by
      rw [show (rowL b last ++ [32, 36] : List UInt8) = (rowL b last ++ [32]) ++ [36] from by simp, List.dropLast_concat]
    rw [e, ← List.append_assoc, h3]
  · rw [hfr]
  · rw [hfr]; rfl

theorem Brk.cut {s t : List UInt8} (h : Brk s t) : lnT (t ++ [10]) = some [(false, s)] := by
  obtain ⟨⟨d, hd, hd2⟩, hp, pre, b, a, last, c0, h1, h2, h3, h4, h5⟩ := h
  have hl : s.getLast? = some c0 := by rw [← h3, List.getLast?_append, h5]; rfl
  rw [lnT_of (end_nl t) (plain_more hp (by decide +kernel)), rows_nl, h1, h2, cutR, if_neg (by rw [go_no h5 (h4.ne 36 (by decide))]; decide), h3]
  have ht : trL s = s := tr_id hd2 (hd.ne 32 (by decide)) hl (h4.ne 32 (by decide))
  have hs : s ≠ [] := fun e => by rw [e] at hd2; cases hd2
  unfold lnOf
  rw [ht, if_neg, hd2]
  · have : decide (some d = some (32 : UInt8)) = false := decide_eq_false (fun e => hd.ne 32 (by decide) (Option.some.inj e))
    rw [this, cutR_nil]; rfl
  · rintro (h | h)
    · exact hs h
    · rw [hd2] at h; exact hd.ne 35 (by decide) (Option.some.inj h)

end Go.Proofs.YthchjdegilhepaaDoor
