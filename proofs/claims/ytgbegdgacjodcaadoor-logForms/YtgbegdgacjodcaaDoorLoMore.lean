/- How a text's first line is found; how the readings of a log go place by place; no program in them; no conditions. -/
import Derived.Test.YtgbegdgacjodcaaDoorLoPlain
namespace Go.Proofs.YtgbegdgacjodcaaDoor
open Go.RowKit

theorem nl_ix : ∀ l : Tx, (nlI l = none ∧ Lib.indexByte l 10 = -1) ∨ ∃ k : Nat, k < l.length ∧ nlI l = some k ∧ Lib.indexByte l 10 = (k : Int)
  | [] => Or.inl ⟨rfl, rfl⟩
  | x :: l => by
    have ih := nl_ix l
    rw [Lib.indexByte, nlI]
    by_cases hx : x = 10
    · rw [if_pos hx, if_pos (by simpa using hx)]; exact Or.inr ⟨0, by simp, rfl, rfl⟩
    · rw [if_neg hx, if_neg (by simpa using hx)]
      rcases ih with ⟨h1, h2⟩ | ⟨k, hk, h1, h2⟩
      · rw [h1, h2]; exact Or.inl ⟨rfl, rfl⟩
      · rw [h1, h2, if_neg (by simp)]
        exact Or.inr ⟨k + 1, by simp; omega, rfl, by omega⟩
/-- How much of the text the next line is. -/
def ldEnd (s : Tx) : Nat := match nlI s with
  | none => 0
  | some k => k + 1
theorem ldEnd_le (s : Tx) : ldEnd s ≤ s.length := by
  unfold ldEnd
  cases h : nlI s with
  | none => exact Nat.zero_le _
  | some k => exact (nlI_some h).1
theorem ldEnd_ix (s : Tx) : Lib.indexByte s 10 + 1 = (ldEnd s : Int) ∧ -1 ≤ Lib.indexByte s 10 := by
  unfold ldEnd
  rcases nl_ix s with ⟨h1, h2⟩ | ⟨k, hk, h1, h2⟩
  · rw [h1, h2]; exact ⟨rfl, by decide⟩
  · rw [h1, h2]; exact ⟨rfl, by omega⟩
theorem ldEnd_at {l : Tx} {k : Nat} (h : l[k]? = some 10) (hn : (10 : UInt8) ∉ l.take k) : ldEnd l = k + 1 := by
  obtain ⟨hlt, hg⟩ := List.getElem?_eq_some_iff.1 h
  have e : l = l.take k ++ 10 :: l.drop (k + 1) := by rw [← hg, ← List.drop_eq_getElem_cons hlt, List.take_append_drop]
  have h2 := nlI_app (l.take k) (l.drop (k + 1)) hn
  rw [← e, List.length_take, Nat.min_eq_left (by omega)] at h2
  unfold ldEnd; rw [h2]
theorem fs_end (s : Tx) : fsL s = (gtL (s.take (ldEnd s))).map fun r => (r, s.drop (ldEnd s)) := by
  unfold fsL ldEnd
  cases h : nlI s with
  | none => rw [List.take_zero, gt_nil]; rfl
  | some k => rfl
theorem gt_two (s : Tx) : (gtE s = 0 ∧ gtL s = some (gtR s)) ∨ (gtE s = 1300 ∧ gtL s = none) := by
  unfold gtE gtR
  cases gtL s with
  | none => exact Or.inr ⟨rfl, rfl⟩
  | some r => exact Or.inl ⟨rfl, rfl⟩
theorem fs_two (s : Tx) : (gtE (s.take (ldEnd s)) = 0 ∧ fsL s = some (gtR (s.take (ldEnd s)), s.drop (ldEnd s))) ∨ (gtE (s.take (ldEnd s)) = 1300 ∧ fsL s = none) := by
  rw [fs_end]
  rcases gt_two (s.take (ldEnd s)) with ⟨h1, h2⟩ | ⟨h1, h2⟩
  · rw [h2]; exact Or.inl ⟨h1, rfl⟩
  · rw [h2]; exact Or.inr ⟨h1, rfl⟩
/-- What is loaded so far, and what is left of the text. -/
def LdS (s0 : Tx) (gs : Rs) (s : Tx) : Prop := ldL s0 = gs ++ ldN (256 - gs.length) s
theorem lds_nil (s : Tx) : LdS s [] s := by unfold LdS ldL; simp
theorem lds_full {s0 s : Tx} {gs : Rs} (h : LdS s0 gs s) (hl : gs.length = 256) : ldL s0 = gs := by
  unfold LdS at h; rw [h, hl]; simp [ldN]
theorem lds_stop {s0 s : Tx} {gs : Rs} (h : LdS s0 gs s) (hf : fsL s = none) : ldL s0 = gs := by
  unfold LdS at h; rw [h, ld_none hf, List.append_nil]
theorem lds_step {s0 s t : Tx} {gs : Rs} {r : Rc} (h : LdS s0 gs s) (hl : gs.length < 256) (hf : fsL s = some (r, t)) : LdS s0 (gs ++ [r]) t := by
  unfold LdS at *
  obtain ⟨n, hn⟩ : ∃ n, 256 - gs.length = n + 1 := ⟨255 - gs.length, by omega⟩
  have hn2 : 256 - (gs ++ [r]).length = n := by simp; omega
  rw [hn, ldN, hf] at h
  rw [hn2, h]; simp
theorem gtR_ok {s : Tx} (h : gtE s = 0) : rcOk (gtR s) = true := by
  rcases gt_two s with ⟨_, h2⟩ | ⟨h1, _⟩
  · exact (gt_some h2).1
  · rw [h1] at h; cases h

/-! the last one of an output -/
def laV (rs : Rs) (n : Tx) : Rc := (laR rs n).getD ([], 0, [])
def laB (rs : Rs) (n : Tx) : Bool := (laR rs n).isSome
theorem lav_no {rs : Rs} {n : Tx} (h : laR rs n = none) : laV rs n = ([], 0, []) ∧ laB rs n = false := by unfold laV laB; rw [h]; exact ⟨rfl, rfl⟩
theorem lav_yes {rs : Rs} {n : Tx} {r : Rc} (h : laR rs n = some r) : laV rs n = r ∧ laB rs n = true := by unfold laV laB; rw [h]; exact ⟨rfl, rfl⟩
/-- Where the last one stands. -/
def PlSays (rs : Rs) (n : Tx) (i : Nat) (b : Bool) : Prop :=
  (b = true ∧ ∃ r, rs[i]? = some r ∧ r.1 = n ∧ ∀ x ∈ rs.drop (i + 1), x.1 ≠ n) ∨ (b = false ∧ i = 0 ∧ ∀ x ∈ rs, x.1 ≠ n)
theorem la_at {rs : Rs} (hok : loOk rs = true) {n : Tx} {i : Nat} {r : Rc} (h : rs[i]? = some r) (he : r.1 = n) (hn : ∀ x ∈ rs.drop (i + 1), x.1 ≠ n) : laR rs n = some r := by
  obtain ⟨hlt, hg⟩ := List.getElem?_eq_some_iff.1 h
  have e : rs = rs.take i ++ r :: rs.drop (i + 1) := by
    rw [← hg, ← List.drop_eq_getElem_cons hlt, List.take_append_drop]
  unfold laR
  rw [if_pos hok]
  conv => lhs; rw [e]
  rw [List.reverse_append, List.reverse_cons, find_app, find_app]
  have h1 : (rs.drop (i + 1)).reverse.find? (fun x => x.1 == n) = none := List.find?_eq_none.2 (fun x hx => by
    have := hn x (by simpa using hx)
    simpa using this)
  rw [h1]
  simp [he]
theorem la_off {rs : Rs} {n : Tx} (hn : ∀ x ∈ rs, x.1 ≠ n) : laR rs n = none := by
  unfold laR
  split
  · exact List.find?_eq_none.2 (fun x hx => by
      have := hn x (by simpa using hx)
      simpa using this)
  · rfl
/-- Of a record of the log: is it the last one of its output? -/
theorem pl_las {rs : Rs} {k i : Nat} {r : Rc} {b : Bool} (h : rs[k]? = some r) (hp : PlSays rs r.1 i b) : (i = k ∧ lasB rs k r = true) ∨ (i ≠ k ∧ lasB rs k r = false) := by
  obtain ⟨hlt, hg⟩ := List.getElem?_eq_some_iff.1 h
  have hm : r ∈ rs := List.mem_of_getElem? h
  rcases hp with ⟨_, x, hx, hxe, hd⟩ | ⟨_, _, hn⟩
  · obtain ⟨hlt2, hg2⟩ := List.getElem?_eq_some_iff.1 hx
    rcases Nat.lt_trichotomy i k with hik | hik | hik
    · have : r ∈ rs.drop (i + 1) := by
        rw [← hg]
        have h1 : (rs.drop (i + 1))[k - (i + 1)]? = some rs[k] := by
          rw [List.getElem?_drop, show i + 1 + (k - (i + 1)) = k by omega, h, hg]
        exact List.mem_of_getElem? h1
      exact absurd rfl (hd r this)
    · left
      refine ⟨hik, ?_⟩
      subst hik
      unfold lasB
      rw [show (rs.drop (i + 1)).any (fun y => y.1 == r.1) = false from List.any_eq_false.2 (fun y hy => by simpa using hd y hy)]
      rfl
    · right
      refine ⟨by omega, ?_⟩
      have : x ∈ rs.drop (k + 1) := by
        have h1 : (rs.drop (k + 1))[i - (k + 1)]? = some x := by
          rw [List.getElem?_drop, show k + 1 + (i - (k + 1)) = i by omega, hx]
        exact List.mem_of_getElem? h1
      unfold lasB
      rw [show (rs.drop (k + 1)).any (fun y => y.1 == r.1) = true from List.any_eq_true.2 ⟨x, this, by simpa using hxe⟩]
      rfl
  · exact absurd rfl (hn r hm)

/-! a log compacted, place by place -/
def cpL (rs : Rs) : Rs := if loOk rs then cmR rs else []
theorem cpl_yes {rs : Rs} (h : loOk rs = true) : cpL rs = cmR rs := by unfold cpL; rw [if_pos h]
theorem cpl_no {rs : Rs} (h : loOk rs = false) : cpL rs = [] := by unfold cpL; rw [h]; rfl
theorem cp_yes {rs gs : Rs} {k : Nat} {r : Rc} (h : rs[k]? = some r) (hl : lasB rs k r = true) (e : cmR rs = gs ++ cmR (rs.drop k)) : cmR rs = (gs ++ [r]) ++ cmR (rs.drop (k + 1)) := by
  rw [e, cm_at rs k r h, hl]; simp
theorem cp_no {rs gs : Rs} {k : Nat} {r : Rc} (h : rs[k]? = some r) (hl : lasB rs k r = false) (e : cmR rs = gs ++ cmR (rs.drop k)) : cmR rs = gs ++ cmR (rs.drop (k + 1)) := by
  rw [e, cm_at rs k r h, hl]; simp
theorem cp_end {rs gs : Rs} {k : Nat} (h : rs.length ≤ k) (e : cmR rs = gs ++ cmR (rs.drop k)) : cmR rs = gs := by
  rw [e, List.drop_of_length_le h]; simp [cmR]
/-- So far none behind has its output. -/
def lasT (rs : Rs) (i k : Nat) (r : Rc) : Bool := !((rs.take k).drop (i + 1)).any fun x => x.1 == r.1
theorem las_new (rs : Rs) (i : Nat) (r : Rc) : lasT rs i (i + 1) r = true := by
  unfold lasT
  rw [List.drop_of_length_le (by rw [List.length_take]; omega)]; rfl
theorem las_step {rs : Rs} {i k : Nat} {r x : Rc} (hik : i + 1 ≤ k) (hx : rs[k]? = some x) : lasT rs i (k + 1) r = (lasT rs i k r && !(x.1 == r.1)) := by
  have hlt := (List.getElem?_eq_some_iff.1 hx).1
  unfold lasT
  rw [List.take_add_one, hx, List.drop_append_of_le_length (by rw [List.length_take]; omega), List.any_append, Bool.not_or]
  simp
theorem las_end {rs : Rs} {i k : Nat} {r : Rc} (h : rs.length ≤ k) : lasT rs i k r = lasB rs i r := by
  unfold lasT lasB
  rw [List.take_of_length_le h]

end Go.Proofs.YtgbegdgacjodcaaDoor
