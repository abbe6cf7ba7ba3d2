/- A graph whose edges stand in another row: plain facts, no program in them; no conditions. -/
import Derived.Test.YtfadjppokbolhaaDoorGfMkPlain
namespace Go.Proofs.YtfadjppokbolhaaDoor
open Go.RowKit

def rot {α : Type} (t : Nat) (l : List α) : List α := l.drop t ++ l.take t
theorem rot_len {α : Type} (t : Nat) (l : List α) : (rot t l).length = l.length := by unfold rot; simp; omega
theorem rot_perm {α : Type} (t : Nat) (l : List α) : (rot t l).Perm l := by
  unfold rot
  have h := List.perm_append_comm (l₁ := l.drop t) (l₂ := l.take t)
  rwa [List.take_append_drop] at h
theorem rot_map {α β : Type} (f : α → β) (t : Nat) (l : List α) : (rot t l).map f = rot t (l.map f) := by unfold rot; rw [List.map_append, List.map_drop, List.map_take]
theorem rot_at {α : Type} {t i : Nat} {l : List α} {x : α} (h : l[i]? = some x) (ht : t ≤ l.length) : ∃ b, (rot t l)[b]? = some x ∧ b < l.length ∧ (b + t) % l.length = i := by
  have hi := (List.getElem?_eq_some_iff.1 h).1
  unfold rot
  rcases Nat.lt_or_ge i t with h1 | h1
  · refine ⟨i + (l.length - t), ?_, by omega, ?_⟩
    · rw [List.getElem?_append_right (by rw [List.length_drop]; omega), List.length_drop, List.getElem?_take, if_pos (by omega), show i + (l.length - t) - (l.length - t) = i by omega, h]
    · rw [show i + (l.length - t) + t = i + l.length by omega, Nat.add_mod_right, Nat.mod_eq_of_lt hi]
  · refine ⟨i - t, ?_, by omega, ?_⟩
    · rw [List.getElem?_append_left (by rw [List.length_drop]; omega), List.getElem?_drop, show t + (i - t) = i by omega, h]
    · rw [show i - t + t = i by omega, Nat.mod_eq_of_lt hi]
theorem ou_rot (t : Nat) (es : List Ed) : (ouL (rot t es)).Perm (ouL es) := (rot_perm t es).flatMap_right _
theorem all_rot {α : Type} (p : α → Bool) (t : Nat) (l : List α) : (rot t l).all p = l.all p := by
  rw [Bool.eq_iff_iff, List.all_eq_true, List.all_eq_true]
  exact ⟨fun h x hx => h x ((rot_perm t l).mem_iff.2 hx), fun h x hx => h x ((rot_perm t l).mem_iff.1 hx)⟩
theorem gm_rot (t : Nat) (g : Gh) : gmB (rot t g.1, g.2) = gmB g := by
  unfold gmB esB
  rw [show (rot t g.1, g.2).1 = rot t g.1 from rfl, rot_len, all_rot]
theorem tw_rot (t : Nat) (es : List Ed) : twB (ouL (rot t es)) = twB (ouL es) := by
  unfold twB
  congr 1
  exact decide_eq_decide.2 (ou_rot t es).nodup_iff
theorem ck_rot (t : Nat) (g : Gh) : ckE (rot t g.1, g.2) = ckE g := by
  unfold ckE
  rw [gm_rot, show (rot t g.1, g.2).1 = rot t g.1 from rfl, tw_rot]
theorem mk_rot {es : List Ed} {t : Nat} {x : Tx} (ht : t ≤ es.length) (hn : (ouL es).Nodup) : (mkA es x < 0 ∧ mkA (rot t es) x < 0) ∨ ∃ a b : Nat, mkA es x = a ∧ mkA (rot t es) x = b ∧ b < es.length ∧ (b + t) % es.length = a := by
  by_cases h : mkA es x < 0
  · refine Or.inl ⟨h, ?_⟩
    rcases Int.lt_or_le (mkA (rot t es) x) 0 with h1 | h1
    · exact h1
    · obtain ⟨b, hb⟩ : ∃ b : Nat, mkA (rot t es) x = b := ⟨(mkA (rot t es) x).toNat, by omega⟩
      obtain ⟨e, he, hx⟩ := mk_is hb
      obtain ⟨i, hi⟩ := List.mem_iff_getElem?.1 ((rot_perm t es).mem_iff.1 (List.mem_of_getElem? he))
      have := mk_own hi hx hn
      omega
  · obtain ⟨a, ha⟩ : ∃ a : Nat, mkA es x = a := ⟨(mkA es x).toNat, by omega⟩
    obtain ⟨e, he, hx⟩ := mk_is ha
    obtain ⟨b, hb, hl, hm⟩ := rot_at he ht
    exact Or.inr ⟨a, b, ha, mk_own hb hx ((ou_rot t es).nodup_iff.2 hn), hl, hm⟩
theorem umodB (n : Int) (m : Nat) (h0 : 0 < m) (h1 : m ≤ 140737488355328) : ∃ k : Nat, k < m ∧ wrap64 ((IntKind.u64.wrap n).tmod (m : Int)) = (k : Int) := by
  have e : IntKind.u64.wrap n = n % 18446744073709551616 := rfl
  have hx : 0 ≤ n % 18446744073709551616 := by omega
  rw [e, Int.tmod_eq_emod_of_nonneg hx]
  generalize n % 18446744073709551616 = x at *
  have h2 := Int.emod_nonneg x (by omega : (m : Int) ≠ 0)
  have h3 := Int.emod_lt_of_pos x (by omega : (0 : Int) < (m : Int))
  refine ⟨(x % (m : Int)).toNat, by omega, ?_⟩
  generalize x % (m : Int) = y at *
  simp only [wrap64]
  omega

end Go.Proofs.YtfadjppokbolhaaDoor
