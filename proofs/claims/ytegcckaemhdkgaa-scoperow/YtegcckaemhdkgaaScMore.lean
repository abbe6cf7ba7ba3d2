/- More plain facts on scopes: what is set is told, all else is as it was, set once more it is the same; with no program in them; no conditions. -/
import Derived.Test.YtegcckaemhdkgaaScPlain
namespace Go.Proofs.Ytegcckaemhdkgaa
open Go.RowKit

theorem any_set {bs : List Bd} {i : Nat} {c : Bd} {n t : ByteArray} (hc : bs[i]? = some c) (hcn : named n c = true) (m : ByteArray) (k : Nat) : ((bs.set i (n, t)).take k).any (named m) = (bs.take k).any (named m) := by
  rw [List.take_set]
  rw [Bool.eq_iff_iff, List.any_eq_true, List.any_eq_true]
  have hcm : named m c = named m (n, t) := by unfold named; rw [named_eq hcn]
  constructor
  · rintro ⟨x, hx, hm⟩
    rcases List.mem_or_eq_of_mem_set hx with h1 | h1
    · exact ⟨x, h1, hm⟩
    · subst h1
      rw [List.mem_iff_getElem?] at hx
      obtain ⟨j, hj⟩ := hx
      by_cases hji : j = i
      · subst hji
        have hlen : j < (bs.take k).length := by
          have := (List.getElem?_eq_some_iff.1 hj).1
          simpa using this
        have : (bs.take k)[j]? = some c := by rw [List.getElem?_take, if_pos (by simp at hlen; omega)]; exact hc
        exact ⟨c, List.mem_of_getElem? this, by rw [hcm]; exact hm⟩
      · rw [List.getElem?_set_ne (Ne.symm hji)] at hj
        exact ⟨_, List.mem_of_getElem? hj, hm⟩
  · rintro ⟨x, hx, hm⟩
    rw [List.mem_iff_getElem?] at hx
    obtain ⟨j, hj⟩ := hx
    by_cases hji : j = i
    · subst hji
      have hjl := (List.getElem?_eq_some_iff.1 hj).1
      refine ⟨(n, t), List.mem_of_getElem? (i := j) (by rw [List.getElem?_set_self hjl]), ?_⟩
      have : x = c := by
        rw [List.getElem?_take, if_pos (by simp at hjl; omega)] at hj
        rw [hc] at hj; exact (Option.some.inj hj).symm
      rw [← hcm, ← this]; exact hm
    · exact ⟨x, List.mem_of_getElem? (i := j) (by rw [List.getElem?_set_ne (Ne.symm hji)]; exact hj), hm⟩

theorem hit_set {bs : List Bd} {i : Nat} {c : Bd} {n t : ByteArray} (hc : bs[i]? = some c) (hcn : named n c = true) (m : ByteArray) : hit (bs.set i (n, t)) m = hit bs m := by
  have hcm : named m c = named m (n, t) := by unfold named; rw [named_eq hcn]
  cases h : hit bs m with
  | none =>
    refine hit_none ?_
    have := any_set (t := t) hc hcn m bs.length
    rw [List.take_of_length_le (by simp), List.take_of_length_le (by simp)] at this
    rw [this]; exact hit_none' h
  | some j =>
    obtain ⟨b, hb, hbn, hno⟩ := hit_some h
    by_cases hji : j = i
    · subst hji
      rw [hc] at hb
      cases hb
      refine hit_at (b := (n, t)) (by rw [List.getElem?_set_self (List.getElem?_eq_some_iff.1 hc).1]) ?_ (by rw [← hcm]; exact hbn)
      rw [any_set hc hcn]; exact hno
    · refine hit_at (b := b) (by rw [List.getElem?_set_ne (Ne.symm hji)]; exact hb) ?_ hbn
      rw [any_set hc hcn]; exact hno

theorem named_self (n t : ByteArray) : named n (n, t) = true := by simp [named]

theorem hit_app_self {bs : List Bd} {n t : ByteArray} (h : hit bs n = none) : hit (bs ++ [(n, t)]) n = some bs.length := by
  refine hit_at (b := (n, t)) (by rw [List.getElem?_append_right (Nat.le_refl _)]; simp) ?_ (named_self n t)
  rw [List.take_left]; exact hit_none' h
theorem hit_app_other {bs : List Bd} {n t m : ByteArray} (hm : named m (n, t) = false) : hit (bs ++ [(n, t)]) m = hit bs m := by
  cases h : hit bs m with
  | none =>
    refine hit_none ?_
    rw [List.any_append, hit_none' h, List.any_cons, hm]; rfl
  | some j =>
    obtain ⟨b, hb, hbn, hno⟩ := hit_some h
    have hlt := (List.getElem?_eq_some_iff.1 hb).1
    refine hit_at (b := b) (by rw [List.getElem?_append_left hlt]; exact hb) ?_ hbn
    rw [List.take_append_of_le_length (by omega)]; exact hno

theorem set_all {bs : List Bd} {n t : ByteArray} (h : setE bs n t = 0) : (scOk bs && mayB n && txB t) = true := by
  cases ha : (scOk bs && mayB n && txB t)
  · rw [(set_no ha).2] at h; cases h
  · rfl

theorem set_empty {bs : List Bd} {n t : ByteArray} (h : setE bs n t ≠ 0) : setB bs n t = [] := by
  cases ha : (scOk bs && mayB n && txB t)
  · exact (set_no ha).1
  cases hh : hit bs n with
  | some k => exact absurd (set_hit ha hh).2 h
  | none =>
    by_cases h16 : bs.length = 16
    · exact (set_full ha hh h16).1
    · exact absurd (set_more ha hh h16).2 h

theorem set_parts {bs : List Bd} {n t : ByteArray} (h : setE bs n t = 0) :
    (∃ k c, hit bs n = some k ∧ bs[k]? = some c ∧ named n c = true ∧ setB bs n t = bs.set k (n, t)) ∨ (hit bs n = none ∧ bs.length ≠ 16 ∧ setB bs n t = bs ++ [(n, t)]) := by
  have ha := set_all h
  cases hh : hit bs n with
  | some k =>
    obtain ⟨c, hc, hcn, _⟩ := hit_some hh
    exact Or.inl ⟨k, c, rfl, hc, hcn, (set_hit ha hh).1⟩
  | none =>
    by_cases h16 : bs.length = 16
    · rw [(set_full ha hh h16).2] at h; cases h
    · exact Or.inr ⟨rfl, h16, (set_more ha hh h16).1⟩

theorem set_at {bs : List Bd} {n t : ByteArray} (h : setE bs n t = 0) : ∃ k, hit (setB bs n t) n = some k ∧ (setB bs n t)[k]? = some (n, t) := by
  rcases set_parts h with ⟨k, c, hh, hc, hcn, e⟩ | ⟨hh, _, e⟩
  · exact ⟨k, by rw [e, hit_set hc hcn]; exact hh, by rw [e, List.getElem?_set_self (List.getElem?_eq_some_iff.1 hc).1]⟩
  · exact ⟨bs.length, by rw [e]; exact hit_app_self hh, by rw [e, List.getElem?_append_right (Nat.le_refl _)]; simp⟩

theorem set_told {bs : List Bd} {n t : ByteArray} (h : setE bs n t = 0) : getB (setB bs n t) n = t := by
  obtain ⟨k, h1, h2⟩ := set_at h
  exact get_hit (set_ok h) h1 h2

theorem set_other {bs : List Bd} {n t o : ByteArray} (h : setE bs n t = 0) (ho : (o.toList == n.toList) = false) : getB (setB bs n t) o = getB bs o := by
  have ho' : named o (n, t) = false := by
    rw [bl_toList, bl_toList] at ho
    unfold named
    rw [beq_eq_false_iff_ne] at ho ⊢
    exact fun h => ho h.symm
  have hs1 := set_ok h
  have ha := set_all h
  have hs0 := (Bool.and_eq_true_iff.1 (Bool.and_eq_true_iff.1 ha).1).1
  rcases set_parts h with ⟨k, c, hh, hc, hcn, e⟩ | ⟨hh, _, e⟩
  · rw [e] at hs1 ⊢
    cases h2 : hit bs o with
    | none => rw [get_none (hit_set hc hcn o ▸ h2), get_none h2]
    | some j =>
      obtain ⟨b, hb, hbn, _⟩ := hit_some h2
      have hjk : k ≠ j := by
        intro e2; subst e2
        rw [hc] at hb; cases hb
        have : named o c = named o (n, t) := by unfold named; rw [named_eq hcn]
        rw [this, ho'] at hbn; cases hbn
      rw [get_hit hs1 (hit_set hc hcn o ▸ h2) (b := b) (by rw [List.getElem?_set_ne hjk]; exact hb), get_hit hs0 h2 hb]
  · rw [e] at hs1 ⊢
    cases h2 : hit bs o with
    | none => rw [get_none (by rw [hit_app_other ho']; exact h2), get_none h2]
    | some j =>
      obtain ⟨b, hb, hbn, _⟩ := hit_some h2
      rw [get_hit hs1 (by rw [hit_app_other ho']; exact h2) (b := b) (by rw [List.getElem?_append_left (List.getElem?_eq_some_iff.1 hb).1]; exact hb), get_hit hs0 h2 hb]

theorem set_again {bs : List Bd} {n t : ByteArray} (h : setE bs n t = 0) : setB (setB bs n t) n t = setB bs n t ∧ setE (setB bs n t) n t = 0 := by
  obtain ⟨k, h1, h2⟩ := set_at h
  have ha := Bool.and_eq_true_iff.1 (set_all h)
  have ha2 := Bool.and_eq_true_iff.1 ha.1
  have := set_hit (t := t) (by rw [set_ok h, ha2.2, ha.2]; rfl) h1
  refine ⟨?_, this.2⟩
  rw [this.1]
  obtain ⟨hlt, he⟩ := List.getElem?_eq_some_iff.1 h2
  rw [← he, List.set_getElem_self]

end Go.Proofs.Ytegcckaemhdkgaa
