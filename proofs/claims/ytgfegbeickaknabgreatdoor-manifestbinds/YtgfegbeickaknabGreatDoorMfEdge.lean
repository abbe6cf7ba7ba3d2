/- What package manifest's edgeOf answers; the conditions: the rules lie in memory. -/
import Derived.Test.YtgfegbeickaknabGreatDoorMfCmd
import Derived.Test.YtgfegbeickaknabGreatDoorWdAwake
namespace Go.Proofs.YtgfegbeickaknabGreatDoor
open Go.RowKit

/-- A row of texts and where it lies. -/
abbrev Rw := Option Addr × Nat × Ws
def rwv (x : Rw) : Value := .slice x.1 x.2.2.length x.2.1
def rwV (x : Rw) : List Value := [rwv x]

/-- The rows of an edge while they are cleaned: k of them are. -/
structure CS (B : Nat) (rows : List Rw) (k : Nat) (w : World) (zs : List Rw) : Prop where
  len : zs.length = rows.length
  lo : ∀ (j : Nat) x, j < k → rows[j]? = some x → ∃ y, clL x.2.2 = some y ∧ zs[j]? = some (x.1, x.2.1, y)
  hi : ∀ j : Nat, k ≤ j → zs[j]? = rows[j]?
  own : ∀ x ∈ zs, OwnT w B x.1 x.2.1 x.2.2
  pw : ∀ (i j : Nat) x y, zs[i]? = some x → zs[j]? = some y → i ≠ j → ∀ b, (rwv x).ownBlock = some b → (rwv y).ownBlock ≠ some b

theorem CS.next {B : Nat} {rows zs : List Rw} {k : Nat} {w w' : World} (h : CS B rows k w zs) {x : Rw} {y : Ws} (hx : rows[k]? = some x) (hy : clL x.2.2 = some y) (ho : OwnT w' B x.1 x.2.1 y) (hw : Own2 (rwv x) w w') : CS B rows (k + 1) w' (zs.set k (x.1, x.2.1, y)) := by
  have hk : k < rows.length := (List.getElem?_eq_some_iff.1 hx).1
  have hzk : zs[k]? = some x := (h.hi k (Nat.le_refl _)).trans hx
  have hg : ∀ (i : Nat) a, (zs.set k (x.1, x.2.1, y))[i]? = some a → (i = k ∧ a = (x.1, x.2.1, y)) ∨ (i ≠ k ∧ zs[i]? = some a) := by
    intro i a ha
    by_cases e : i = k
    · subst e
      rw [List.getElem?_set_self (by rw [h.len]; exact hk)] at ha
      exact Or.inl ⟨rfl, (Option.some.inj ha).symm⟩
    · rw [List.getElem?_set_ne (fun e2 => e e2.symm)] at ha
      exact Or.inr ⟨e, ha⟩
  have hbl : (rwv (x.1, x.2.1, y)).ownBlock = (rwv x).ownBlock := by unfold rwv; cases x.1 <;> rfl
  refine ⟨by rw [List.length_set]; exact h.len, ?_, ?_, ?_, ?_⟩
  · intro j a hj ha
    by_cases e : j = k
    · subst e
      rw [hx] at ha; cases ha
      exact ⟨y, hy, List.getElem?_set_self (by rw [h.len]; exact hk)⟩
    · obtain ⟨z, h1, h2⟩ := h.lo j a (by omega) ha
      exact ⟨z, h1, by rw [List.getElem?_set_ne (fun e2 => e e2.symm)]; exact h2⟩
  · intro j hj
    rw [List.getElem?_set_ne (by omega)]; exact h.hi j (by omega)
  · intro a ha
    obtain ⟨i, hi⟩ := List.getElem?_of_mem ha
    rcases hg i a hi with ⟨_, rfl⟩ | ⟨hne, hza⟩
    · exact ho
    · refine hw.own (h.own a (List.mem_of_getElem? hza)) ?_
      cases hb : (rwv a).ownBlock with
      | none => exact Or.inl hb
      | some b =>
        right
        intro e
        exact h.pw i k a x hza hzk hne b hb (e.symm.trans hb)
  · intro i j a c ha hc hij b hb
    rcases hg i a ha with ⟨ei, ea⟩ | ⟨hi, ha2⟩
    · rcases hg j c hc with ⟨ej, ec⟩ | ⟨hj, hc2⟩
      · exact absurd (ei.trans ej.symm) hij
      · rw [ea, hbl] at hb
        exact h.pw k j x c hzk hc2 (fun e => hij (ei.trans e)) b hb
    · rcases hg j c hc with ⟨ej, ec⟩ | ⟨hj, hc2⟩
      · rw [ec, hbl]
        exact h.pw i k a x ha2 hzk (fun e => hij (e.trans ej.symm)) b hb
      · exact h.pw i j a c ha2 hc2 hij b hb
theorem CS.q {B : Nat} {rows zs : List Rw} {k : Nat} {w w' : World} (h : CS B rows k w zs) (hq : Q w w') : CS B rows k w' zs := ⟨h.len, h.lo, h.hi, fun x hx => own_q (h.own x hx) hq, h.pw⟩

/-- The four rows of a build line. -/
theorem CS.start {w : World} {B k1 k2 k3 : Nat} {x : Bt} {ao bo co eo : Option Addr} {ac bc cc ec : Nat} (h : Four w B k1 k2 k3 x ao bo co eo ac bc cc ec) : CS B [(ao, ac, x.1), (bo, bc, x.2.2.1), (co, cc, x.2.2.2.1), (eo, ec, x.2.2.2.2)] 0 w [(ao, ac, x.1), (bo, bc, x.2.2.1), (co, cc, x.2.2.2.1), (eo, ec, x.2.2.2.2)] := by
  have ha := h.a.lt
  have hb := h.b.lt
  have hc := h.c.lt
  have hd := h.d.lt
  have l1 := h.la
  have l2 := h.lb
  have l3 := h.lc
  refine ⟨rfl, fun j x hj => absurd hj (by omega), fun _ _ => rfl, ?_, ?_⟩
  · intro y hy
    simp only [List.mem_cons, List.not_mem_nil, or_false] at hy
    rcases hy with rfl | rfl | rfl | rfl
    · exact h.a
    · exact own_low h.b l1
    · exact own_low h.c (by omega)
    · exact own_low h.d (by omega)
  · intro i j p q hp hq hij b hb1 hb2
    match i, j, hp, hq, hij with
    | 0, 0, _, _, hij => exact hij rfl
    | 1, 1, _, _, hij => exact hij rfl
    | 2, 2, _, _, hij => exact hij rfl
    | 3, 3, _, _, hij => exact hij rfl
    | 0, 1, hp, hq, _ => cases hp; cases hq; have := h.ta b hb1; have := (hb b hb2).1; omega
    | 0, 2, hp, hq, _ => cases hp; cases hq; have := h.ta b hb1; have := (hc b hb2).1; omega
    | 0, 3, hp, hq, _ => cases hp; cases hq; have := h.ta b hb1; have := (hd b hb2).1; omega
    | 1, 2, hp, hq, _ => cases hp; cases hq; have := h.tb b hb1; have := (hc b hb2).1; omega
    | 1, 3, hp, hq, _ => cases hp; cases hq; have := h.tb b hb1; have := (hd b hb2).1; omega
    | 2, 3, hp, hq, _ => cases hp; cases hq; have := h.tc b hb1; have := (hd b hb2).1; omega
    | 1, 0, hp, hq, _ => cases hp; cases hq; have := h.ta b hb2; have := (hb b hb1).1; omega
    | 2, 0, hp, hq, _ => cases hp; cases hq; have := h.ta b hb2; have := (hc b hb1).1; omega
    | 3, 0, hp, hq, _ => cases hp; cases hq; have := h.ta b hb2; have := (hd b hb1).1; omega
    | 2, 1, hp, hq, _ => cases hp; cases hq; have := h.tb b hb2; have := (hc b hb1).1; omega
    | 3, 1, hp, hq, _ => cases hp; cases hq; have := h.tb b hb2; have := (hd b hb1).1; omega
    | 3, 2, hp, hq, _ => cases hp; cases hq; have := h.tc b hb2; have := (hd b hb1).1; omega

/-- The words of a build line are few and short. -/
theorem tkW_few (ws : Ws) : Few (tkW ws) := by
  refine ⟨by unfold tkW; rw [List.length_take]; omega, fun p hp => ?_⟩
  unfold tkW at hp
  have h1 := List.mem_of_mem_take hp
  have h2 : okN p = true := by
    have := List.all_takeWhile (p := okN) (l := ws)
    exact List.all_eq_true.1 this p h1
  unfold okN at h2
  simp only [Bool.and_eq_true, decide_eq_true_eq] at h2
  exact h2.1.2
theorem Few.nil : Few [] := ⟨by simp, fun p hp => by cases hp⟩
theorem prW_few (x : Tx) (ws : Ws) : Few (prW x ws).1 := by
  unfold prW; split
  · exact tkW_few _
  · exact Few.nil
theorem bdR_few {l : Tx} {b : Bt} (h : bdR l = some b) : Few b.1 ∧ Few b.2.2.1 ∧ Few b.2.2.2.1 ∧ Few b.2.2.2.2 ∧ okN b.2.1 = true ∧ b.1 ≠ [] := by
  unfold bdR bdW at h
  simp only at h
  split at h
  · cases h
  · rename_i h0
    split at h
    · cases h
    · rename_i h1
      split at h
      · cases h
        refine ⟨tkW_few _, tkW_few _, prW_few _ _, prW_few _ _, by simpa using h1, fun e => h0 ?_⟩
        rw [show tkW (wdL l) = [] from e]; rfl
      · cases h

/-- What edgeOf answers. -/
def EgSays (x : Option (Ed × Rl)) (w : World) (e : Ending) (w' : World) : Prop := Q w w' ∧ match x with
  | none => e = .returned (.tuple #[.agg #[.slice none 0 0, .slice none 0 0, .slice none 0 0, .slice none 0 0, .string ⟨#[]⟩, .bool false, .string ⟨#[]⟩], .agg #[.string ⟨#[]⟩, .string ⟨#[]⟩, .bool false, .string ⟨#[]⟩], .bool false])
  | some z => ∃ y : EdA, y.1 = z.1 ∧ e = .returned (.tuple #[.agg (ev y).toArray, .agg (rv z.2).toArray, .bool true]) ∧ EdR w' w.heap.size y ∧ (edB y).Nodup

end Go.Proofs.YtgfegbeickaknabGreatDoor
