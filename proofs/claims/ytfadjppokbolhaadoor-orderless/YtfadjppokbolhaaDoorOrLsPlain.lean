/- Without an edge that nobody needs the others stand as before; edges in a ring, in a row, edges that need nobody: plain facts, no program in them; no conditions. -/
import Derived.Test.YtfadjppokbolhaaDoorOrPlain
namespace Go.Proofs.YtfadjppokbolhaaDoor
open Go.RowKit

theorem nodup_most : ∀ (n : Nat) (l : List Nat), l.Nodup → (∀ x ∈ l, x < n) → l.length ≤ n
  | 0, l, _, h => by
    cases l with
    | nil => simp
    | cons a r => exact absurd (h a (by simp)) (by omega)
  | n + 1, l, hn, h => by
    have h1 := nodup_most n (l.erase n) (hn.erase n) (fun x hx => by
      have h2 := h x (List.mem_of_mem_erase hx)
      have h3 : x ≠ n := fun e => by
        subst e
        rw [hn.mem_erase_iff] at hx
        exact hx.1 rfl
      omega)
    by_cases hm : n ∈ l
    · rw [List.length_erase_of_mem hm] at h1; omega
    · rw [List.erase_of_not_mem hm] at h1; omega

def up (k i : Nat) : Nat := if i < k then i else i + 1
def dn (k i : Nat) : Nat := if i < k then i else i - 1
theorem up_dn {k i : Nat} (h : ¬ i = k) : up k (dn k i) = i := by
  unfold up dn
  by_cases h1 : i < k
  · rw [if_pos h1, if_pos h1]
  · rw [if_neg h1, if_neg (by omega)]; omega
theorem up_lt {k i j : Nat} (hi : i < dn k j) : up k i < j := by unfold dn at hi; unfold up; split at hi <;> split <;> omega
theorem get_erase {α : Type} (xs : List α) (k i : Nat) : (xs.eraseIdx k)[i]? = xs[up k i]? := by
  rw [List.getElem?_eraseIdx]; unfold up; split <;> rfl
theorem tB_erase (t : List Bool) (k i : Nat) : tB (t.eraseIdx k) i = tB t (up k i) := by unfold tB; rw [get_erase]
theorem mem_erase {es : List Ed} {k j : Nat} {e : Ed} : j ∈ ndI (es.eraseIdx k) e ↔ up k j ∈ ndI es e := by rw [mem_ndI, mem_ndI, get_erase]
theorem all_erase {es : List Ed} {k : Nat} {e : Ed} (t : List Bool) (hno : k ∉ ndI es e) : (ndI (es.eraseIdx k) e).all (tB (t.eraseIdx k)) = (ndI es e).all (tB t) := by
  rw [Bool.eq_iff_iff, List.all_eq_true, List.all_eq_true]
  constructor
  · intro h j hj
    have hne : ¬ j = k := fun e => hno (by rw [e] at hj; exact hj)
    have := h (dn k j) (mem_erase.2 (by rw [up_dn hne]; exact hj))
    rwa [tB_erase, up_dn hne] at this
  · intro h j hj
    rw [tB_erase]
    exact h _ (mem_erase.1 hj)
theorem ok_erase {es : List Ed} {k : Nat} (t : List Bool) (hno : ∀ e ∈ es, k ∉ ndI es e) (i : Nat) : okB (es.eraseIdx k) (t.eraseIdx k) i = okB es t (up k i) := by
  unfold okB
  rw [get_erase, tB_erase]
  cases h : es[up k i]? with
  | none => rfl
  | some e => simp only []; rw [all_erase t (hno e (List.mem_of_getElem? h))]
theorem set_erase_same (t : List Bool) (k : Nat) : (t.set k true).eraseIdx k = t.eraseIdx k := by
  refine List.ext_getElem? (fun i => ?_)
  rw [get_erase, get_erase, List.getElem?_set_ne]
  unfold up; split <;> omega
theorem set_erase (t : List Bool) {k i : Nat} (h : ¬ i = k) : (t.set i true).eraseIdx k = (t.eraseIdx k).set (dn k i) true := by
  refine List.ext_getElem? (fun j => ?_)
  rw [get_erase, List.getElem?_set, List.getElem?_set, get_erase]
  have hc : i = up k j ↔ dn k i = j := by unfold up dn; split <;> split <;> omega
  by_cases he : i = up k j
  · rw [if_pos he, if_pos (hc.1 he)]
    have hl : (i < t.length) ↔ (dn k i < (t.eraseIdx k).length) := by
      rw [List.length_eraseIdx]; unfold dn; split <;> split <;> omega
    by_cases h1 : i < t.length
    · rw [if_pos h1, if_pos (hl.1 h1)]
    · rw [if_neg h1, if_neg (fun h => h1 (hl.2 h))]
  · rw [if_neg he, if_neg (fun h => he (hc.2 h))]
theorem nxt_erase {es : List Ed} {k i : Nat} {t : List Bool} (hno : ∀ e ∈ es, k ∉ ndI es e) (h : nxt es t = some i) (hne : ¬ i = k) : nxt (es.eraseIdx k) (t.eraseIdx k) = some (dn k i) := by
  obtain ⟨h1, h2, h3⟩ := nxt_is h
  refine nxt_some ?_ ?_ ?_
  · rw [List.length_eraseIdx]; unfold dn; split <;> split <;> omega
  · rw [ok_erase t hno, up_dn hne]; exact h2
  · intro j hj
    rw [ok_erase t hno]
    exact h3 _ (up_lt hj)
def lsW (k : Nat) (r : List Nat) : List Nat := (r.filter (· != k)).map (dn k)
theorem steps_erase {es : List Ed} {k : Nat} (hno : ∀ e ∈ es, k ∉ ndI es e) : ∀ {r : List Nat} {t : List Bool}, Steps es t r → Steps (es.eraseIdx k) (t.eraseIdx k) (lsW k r)
  | [], t, _ => trivial
  | i :: r, t, h => by
    have ih := steps_erase hno h.2
    by_cases he : i = k
    · subst he
      rw [set_erase_same] at ih
      have : lsW i (i :: r) = lsW i r := by unfold lsW; simp
      rw [this]; exact ih
    · have : lsW k (i :: r) = dn k i :: lsW k r := by
        unfold lsW
        have h2 : (i != k) = true := by simpa using he
        rw [List.filter_cons, if_pos h2]; rfl
      rw [this]
      rw [set_erase t he] at ih
      exact ⟨nxt_erase hno h.1 he, ih⟩
theorem steps_nodup {es : List Ed} : ∀ {r : List Nat} {t : List Bool}, t.length = es.length → Steps es t r → r.Nodup ∧ ∀ i ∈ r, i < es.length ∧ tB t i = false
  | [], t, _, _ => ⟨List.nodup_nil, fun i hi => by simp at hi⟩
  | i :: r, t, hl, h => by
    obtain ⟨h1, h2⟩ := steps_nodup (by rw [List.length_set]; exact hl) h.2
    obtain ⟨a1, a2, _⟩ := nxt_is h.1
    have h4 : ∀ x ∈ r, ¬ x = i ∧ tB t x = false := fun x hx => by
      have := (h2 x hx).2
      rw [tB_set (by omega)] at this
      simp at this
      exact ⟨this.2, this.1⟩
    refine ⟨List.nodup_cons.2 ⟨fun hi => (h4 i hi).1 rfl, h1⟩, fun x hx => ?_⟩
    rcases List.mem_cons.1 hx with rfl | hx
    · refine ⟨a1, ?_⟩
      unfold okB at a2
      split at a2
      · simp at a2; exact a2.1
      · cases a2
    · exact ⟨(h2 x hx).1, (h4 x hx).2⟩
theorem erase_less {es : List Ed} {k : Nat} {r : List Nat} (hno : ∀ e ∈ es, k ∉ ndI es e) (hk : k < es.length) (hl : r.length = es.length) (hs : Steps es (fls es.length) r) : Steps (es.eraseIdx k) (fls (es.eraseIdx k).length) (lsW k r) ∧ (lsW k r).length = (es.eraseIdx k).length := by
  have hle : (es.eraseIdx k).length = es.length - 1 := by rw [List.length_eraseIdx, if_pos hk]
  constructor
  · have := steps_erase hno hs
    have e2 : (fls es.length).eraseIdx k = fls (es.eraseIdx k).length := by
      refine List.ext_getElem? (fun j => ?_)
      rw [get_erase]
      unfold fls
      rw [List.getElem?_replicate, List.getElem?_replicate, hle]
      unfold up; split <;> split <;> split <;> first | rfl | omega
    rwa [e2] at this
  · obtain ⟨hn, ha⟩ := steps_nodup (by simp [fls]) hs
    have hm : k ∈ r := by
      apply Classical.byContradiction
      intro hc
      have := nodup_most es.length (k :: r) (List.nodup_cons.2 ⟨hc, hn⟩) (fun x hx => by
        rcases List.mem_cons.1 hx with rfl | hx
        · exact hk
        · exact (ha x hx).1)
      simp at this; omega
    unfold lsW
    rw [List.length_map, ← hn.erase_eq_filter, List.length_erase_of_mem hm, hle, hl]
theorem lsW_snoc (k : Nat) (r : List Nat) (i : Nat) : lsW k (r ++ [i]) = lsW k r ++ (if i < k then [i] else if k < i then [i - 1] else []) := by
  unfold lsW
  rw [List.filter_append, List.map_append]
  congr 1
  by_cases h : i = k
  · subst h
    rw [if_neg (by omega), if_neg (by omega)]; simp
  · have h2 : (i != k) = true := by simpa using h
    rw [List.filter_cons, if_pos h2]
    unfold dn
    by_cases h3 : i < k
    · rw [if_pos h3]; simp [h3]
    · rw [if_neg h3, if_pos (by omega)]; simp [h3]
theorem ou_sub {a b : List Ed} (h : a.Sublist b) : (ouL a).Sublist (ouL b) := by
  induction h with
  | slnil => exact List.Sublist.refl _
  | cons x _ ih => exact ih.trans (by show (ouL _).Sublist (x.1 ++ ouL _); exact List.sublist_append_right _ _)
  | cons_cons x _ ih => show (x.1 ++ ouL _).Sublist (x.1 ++ ouL _); exact List.Sublist.append (List.Sublist.refl _) ih
theorem ck_erase {es : List Ed} {ps : List Po} {d : Ws} (k : Nat) (h : ckE (es, ps, d) = 0) : ckE (es.eraseIdx k, ps, d) = 0 := by
  have hm : gmB (es, ps, d) = true := by
    cases hm : gmB (es, ps, d) with
    | true => rfl
    | false => unfold ckE at h; rw [hm] at h; simp at h
  have ht := ck_tw h
  have hm2 : gmB (es.eraseIdx k, ps, d) = true := by
    unfold gmB esB at hm ⊢
    simp only [Bool.and_eq_true, decide_eq_true_eq, List.all_eq_true] at hm ⊢
    refine ⟨hm.1, hm.2.1, ?_, fun x hx => hm.2.2.2 x ((List.eraseIdx_sublist _ _).mem hx)⟩
    exact Nat.le_trans (List.eraseIdx_sublist _ _).length_le hm.2.2.1
  have ht2 : twB (ouL (es.eraseIdx k)) = false := by
    unfold twB at ht ⊢
    simp only [Bool.not_eq_false', decide_eq_true_eq] at ht ⊢
    refine ht.sublist ?_
    exact ou_sub (List.eraseIdx_sublist es k)
  unfold ckE
  rw [hm2, ht2]; rfl

theorem tB_tld : ∀ (l : List Nat) (t : List Bool) (j : Nat), (∀ i ∈ l, i < t.length) → tB (tld t l) j = (tB t j || decide (j ∈ l))
  | [], t, j, _ => by simp [tld]
  | i :: r, t, j, h => by
    show tB (tld (t.set i true) r) j = _
    rw [tB_tld r _ j (fun x hx => by rw [List.length_set]; exact h x (by simp [hx])), tB_set (h i (by simp)), Bool.eq_iff_iff]
    simp [or_assoc]
theorem steps_intro {es : List Ed} : ∀ {r : List Nat} {t : List Bool}, (∀ m i, r[m]? = some i → nxt es (tld t (r.take m)) = some i) → Steps es t r
  | [], _, _ => trivial
  | i :: r, t, h => ⟨h 0 i rfl, steps_intro (fun m j hj => h (m + 1) j (by simpa using hj))⟩

/-! edges that need nobody -/
theorem plain_steps {es : List Ed} (h : ∀ e ∈ es, ndI es e = []) : Steps es (fls es.length) (List.range es.length) := by
  refine steps_intro (fun m i hi => ?_)
  obtain ⟨h1, h2⟩ := List.getElem?_eq_some_iff.1 hi
  rw [List.length_range] at h1
  rw [List.getElem_range] at h2
  subst h2
  have hb : ∀ x ∈ (List.range es.length).take m, x < (fls es.length).length := fun x hx => by
    have := List.mem_of_mem_take hx
    simpa [fls] using this
  have hk : ∀ j, tB (tld (fls es.length) ((List.range es.length).take m)) j = decide (j < m) := fun j => by
    rw [tB_tld _ _ _ hb, tB_false, Bool.false_or, List.take_range, Nat.min_eq_left (by omega)]
    simp
  refine nxt_some h1 ?_ ?_
  · rw [okB_at (List.getElem?_eq_getElem h1), hk, h _ (List.getElem_mem _)]; simp
  · intro j hj
    rw [okB_at (List.getElem?_eq_getElem (by omega)), hk]; simp [hj]

/-! a ring, a row: each needs the next -/
theorem ring_none {es : List Ed} (h0 : 0 < es.length) (h : ∀ (i : Nat) e, es[i]? = some e → ndI es e ≠ []) : ordO es = none := by
  unfold ordO
  obtain ⟨f, hf⟩ : ∃ f, es.length = f + 1 := ⟨es.length - 1, by omega⟩
  have : nxt es (fls es.length) = none := by
    refine nxt_none (fun j hj => ?_)
    rw [okB_at (List.getElem?_eq_getElem hj), tB_false]
    have hne := h j _ (List.getElem?_eq_getElem hj)
    cases hl : ndI es es[j] with
    | nil => exact absurd hl hne
    | cons a r => rw [List.all_cons, tB_false]; rfl
  rw [hf] at this ⊢
  exact run_none this
theorem row_steps {es : List Ed} (h : ∀ (i : Nat) e, es[i]? = some e → ∀ j, j ∈ ndI es e ↔ j = i + 1 ∧ j < es.length) : Steps es (fls es.length) (List.range es.length).reverse := by
  refine steps_intro (fun m i hi => ?_)
  obtain ⟨h1, h2⟩ := List.getElem?_eq_some_iff.1 hi
  rw [List.length_reverse, List.length_range] at h1
  rw [List.getElem_reverse, List.getElem_range, List.length_range] at h2
  subst h2
  have hmem : ∀ x, x ∈ (List.range es.length).reverse.take m ↔ (x < es.length ∧ es.length - m ≤ x) := fun x => by
    rw [List.mem_take_iff_getElem]
    constructor
    · rintro ⟨j, hj, rfl⟩
      rw [List.length_reverse, List.length_range] at hj
      rw [List.getElem_reverse, List.getElem_range, List.length_range]; omega
    · rintro ⟨a, b⟩
      refine ⟨es.length - 1 - x, by rw [List.length_reverse, List.length_range]; omega, ?_⟩
      rw [List.getElem_reverse, List.getElem_range, List.length_range]; omega
  have hk : ∀ j, tB (tld (fls es.length) ((List.range es.length).reverse.take m)) j = decide (j < es.length ∧ es.length - m ≤ j) := fun j => by
    rw [tB_tld _ _ _ (fun x hx => by have := ((hmem x).1 hx).1; simpa [fls] using this), tB_false, Bool.false_or]
    simp only [hmem]
  refine nxt_some (by omega) ?_ ?_
  · rw [okB_at (List.getElem?_eq_getElem (by omega)), hk]
    rw [Bool.and_eq_true]
    refine ⟨by simp; omega, ?_⟩
    rw [List.all_eq_true]
    intro j hj
    rw [hk]
    have := (h _ _ (List.getElem?_eq_getElem (by omega)) j).1 hj
    simp; omega
  · intro j hj
    rw [okB_at (List.getElem?_eq_getElem (by omega))]
    have hx : j + 1 ∈ ndI es es[j] := (h _ _ (List.getElem?_eq_getElem (by omega)) (j + 1)).2 ⟨rfl, by omega⟩
    rw [Bool.and_eq_false_iff]
    right
    rw [List.all_eq_false]
    exact ⟨j + 1, hx, by rw [hk]; simp; omega⟩

end Go.Proofs.YtfadjppokbolhaaDoor
