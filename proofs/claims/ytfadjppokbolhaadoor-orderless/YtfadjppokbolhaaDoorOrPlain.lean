/- In which order edges come: what each needs, which one is next, the row of all; plain facts, no program in them; no conditions. -/
import Derived.Test.YtfadjppokbolhaaDoorGfPlain
namespace Go.Proofs.YtfadjppokbolhaaDoor
open Go.RowKit

/-- Does an edge take one of these? -/
def tkO (e : Ed) (o : Tx) : Bool := e.2.1.contains o || (e.2.2.1.contains o || e.2.2.2.1.contains o)
def takB (e m : Ed) : Bool := m.1.any (tkO e)
/-- Which of the first k edges an edge needs. -/
def ndK (es : List Ed) (e : Ed) : Nat → List Nat
  | 0 => []
  | k + 1 => match es[k]? with
    | some m => if takB e m then ndK es e k ++ [k] else ndK es e k
    | none => ndK es e k
def ndI (es : List Ed) (e : Ed) : List Nat := ndK es e es.length
def tB (t : List Bool) (j : Nat) : Bool := t[j]? == some true
def okB (es : List Ed) (t : List Bool) (i : Nat) : Bool := match es[i]? with
  | some e => !tB t i && (ndI es e).all (tB t)
  | none => false
def nxt (es : List Ed) (t : List Bool) : Option Nat := (List.range es.length).find? (okB es t)
def run (es : List Ed) : Nat → List Bool → List Nat → Option (List Nat)
  | 0, _, row => some row
  | f + 1, t, row => match nxt es t with
    | none => none
    | some i => run es f (t.set i true) (row ++ [i])
def fls (n : Nat) : List Bool := List.replicate n false
def ordO (es : List Ed) : Option (List Nat) := run es es.length (fls es.length) []
def orE (g : Gh) : Int := if ckE g = 0 then (match ordO g.1 with | some _ => 0 | none => 1001) else 1000
def orL (g : Gh) : List Nat := if ckE g = 0 then (ordO g.1).getD [] else []

theorem ndK_succ {es : List Ed} {k : Nat} {m : Ed} (e : Ed) (h : es[k]? = some m) : ndK es e (k + 1) = if takB e m then ndK es e k ++ [k] else ndK es e k := by
  rw [ndK, h]
theorem mem_ndK {es : List Ed} {e : Ed} {k j : Nat} : j ∈ ndK es e k ↔ j < k ∧ ∃ m, es[j]? = some m ∧ takB e m = true := by
  induction k with
  | zero => simp [ndK]
  | succ k ih =>
    rw [ndK]
    cases h : es[k]? with
    | none =>
      simp only []
      rw [ih]
      constructor
      · rintro ⟨h1, h2⟩; exact ⟨by omega, h2⟩
      · rintro ⟨h1, m, h2, h3⟩
        refine ⟨?_, m, h2, h3⟩
        rcases Nat.lt_or_ge j k with h4 | h4
        · exact h4
        · obtain rfl : j = k := by omega
          rw [h] at h2; cases h2
    | some m0 =>
      simp only []
      by_cases ht : takB e m0 = true
      · rw [if_pos ht, List.mem_append, ih, List.mem_singleton]
        constructor
        · rintro (⟨h1, h2⟩ | rfl)
          · exact ⟨by omega, h2⟩
          · exact ⟨by omega, m0, h, ht⟩
        · rintro ⟨h1, h2⟩
          rcases Nat.lt_or_ge j k with h4 | h4
          · exact Or.inl ⟨h4, h2⟩
          · exact Or.inr (by omega)
      · rw [if_neg ht, ih]
        constructor
        · rintro ⟨h1, h2⟩; exact ⟨by omega, h2⟩
        · rintro ⟨h1, m, h2, h3⟩
          refine ⟨?_, m, h2, h3⟩
          rcases Nat.lt_or_ge j k with h4 | h4
          · exact h4
          · obtain rfl : j = k := by omega
            rw [h] at h2; cases h2; exact absurd h3 ht
theorem mem_ndI {es : List Ed} {e : Ed} {j : Nat} : j ∈ ndI es e ↔ ∃ m, es[j]? = some m ∧ takB e m = true := by
  unfold ndI
  rw [mem_ndK]
  constructor
  · rintro ⟨_, h⟩; exact h
  · rintro ⟨m, h, h2⟩; exact ⟨(List.getElem?_eq_some_iff.1 h).1, m, h, h2⟩
theorem ndK_lt {es : List Ed} {e : Ed} {k j : Nat} (h : j ∈ ndK es e k) : j < k := (mem_ndK.1 h).1
theorem ndK_len (es : List Ed) (e : Ed) (k : Nat) : (ndK es e k).length ≤ k := by
  induction k with
  | zero => simp [ndK]
  | succ k ih =>
    rw [ndK]
    cases es[k]? with
    | none => simp only []; omega
    | some m =>
      simp only []
      split
      · rw [List.length_append]; simp; omega
      · omega

theorem okB_at {es : List Ed} {t : List Bool} {i : Nat} {e : Ed} (h : es[i]? = some e) : okB es t i = (!tB t i && (ndI es e).all (tB t)) := by
  unfold okB; rw [h]
theorem nxt_some {es : List Ed} {t : List Bool} {i : Nat} (h1 : i < es.length) (h2 : okB es t i = true) (h3 : ∀ j < i, okB es t j = false) : nxt es t = some i := by
  unfold nxt
  rw [List.find?_range_eq_some]
  exact ⟨h2, by simpa using h1, fun j hj => by simp [h3 j hj]⟩
theorem nxt_none {es : List Ed} {t : List Bool} (h : ∀ j < es.length, okB es t j = false) : nxt es t = none := by
  unfold nxt
  rw [List.find?_range_eq_none]
  exact fun j hj => by simp [h j hj]
theorem nxt_is {es : List Ed} {t : List Bool} {i : Nat} (h : nxt es t = some i) : i < es.length ∧ okB es t i = true ∧ ∀ j < i, okB es t j = false := by
  unfold nxt at h
  rw [List.find?_range_eq_some] at h
  exact ⟨by simpa using h.2.1, h.1, fun j hj => by simpa using h.2.2 j hj⟩
theorem nxt_no {es : List Ed} {t : List Bool} (h : nxt es t = none) : ∀ j < es.length, okB es t j = false := by
  unfold nxt at h
  rw [List.find?_range_eq_none] at h
  exact fun j hj => by simpa using h j hj
theorem run_some {es : List Ed} {f : Nat} {t : List Bool} {row : List Nat} {i : Nat} (h : nxt es t = some i) : run es (f + 1) t row = run es f (t.set i true) (row ++ [i]) := by rw [run, h]
theorem run_none {es : List Ed} {f : Nat} {t : List Bool} {row : List Nat} (h : nxt es t = none) : run es (f + 1) t row = none := by rw [run, h]

theorem tB_false {n j : Nat} : tB (fls n) j = false := by
  unfold tB fls
  rw [List.getElem?_replicate]
  split <;> rfl
theorem tB_get {t : List Bool} {j : Nat} {b : Bool} (h : t[j]? = some b) : tB t j = b := by
  unfold tB; rw [h]; cases b <;> rfl
theorem tB_set {t : List Bool} {i j : Nat} (hi : i < t.length) : tB (t.set i true) j = (tB t j || decide (j = i)) := by
  unfold tB
  rw [List.getElem?_set]
  by_cases h : i = j
  · subst h; simp [hi]
  · rw [if_neg h]
    have : ¬ j = i := fun e => h e.symm
    simp [this]

/-! the steps of a row -/
def Steps (es : List Ed) : List Bool → List Nat → Prop
  | _, [] => True
  | t, i :: r => nxt es t = some i ∧ Steps es (t.set i true) r
theorem run_steps {es : List Ed} : ∀ {f : Nat} {t : List Bool} {row0 row : List Nat}, run es f t row0 = some row → ∃ r, row = row0 ++ r ∧ r.length = f ∧ Steps es t r
  | 0, t, row0, row, h => ⟨[], by rw [run] at h; simpa using h.symm, rfl, trivial⟩
  | f + 1, t, row0, row, h => by
    rw [run] at h
    cases hn : nxt es t with
    | none => rw [hn] at h; cases h
    | some i =>
      rw [hn] at h
      obtain ⟨r, h1, h2, h3⟩ := run_steps h
      exact ⟨i :: r, by rw [h1]; simp, by simp [h2], hn, h3⟩
theorem steps_run {es : List Ed} : ∀ {r : List Nat} {t : List Bool} {row0 : List Nat}, Steps es t r → run es r.length t row0 = some (row0 ++ r)
  | [], t, row0, _ => by simp [run]
  | i :: r, t, row0, h => by
    rw [List.length_cons, run_some h.1, steps_run h.2]; simp
def tld (t : List Bool) (r : List Nat) : List Bool := r.foldl (fun t i => t.set i true) t
theorem tld_len (t : List Bool) (r : List Nat) : (tld t r).length = t.length := by
  induction r generalizing t with
  | nil => rfl
  | cons i r ih => show (tld (t.set i true) r).length = _; rw [ih]; simp
theorem tld_snoc (t : List Bool) (r : List Nat) (i : Nat) : tld t (r ++ [i]) = (tld t r).set i true := by unfold tld; simp
theorem steps_at {es : List Ed} : ∀ {r : List Nat} {t : List Bool} {k i : Nat}, Steps es t r → r[k]? = some i → nxt es (tld t (r.take k)) = some i
  | [], _, _, _, _, h => by simp at h
  | j :: r, t, 0, i, hs, h => by simp at h; subst h; exact hs.1
  | j :: r, t, k + 1, i, hs, h => by
    simp at h
    show nxt es (tld (t.set j true) (r.take k)) = some i
    exact steps_at hs.2 h
theorem orL_facts {g : Gh} (h : orE g = 0) : ckE g = 0 ∧ ∃ r, orL g = r ∧ r.length = g.1.length ∧ Steps g.1 (fls g.1.length) r := by
  unfold orE at h
  by_cases hc : ckE g = 0
  · rw [if_pos hc] at h
    cases ho : ordO g.1 with
    | none => rw [ho] at h; cases h
    | some row =>
      obtain ⟨r, h1, h2, h3⟩ := run_steps ho
      refine ⟨hc, r, ?_, h2, h3⟩
      unfold orL
      rw [if_pos hc, ho, h1]; rfl
  · rw [if_neg hc] at h; cases h
theorem orL_of {g : Gh} {r : List Nat} (hc : ckE g = 0) (hl : r.length = g.1.length) (hs : Steps g.1 (fls g.1.length) r) : orE g = 0 ∧ orL g = r := by
  have : ordO g.1 = some r := by unfold ordO; rw [← hl, steps_run (by rw [hl]; exact hs)]; rfl
  unfold orE orL
  rw [if_pos hc, if_pos hc, this]; exact ⟨rfl, rfl⟩
theorem orE_form {g : Gh} (h : ¬ ckE g = 0) : orE g = 1000 ∧ orL g = [] := by unfold orE orL; rw [if_neg h, if_neg h]; exact ⟨rfl, rfl⟩
theorem orE_cyc {g : Gh} (h : ckE g = 0) (h2 : ordO g.1 = none) : orE g = 1001 ∧ orL g = [] := by unfold orE orL; rw [if_pos h, if_pos h, h2]; exact ⟨rfl, rfl⟩
theorem orL_empty {g : Gh} (h : ¬ orE g = 0) : orL g = [] := by
  unfold orE at h
  unfold orL
  by_cases hc : ckE g = 0
  · rw [if_pos hc] at h ⊢
    cases ho : ordO g.1 with
    | none => rfl
    | some row => rw [ho] at h; exact absurd rfl h
  · rw [if_neg hc]

/-! the document's way: the makers of its inputs, by the first that makes each -/
def inL (e : Ed) : Ws := e.2.1 ++ e.2.2.1 ++ e.2.2.2.1
def mkN (es : List Ed) (n : Tx) : List Nat := (es.findIdx? fun e : Ed => e.1.contains n).toList
def rnd (es : List Ed) (e : Ed) : List Nat := (inL e).flatMap (mkN es)
theorem tkO_in (e : Ed) (o : Tx) : tkO e o = true ↔ o ∈ inL e := by
  unfold tkO inL
  simp
theorem one_maker : ∀ {es : List Ed}, twB (ouL es) = false → ∀ {i j : Nat} {a b : Ed} {o : Tx}, es[i]? = some a → es[j]? = some b → o ∈ a.1 → o ∈ b.1 → i = j
  | [], _, i, j, a, b, o, h1, _, _, _ => by simp at h1
  | x :: r, ht, i, j, a, b, o, h1, h2, h3, h4 => by
    have hn : (ouL (x :: r)).Nodup := by unfold twB at ht; simpa using ht
    have he : ouL (x :: r) = x.1 ++ ouL r := by unfold ouL; simp
    rw [he, List.nodup_append] at hn
    have hr : twB (ouL r) = false := by unfold twB; simpa using hn.2.1
    have hm : ∀ {k : Nat} {c : Ed}, r[k]? = some c → o ∈ c.1 → o ∈ ouL r := fun hk hc => by
      unfold ouL; exact List.mem_flatMap.2 ⟨_, List.mem_of_getElem? hk, hc⟩
    cases i with
    | zero =>
      cases j with
      | zero => rfl
      | succ j =>
        simp at h1 h2; subst h1
        exact absurd rfl (hn.2.2 o h3 o (hm h2 h4))
    | succ i =>
      cases j with
      | zero =>
        simp at h1 h2; subst h2
        exact absurd rfl (hn.2.2 o h4 o (hm h1 h3))
      | succ j =>
        simp at h1 h2
        rw [one_maker hr h1 h2 h3 h4]
theorem mem_rnd {es : List Ed} (ht : twB (ouL es) = false) {e : Ed} {j : Nat} : j ∈ rnd es e ↔ j ∈ ndI es e := by
  unfold rnd
  rw [mem_ndI, List.mem_flatMap]
  constructor
  · rintro ⟨n, hn, hj⟩
    unfold mkN at hj
    rw [Option.mem_toList, List.findIdx?_eq_some_iff_getElem] at hj
    obtain ⟨hl, hc, _⟩ := hj
    refine ⟨es[j], List.getElem?_eq_getElem hl, ?_⟩
    unfold takB
    rw [List.any_eq_true]
    exact ⟨n, by simpa using hc, (tkO_in e n).2 hn⟩
  · rintro ⟨m, hm, htk⟩
    unfold takB at htk
    obtain ⟨o, ho, hto⟩ := List.any_eq_true.1 htk
    refine ⟨o, (tkO_in e o).1 hto, ?_⟩
    unfold mkN
    rw [Option.mem_toList]
    cases hf : es.findIdx? (fun e : Ed => e.1.contains o) with
    | none =>
      rw [List.findIdx?_eq_none_iff] at hf
      have := hf m (List.mem_of_getElem? hm)
      simp [ho] at this
    | some i =>
      rw [List.findIdx?_eq_some_iff_getElem] at hf
      obtain ⟨hl, hc, _⟩ := hf
      have hc' : o ∈ es[i].1 := by simpa using hc
      rw [one_maker ht (List.getElem?_eq_getElem hl) hm hc' ho]
theorem rnd_all {es : List Ed} (ht : twB (ouL es) = false) (e : Ed) (p : Nat → Bool) : (rnd es e).all p = (ndI es e).all p := by
  rw [Bool.eq_iff_iff, List.all_eq_true, List.all_eq_true]
  exact ⟨fun h j hj => h j ((mem_rnd ht).2 hj), fun h j hj => h j ((mem_rnd ht).1 hj)⟩
theorem rnd_lt {es : List Ed} {e : Ed} {j : Nat} (h : j ∈ rnd es e) : j < es.length := by
  unfold rnd at h
  obtain ⟨n, _, hj⟩ := List.mem_flatMap.1 h
  unfold mkN at hj
  rw [Option.mem_toList, List.findIdx?_eq_some_iff_getElem] at hj
  exact hj.1
theorem ck_tw {g : Gh} (h : ckE g = 0) : twB (ouL g.1) = false := by
  unfold ckE at h
  cases ht : twB (ouL g.1) with
  | false => rfl
  | true => rw [ht] at h; split at h <;> simp at h

end Go.Proofs.YtfadjppokbolhaaDoor
