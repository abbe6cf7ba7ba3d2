/- Several texts of mine in one: OrPlain, OrLsPlain, OrRPlain. -/
import Derived.Test.YtfadjppokbolhaaGreatDoorGfPlain
/- In which order edges come: what each needs, which one is next, the row of all; plain facts, no program in them; no conditions. -/
namespace Go.Proofs.YtfadjppokbolhaaGreatDoor
open Go.RowKit

/-- Does an edge take one of these? -/
def tkO (e : Ed) (o : Tx) : Bool := e.2.1.contains o || (e.2.2.1.contains o || e.2.2.2.1.contains o)
def takB (e m : Ed) : Bool := m.1.any (tkO e)
/-- Which of the first k edges an edge needs. -/
def ndK (es : List Ed) (e : Ed) : Nat → List Nat
  | 0 => []
  | k + 1 => match es[k]? with
    | some m => if takB e m then ndK es e k ++ [k] else ndK es e k
    | none => ndK es e k
def ndI (es : List Ed) (e : Ed) : List Nat := ndK es e es.length
def tB (t : List Bool) (j : Nat) : Bool := t[j]? == some true
def okB (es : List Ed) (t : List Bool) (i : Nat) : Bool := match es[i]? with
  | some e => !tB t i && (ndI es e).all (tB t)
  | none => false
def nxt (es : List Ed) (t : List Bool) : Option Nat := (List.range es.length).find? (okB es t)
def run (es : List Ed) : Nat → List Bool → List Nat → Option (List Nat)
  | 0, _, row => some row
  | f + 1, t, row => match nxt es t with
    | none => none
    | some i => run es f (t.set i true) (row ++ [i])
def fls (n : Nat) : List Bool := List.replicate n false
def ordO (es : List Ed) : Option (List Nat) := run es es.length (fls es.length) []
def orE (g : Gh) : Int := if ckE g = 0 then (match ordO g.1 with | some _ => 0 | none => 1001) else 1000
def orL (g : Gh) : List Nat := if ckE g = 0 then (ordO g.1).getD [] else []

theorem ndK_succ {es : List Ed} {k : Nat} {m : Ed} (e : Ed) (h : es[k]? = some m) : ndK es e (k + 1) = if takB e m then ndK es e k ++ [k] else ndK es e k := by
  rw [ndK, h]
theorem mem_ndK {es : List Ed} {e : Ed} {k j : Nat} : j ∈ ndK es e k ↔ j < k ∧ ∃ m, es[j]? = some m ∧ takB e m = true := by
  induction k with
  | zero => simp [ndK]
  | succ k ih =>
    rw [ndK]
    cases h : es[k]? with
    | none =>
      simp only []
      rw [ih]
      constructor
      · rintro ⟨h1, h2⟩; exact ⟨by omega, h2⟩
      · rintro ⟨h1, m, h2, h3⟩
        refine ⟨?_, m, h2, h3⟩
        rcases Nat.lt_or_ge j k with h4 | h4
        · exact h4
        · obtain rfl : j = k := by omega
          rw [h] at h2; cases h2
    | some m0 =>
      simp only []
      by_cases ht : takB e m0 = true
      · rw [if_pos ht, List.mem_append, ih, List.mem_singleton]
        constructor
        · rintro (⟨h1, h2⟩ | rfl)
          · exact ⟨by omega, h2⟩
          · exact ⟨by omega, m0, h, ht⟩
        · rintro ⟨h1, h2⟩
          rcases Nat.lt_or_ge j k with h4 | h4
          · exact Or.inl ⟨h4, h2⟩
          · exact Or.inr (by omega)
      · rw [if_neg ht, ih]
        constructor
        · rintro ⟨h1, h2⟩; exact ⟨by omega, h2⟩
        · rintro ⟨h1, m, h2, h3⟩
          refine ⟨?_, m, h2, h3⟩
          rcases Nat.lt_or_ge j k with h4 | h4
          · exact h4
          · obtain rfl : j = k := by omega
            rw [h] at h2; cases h2; exact absurd h3 ht
theorem mem_ndI {es : List Ed} {e : Ed} {j : Nat} : j ∈ ndI es e ↔ ∃ m, es[j]? = some m ∧ takB e m = true := by
  unfold ndI
  rw [mem_ndK]
  constructor
  · rintro ⟨_, h⟩; exact h
  · rintro ⟨m, h, h2⟩; exact ⟨(List.getElem?_eq_some_iff.1 h).1, m, h, h2⟩
theorem ndK_lt {es : List Ed} {e : Ed} {k j : Nat} (h : j ∈ ndK es e k) : j < k := (mem_ndK.1 h).1
theorem ndK_len (es : List Ed) (e : Ed) (k : Nat) : (ndK es e k).length ≤ k := by
  induction k with
  | zero => simp [ndK]
  | succ k ih =>
    rw [ndK]
    cases es[k]? with
    | none => simp only []; omega
    | some m =>
      simp only []
      split
      · rw [List.length_append]; simp; omega
      · omega

theorem okB_at {es : List Ed} {t : List Bool} {i : Nat} {e : Ed} (h : es[i]? = some e) : okB es t i = (!tB t i && (ndI es e).all (tB t)) := by
  unfold okB; rw [h]
theorem nxt_some {es : List Ed} {t : List Bool} {i : Nat} (h1 : i < es.length) (h2 : okB es t i = true) (h3 : ∀ j < i, okB es t j = false) : nxt es t = some i := by
  unfold nxt
  rw [List.find?_range_eq_some]
  exact ⟨h2, by simpa using h1, fun j hj => by simp [h3 j hj]⟩
theorem nxt_none {es : List Ed} {t : List Bool} (h : ∀ j < es.length, okB es t j = false) : nxt es t = none := by
  unfold nxt
  rw [List.find?_range_eq_none]
  exact fun j hj => by simp [h j hj]
theorem nxt_is {es : List Ed} {t : List Bool} {i : Nat} (h : nxt es t = some i) : i < es.length ∧ okB es t i = true ∧ ∀ j < i, okB es t j = false := by
  unfold nxt at h
  rw [List.find?_range_eq_some] at h
  exact ⟨by simpa using h.2.1, h.1, fun j hj => by simpa using h.2.2 j hj⟩
theorem nxt_no {es : List Ed} {t : List Bool} (h : nxt es t = none) : ∀ j < es.length, okB es t j = false := by
  unfold nxt at h
  rw [List.find?_range_eq_none] at h
  exact fun j hj => by simpa using h j hj
theorem run_some {es : List Ed} {f : Nat} {t : List Bool} {row : List Nat} {i : Nat} (h : nxt es t = some i) : run es (f + 1) t row = run es f (t.set i true) (row ++ [i]) := by rw [run, h]
theorem run_none {es : List Ed} {f : Nat} {t : List Bool} {row : List Nat} (h : nxt es t = none) : run es (f + 1) t row = none := by rw [run, h]

theorem tB_false {n j : Nat} : tB (fls n) j = false := by
  unfold tB fls
  rw [List.getElem?_replicate]
  split <;> rfl
theorem tB_get {t : List Bool} {j : Nat} {b : Bool} (h : t[j]? = some b) : tB t j = b := by
  unfold tB; rw [h]; cases b <;> rfl
theorem tB_set {t : List Bool} {i j : Nat} (hi : i < t.length) : tB (t.set i true) j = (tB t j || decide (j = i)) := by
  unfold tB
  rw [List.getElem?_set]
  by_cases h : i = j
  · subst h; simp [hi]
  · rw [if_neg h]
    have : ¬ j = i := fun e => h e.symm
    simp [this]

/-! the steps of a row -/
def Steps (es : List Ed) : List Bool → List Nat → Prop
  | _, [] => True
  | t, i :: r => nxt es t = some i ∧ Steps es (t.set i true) r
theorem run_steps {es : List Ed} : ∀ {f : Nat} {t : List Bool} {row0 row : List Nat}, run es f t row0 = some row → ∃ r, row = row0 ++ r ∧ r.length = f ∧ Steps es t r
  | 0, t, row0, row, h => ⟨[], by rw [run] at h; simpa using h.symm, rfl, trivial⟩
  | f + 1, t, row0, row, h => by
    rw [run] at h
    cases hn : nxt es t with
    | none => rw [hn] at h; cases h
    | some i =>
      rw [hn] at h
      obtain ⟨r, h1, h2, h3⟩ := run_steps h
      exact ⟨i :: r, by rw [h1]; simp, by simp [h2], hn, h3⟩
theorem steps_run {es : List Ed} : ∀ {r : List Nat} {t : List Bool} {row0 : List Nat}, Steps es t r → run es r.length t row0 = some (row0 ++ r)
  | [], t, row0, _ => by simp [run]
  | i :: r, t, row0, h => by
    rw [List.length_cons, run_some h.1, steps_run h.2]; simp
def tld (t : List Bool) (r : List Nat) : List Bool := r.foldl (fun t i => t.set i true) t
theorem tld_len (t : List Bool) (r : List Nat) : (tld t r).length = t.length := by
  induction r generalizing t with
  | nil => rfl
  | cons i r ih => show (tld (t.set i true) r).length = _; rw [ih]; simp
theorem tld_snoc (t : List Bool) (r : List Nat) (i : Nat) : tld t (r ++ [i]) = (tld t r).set i true := by unfold tld; simp
theorem steps_at {es : List Ed} : ∀ {r : List Nat} {t : List Bool} {k i : Nat}, Steps es t r → r[k]? = some i → nxt es (tld t (r.take k)) = some i
  | [], _, _, _, _, h => by simp at h
  | j :: r, t, 0, i, hs, h => by simp at h; subst h; exact hs.1
  | j :: r, t, k + 1, i, hs, h => by
    simp at h
    show nxt es (tld (t.set j true) (r.take k)) = some i
    exact steps_at hs.2 h
theorem orL_facts {g : Gh} (h : orE g = 0) : ckE g = 0 ∧ ∃ r, orL g = r ∧ r.length = g.1.length ∧ Steps g.1 (fls g.1.length) r := by
  unfold orE at h
  by_cases hc : ckE g = 0
  · rw [if_pos hc] at h
    cases ho : ordO g.1 with
    | none => rw [ho] at h; cases h
    | some row =>
      obtain ⟨r, h1, h2, h3⟩ := run_steps ho
      refine ⟨hc, r, ?_, h2, h3⟩
      unfold orL
      rw [if_pos hc, ho, h1]; rfl
  · rw [if_neg hc] at h; cases h
theorem orL_of {g : Gh} {r : List Nat} (hc : ckE g = 0) (hl : r.length = g.1.length) (hs : Steps g.1 (fls g.1.length) r) : orE g = 0 ∧ orL g = r := by
  have : ordO g.1 = some r := by unfold ordO; rw [← hl, steps_run (by rw [hl]; exact hs)]; rfl
  unfold orE orL
  rw [if_pos hc, if_pos hc, this]; exact ⟨rfl, rfl⟩
theorem orE_form {g : Gh} (h : ¬ ckE g = 0) : orE g = 1000 ∧ orL g = [] := by unfold orE orL; rw [if_neg h, if_neg h]; exact ⟨rfl, rfl⟩
theorem orE_cyc {g : Gh} (h : ckE g = 0) (h2 : ordO g.1 = none) : orE g = 1001 ∧ orL g = [] := by unfold orE orL; rw [if_pos h, if_pos h, h2]; exact ⟨rfl, rfl⟩
theorem orL_empty {g : Gh} (h : ¬ orE g = 0) : orL g = [] := by
  unfold orE at h
  unfold orL
  by_cases hc : ckE g = 0
  · rw [if_pos hc] at h ⊢
    cases ho : ordO g.1 with
    | none => rfl
    | some row => rw [ho] at h; exact absurd rfl h
  · rw [if_neg hc]

/-! the document's way: the makers of its inputs, by the first that makes each -/
def inL (e : Ed) : Ws := e.2.1 ++ e.2.2.1 ++ e.2.2.2.1
def mkN (es : List Ed) (n : Tx) : List Nat := (es.findIdx? fun e : Ed => e.1.contains n).toList
def rnd (es : List Ed) (e : Ed) : List Nat := (inL e).flatMap (mkN es)
theorem tkO_in (e : Ed) (o : Tx) : tkO e o = true ↔ o ∈ inL e := by
  unfold tkO inL
  simp
theorem one_maker : ∀ {es : List Ed}, twB (ouL es) = false → ∀ {i j : Nat} {a b : Ed} {o : Tx}, es[i]? = some a → es[j]? = some b → o ∈ a.1 → o ∈ b.1 → i = j
  | [], _, i, j, a, b, o, h1, _, _, _ => by simp at h1
  | x :: r, ht, i, j, a, b, o, h1, h2, h3, h4 => by
    have hn : (ouL (x :: r)).Nodup := by unfold twB at ht; simpa using ht
    have he : ouL (x :: r) = x.1 ++ ouL r := by unfold ouL; simp
    rw [he, List.nodup_append] at hn
    have hr : twB (ouL r) = false := by unfold twB; simpa using hn.2.1
    have hm : ∀ {k : Nat} {c : Ed}, r[k]? = some c → o ∈ c.1 → o ∈ ouL r := fun hk hc => by
      unfold ouL; exact List.mem_flatMap.2 ⟨_, List.mem_of_getElem? hk, hc⟩
    cases i with
    | zero =>
      cases j with
      | zero => rfl
      | succ j =>
        simp at h1 h2; subst h1
        exact absurd rfl (hn.2.2 o h3 o (hm h2 h4))
    | succ i =>
      cases j with
      | zero =>
        simp at h1 h2; subst h2
        exact absurd rfl (hn.2.2 o h4 o (hm h1 h3))
      | succ j =>
        simp at h1 h2
        rw [one_maker hr h1 h2 h3 h4]
theorem mem_rnd {es : List Ed} (ht : twB (ouL es) = false) {e : Ed} {j : Nat} : j ∈ rnd es e ↔ j ∈ ndI es e := by
  unfold rnd
  rw [mem_ndI, List.mem_flatMap]
  constructor
  · rintro ⟨n, hn, hj⟩
    unfold mkN at hj
    rw [Option.mem_toList, List.findIdx?_eq_some_iff_getElem] at hj
    obtain ⟨hl, hc, _⟩ := hj
    refine ⟨es[j], List.getElem?_eq_getElem hl, ?_⟩
    unfold takB
    rw [List.any_eq_true]
    exact ⟨n, by simpa using hc, (tkO_in e n).2 hn⟩
  · rintro ⟨m, hm, htk⟩
    unfold takB at htk
    obtain ⟨o, ho, hto⟩ := List.any_eq_true.1 htk
    refine ⟨o, (tkO_in e o).1 hto, ?_⟩
    unfold mkN
    rw [Option.mem_toList]
    cases hf : es.findIdx? (fun e : Ed => e.1.contains o) with
    | none =>
      rw [List.findIdx?_eq_none_iff] at hf
      have := hf m (List.mem_of_getElem? hm)
      simp [ho] at this
    | some i =>
      rw [List.findIdx?_eq_some_iff_getElem] at hf
      obtain ⟨hl, hc, _⟩ := hf
      have hc' : o ∈ es[i].1 := by simpa using hc
      rw [one_maker ht (List.getElem?_eq_getElem hl) hm hc' ho]
theorem rnd_all {es : List Ed} (ht : twB (ouL es) = false) (e : Ed) (p : Nat → Bool) : (rnd es e).all p = (ndI es e).all p := by
  rw [Bool.eq_iff_iff, List.all_eq_true, List.all_eq_true]
  exact ⟨fun h j hj => h j ((mem_rnd ht).2 hj), fun h j hj => h j ((mem_rnd ht).1 hj)⟩
theorem rnd_lt {es : List Ed} {e : Ed} {j : Nat} (h : j ∈ rnd es e) : j < es.length := by
  unfold rnd at h
  obtain ⟨n, _, hj⟩ := List.mem_flatMap.1 h
  unfold mkN at hj
  rw [Option.mem_toList, List.findIdx?_eq_some_iff_getElem] at hj
  exact hj.1
theorem ck_tw {g : Gh} (h : ckE g = 0) : twB (ouL g.1) = false := by
  unfold ckE at h
  cases ht : twB (ouL g.1) with
  | false => rfl
  | true => rw [ht] at h; split at h <;> simp at h

end Go.Proofs.YtfadjppokbolhaaGreatDoor

/- Without an edge that nobody needs the others stand as before; edges in a ring, in a row, edges that need nobody: plain facts, no program in them; no conditions. -/
namespace Go.Proofs.YtfadjppokbolhaaGreatDoor
open Go.RowKit

theorem nodup_most : ∀ (n : Nat) (l : List Nat), l.Nodup → (∀ x ∈ l, x < n) → l.length ≤ n
  | 0, l, _, h => by
    cases l with
    | nil => simp
    | cons a r => exact absurd (h a (by simp)) (by omega)
  | n + 1, l, hn, h => by
    have h1 := nodup_most n (l.erase n) (hn.erase n) (fun x hx => by
      have h2 := h x (List.mem_of_mem_erase hx)
      have h3 : x ≠ n := fun e => by
        subst e
        rw [hn.mem_erase_iff] at hx
        exact hx.1 rfl
      omega)
    by_cases hm : n ∈ l
    · rw [List.length_erase_of_mem hm] at h1; omega
    · rw [List.erase_of_not_mem hm] at h1; omega

def up (k i : Nat) : Nat := if i < k then i else i + 1
def dn (k i : Nat) : Nat := if i < k then i else i - 1
theorem up_dn {k i : Nat} (h : ¬ i = k) : up k (dn k i) = i := by
  unfold up dn
  by_cases h1 : i < k
  · rw [if_pos h1, if_pos h1]
  · rw [if_neg h1, if_neg (by omega)]; omega
theorem up_lt {k i j : Nat} (hi : i < dn k j) : up k i < j := by unfold dn at hi; unfold up; split at hi <;> split <;> omega
theorem get_erase {α : Type} (xs : List α) (k i : Nat) : (xs.eraseIdx k)[i]? = xs[up k i]? := by
  rw [List.getElem?_eraseIdx]; unfold up; split <;> rfl
theorem tB_erase (t : List Bool) (k i : Nat) : tB (t.eraseIdx k) i = tB t (up k i) := by unfold tB; rw [get_erase]
theorem mem_erase {es : List Ed} {k j : Nat} {e : Ed} : j ∈ ndI (es.eraseIdx k) e ↔ up k j ∈ ndI es e := by rw [mem_ndI, mem_ndI, get_erase]
theorem all_erase {es : List Ed} {k : Nat} {e : Ed} (t : List Bool) (hno : k ∉ ndI es e) : (ndI (es.eraseIdx k) e).all (tB (t.eraseIdx k)) = (ndI es e).all (tB t) := by
  rw [Bool.eq_iff_iff, List.all_eq_true, List.all_eq_true]
  constructor
  · intro h j hj
    have hne : ¬ j = k := fun e => hno (by rw [e] at hj; exact hj)
    have := h (dn k j) (mem_erase.2 (by rw [up_dn hne]; exact hj))
    rwa [tB_erase, up_dn hne] at this
  · intro h j hj
    rw [tB_erase]
    exact h _ (mem_erase.1 hj)
theorem ok_erase {es : List Ed} {k : Nat} (t : List Bool) (hno : ∀ e ∈ es, k ∉ ndI es e) (i : Nat) : okB (es.eraseIdx k) (t.eraseIdx k) i = okB es t (up k i) := by
  unfold okB
  rw [get_erase, tB_erase]
  cases h : es[up k i]? with
  | none => rfl
  | some e => simp only []; rw [all_erase t (hno e (List.mem_of_getElem? h))]
theorem set_erase_same (t : List Bool) (k : Nat) : (t.set k true).eraseIdx k = t.eraseIdx k := by
  refine List.ext_getElem? (fun i => ?_)
  rw [get_erase, get_erase, List.getElem?_set_ne]
  unfold up; split <;> omega
theorem set_erase (t : List Bool) {k i : Nat} (h : ¬ i = k) : (t.set i true).eraseIdx k = (t.eraseIdx k).set (dn k i) true := by
  refine List.ext_getElem? (fun j => ?_)
  rw [get_erase, List.getElem?_set, List.getElem?_set, get_erase]
  have hc : i = up k j ↔ dn k i = j := by unfold up dn; split <;> split <;> omega
  by_cases he : i = up k j
  · rw [if_pos he, if_pos (hc.1 he)]
    have hl : (i < t.length) ↔ (dn k i < (t.eraseIdx k).length) := by
      rw [List.length_eraseIdx]; unfold dn; split <;> split <;> omega
    by_cases h1 : i < t.length
    · rw [if_pos h1, if_pos (hl.1 h1)]
    · rw [if_neg h1, if_neg (fun h => h1 (hl.2 h))]
  · rw [if_neg he, if_neg (fun h => he (hc.2 h))]
theorem nxt_erase {es : List Ed} {k i : Nat} {t : List Bool} (hno : ∀ e ∈ es, k ∉ ndI es e) (h : nxt es t = some i) (hne : ¬ i = k) : nxt (es.eraseIdx k) (t.eraseIdx k) = some (dn k i) := by
  obtain ⟨h1, h2, h3⟩ := nxt_is h
  refine nxt_some ?_ ?_ ?_
  · rw [List.length_eraseIdx]; unfold dn; split <;> split <;> omega
  · rw [ok_erase t hno, up_dn hne]; exact h2
  · intro j hj
    rw [ok_erase t hno]
    exact h3 _ (up_lt hj)
def lsW (k : Nat) (r : List Nat) : List Nat := (r.filter (· != k)).map (dn k)
theorem steps_erase {es : List Ed} {k : Nat} (hno : ∀ e ∈ es, k ∉ ndI es e) : ∀ {r : List Nat} {t : List Bool}, Steps es t r → Steps (es.eraseIdx k) (t.eraseIdx k) (lsW k r)
  | [], t, _ => trivial
  | i :: r, t, h => by
    have ih := steps_erase hno h.2
    by_cases he : i = k
    · subst he
      rw [set_erase_same] at ih
      have : lsW i (i :: r) = lsW i r := by unfold lsW; simp
      rw [this]; exact ih
    · have : lsW k (i :: r) = dn k i :: lsW k r := by
        unfold lsW
        have h2 : (i != k) = true := by simpa using he
        rw [List.filter_cons, if_pos h2]; rfl
      rw [this]
      rw [set_erase t he] at ih
      exact ⟨nxt_erase hno h.1 he, ih⟩
theorem steps_nodup {es : List Ed} : ∀ {r : List Nat} {t : List Bool}, t.length = es.length → Steps es t r → r.Nodup ∧ ∀ i ∈ r, i < es.length ∧ tB t i = false
  | [], t, _, _ => ⟨List.nodup_nil, fun i hi => by simp at hi⟩
  | i :: r, t, hl, h => by
    obtain ⟨h1, h2⟩ := steps_nodup (by rw [List.length_set]; exact hl) h.2
    obtain ⟨a1, a2, _⟩ := nxt_is h.1
    have h4 : ∀ x ∈ r, ¬ x = i ∧ tB t x = false := fun x hx => by
      have := (h2 x hx).2
      rw [tB_set (by omega)] at this
      simp at this
      exact ⟨this.2, this.1⟩
    refine ⟨List.nodup_cons.2 ⟨fun hi => (h4 i hi).1 rfl, h1⟩, fun x hx => ?_⟩
    rcases List.mem_cons.1 hx with rfl | hx
    · refine ⟨a1, ?_⟩
      unfold okB at a2
      split at a2
      · simp at a2; exact a2.1
      · cases a2
    · exact ⟨(h2 x hx).1, (h4 x hx).2⟩
theorem erase_less {es : List Ed} {k : Nat} {r : List Nat} (hno : ∀ e ∈ es, k ∉ ndI es e) (hk : k < es.length) (hl : r.length = es.length) (hs : Steps es (fls es.length) r) : Steps (es.eraseIdx k) (fls (es.eraseIdx k).length) (lsW k r) ∧ (lsW k r).length = (es.eraseIdx k).length := by
  have hle : (es.eraseIdx k).length = es.length - 1 := by rw [List.length_eraseIdx, if_pos hk]
  constructor
  · have := steps_erase hno hs
    have e2 : (fls es.length).eraseIdx k = fls (es.eraseIdx k).length := by
      refine List.ext_getElem? (fun j => ?_)
      rw [get_erase]
      unfold fls
      rw [List.getElem?_replicate, List.getElem?_replicate, hle]
      unfold up; split <;> split <;> split <;> first | rfl | omega
    rwa [e2] at this
  · obtain ⟨hn, ha⟩ := steps_nodup (by simp [fls]) hs
    have hm : k ∈ r := by
      apply Classical.byContradiction
      intro hc
      have := nodup_most es.length (k :: r) (List.nodup_cons.2 ⟨hc, hn⟩) (fun x hx => by
        rcases List.mem_cons.1 hx with rfl | hx
        · exact hk
        · exact (ha x hx).1)
      simp at this; omega
    unfold lsW
    rw [List.length_map, ← hn.erase_eq_filter, List.length_erase_of_mem hm, hle, hl]
theorem lsW_snoc (k : Nat) (r : List Nat) (i : Nat) : lsW k (r ++ [i]) = lsW k r ++ (if i < k then [i] else if k < i then [i - 1] else []) := by
  unfold lsW
  rw [List.filter_append, List.map_append]
  congr 1
  by_cases h : i = k
  · subst h
    rw [if_neg (by omega), if_neg (by omega)]; simp
  · have h2 : (i != k) = true := by simpa using h
    rw [List.filter_cons, if_pos h2]
    unfold dn
    by_cases h3 : i < k
    · rw [if_pos h3]; simp [h3]
    · rw [if_neg h3, if_pos (by omega)]; simp [h3]
theorem ou_sub {a b : List Ed} (h : a.Sublist b) : (ouL a).Sublist (ouL b) := by
  induction h with
  | slnil => exact List.Sublist.refl _
  | cons x _ ih => exact ih.trans (by show (ouL _).Sublist (x.1 ++ ouL _); exact List.sublist_append_right _ _)
  | cons_cons x _ ih => show (x.1 ++ ouL _).Sublist (x.1 ++ ouL _); exact List.Sublist.append (List.Sublist.refl _) ih
theorem ck_erase {es : List Ed} {ps : List Po} {d : Ws} (k : Nat) (h : ckE (es, ps, d) = 0) : ckE (es.eraseIdx k, ps, d) = 0 := by
  have hm : gmB (es, ps, d) = true := by
    cases hm : gmB (es, ps, d) with
    | true => rfl
    | false => unfold ckE at h; rw [hm] at h; simp at h
  have ht := ck_tw h
  have hm2 : gmB (es.eraseIdx k, ps, d) = true := by
    unfold gmB esB at hm ⊢
    simp only [Bool.and_eq_true, decide_eq_true_eq, List.all_eq_true] at hm ⊢
    refine ⟨hm.1, hm.2.1, ?_, fun x hx => hm.2.2.2 x ((List.eraseIdx_sublist _ _).mem hx)⟩
    exact Nat.le_trans (List.eraseIdx_sublist _ _).length_le hm.2.2.1
  have ht2 : twB (ouL (es.eraseIdx k)) = false := by
    unfold twB at ht ⊢
    simp only [Bool.not_eq_false', decide_eq_true_eq] at ht ⊢
    refine ht.sublist ?_
    exact ou_sub (List.eraseIdx_sublist es k)
  unfold ckE
  rw [hm2, ht2]; rfl

theorem tB_tld : ∀ (l : List Nat) (t : List Bool) (j : Nat), (∀ i ∈ l, i < t.length) → tB (tld t l) j = (tB t j || decide (j ∈ l))
  | [], t, j, _ => by simp [tld]
  | i :: r, t, j, h => by
    show tB (tld (t.set i true) r) j = _
    rw [tB_tld r _ j (fun x hx => by rw [List.length_set]; exact h x (by simp [hx])), tB_set (h i (by simp)), Bool.eq_iff_iff]
    simp [or_assoc]
theorem steps_intro {es : List Ed} : ∀ {r : List Nat} {t : List Bool}, (∀ m i, r[m]? = some i → nxt es (tld t (r.take m)) = some i) → Steps es t r
  | [], _, _ => trivial
  | i :: r, t, h => ⟨h 0 i rfl, steps_intro (fun m j hj => h (m + 1) j (by simpa using hj))⟩

/-! edges that need nobody -/
theorem plain_steps {es : List Ed} (h : ∀ e ∈ es, ndI es e = []) : Steps es (fls es.length) (List.range es.length) := by
  refine steps_intro (fun m i hi => ?_)
  obtain ⟨h1, h2⟩ := List.getElem?_eq_some_iff.1 hi
  rw [List.length_range] at h1
  rw [List.getElem_range] at h2
  subst h2
  have hb : ∀ x ∈ (List.range es.length).take m, x < (fls es.length).length := fun x hx => by
    have := List.mem_of_mem_take hx
    simpa [fls] using this
  have hk : ∀ j, tB (tld (fls es.length) ((List.range es.length).take m)) j = decide (j < m) := fun j => by
    rw [tB_tld _ _ _ hb, tB_false, Bool.false_or, List.take_range, Nat.min_eq_left (by omega)]
    simp
  refine nxt_some h1 ?_ ?_
  · rw [okB_at (List.getElem?_eq_getElem h1), hk, h _ (List.getElem_mem _)]; simp
  · intro j hj
    rw [okB_at (List.getElem?_eq_getElem (by omega)), hk]; simp [hj]

/-! a ring, a row: each needs the next -/
theorem ring_none {es : List Ed} (h0 : 0 < es.length) (h : ∀ (i : Nat) e, es[i]? = some e → ndI es e ≠ []) : ordO es = none := by
  unfold ordO
  obtain ⟨f, hf⟩ : ∃ f, es.length = f + 1 := ⟨es.length - 1, by omega⟩
  have : nxt es (fls es.length) = none := by
    refine nxt_none (fun j hj => ?_)
    rw [okB_at (List.getElem?_eq_getElem hj), tB_false]
    have hne := h j _ (List.getElem?_eq_getElem hj)
    cases hl : ndI es es[j] with
    | nil => exact absurd hl hne
    | cons a r => rw [List.all_cons, tB_false]; rfl
  rw [hf] at this ⊢
  exact run_none this
theorem row_steps {es : List Ed} (h : ∀ (i : Nat) e, es[i]? = some e → ∀ j, j ∈ ndI es e ↔ j = i + 1 ∧ j < es.length) : Steps es (fls es.length) (List.range es.length).reverse := by
  refine steps_intro (fun m i hi => ?_)
  obtain ⟨h1, h2⟩ := List.getElem?_eq_some_iff.1 hi
  rw [List.length_reverse, List.length_range] at h1
  rw [List.getElem_reverse, List.getElem_range, List.length_range] at h2
  subst h2
  have hmem : ∀ x, x ∈ (List.range es.length).reverse.take m ↔ (x < es.length ∧ es.length - m ≤ x) := fun x => by
    rw [List.mem_take_iff_getElem]
    constructor
    · rintro ⟨j, hj, rfl⟩
      rw [List.length_reverse, List.length_range] at hj
      rw [List.getElem_reverse, List.getElem_range, List.length_range]; omega
    · rintro ⟨a, b⟩
      refine ⟨es.length - 1 - x, by rw [List.length_reverse, List.length_range]; omega, ?_⟩
      rw [List.getElem_reverse, List.getElem_range, List.length_range]; omega
  have hk : ∀ j, tB (tld (fls es.length) ((List.range es.length).reverse.take m)) j = decide (j < es.length ∧ es.length - m ≤ j) := fun j => by
    rw [tB_tld _ _ _ (fun x hx => by have := ((hmem x).1 hx).1; simpa [fls] using this), tB_false, Bool.false_or]
    simp only [hmem]
  refine nxt_some (by omega) ?_ ?_
  · rw [okB_at (List.getElem?_eq_getElem (by omega)), hk]
    rw [Bool.and_eq_true]
    refine ⟨by simp; omega, ?_⟩
    rw [List.all_eq_true]
    intro j hj
    rw [hk]
    have := (h _ _ (List.getElem?_eq_getElem (by omega)) j).1 hj
    simp; omega
  · intro j hj
    rw [okB_at (List.getElem?_eq_getElem (by omega))]
    have hx : j + 1 ∈ ndI es es[j] := (h _ _ (List.getElem?_eq_getElem (by omega)) (j + 1)).2 ⟨rfl, by omega⟩
    rw [Bool.and_eq_false_iff]
    right
    rw [List.all_eq_false]
    exact ⟨j + 1, hx, by rw [hk]; simp; omega⟩

end Go.Proofs.YtfadjppokbolhaaGreatDoor

/- Which edge is next, found from the last down to the first: plain facts, no program in them; no conditions. -/
namespace Go.Proofs.YtfadjppokbolhaaGreatDoor
open Go.RowKit

/-- The least edge from j on that may be told, or -1. -/
def nxD (es : List Ed) (t : List Bool) (j : Nat) (z : Int) : Prop :=
  (z = -1 ∧ ∀ i, j ≤ i → i < es.length → okB es t i = false) ∨ (∃ p : Nat, z = (p : Int) ∧ j ≤ p ∧ p < es.length ∧ okB es t p = true ∧ ∀ i, j ≤ i → i < p → okB es t i = false)
theorem nxD_top (es : List Ed) (t : List Bool) : nxD es t es.length (-1) := Or.inl ⟨rfl, fun i h1 h2 => by omega⟩
theorem nxD_yes {es : List Ed} {t : List Bool} {j : Nat} (hj : j < es.length) (h : okB es t j = true) : nxD es t j (j : Int) := Or.inr ⟨j, rfl, Nat.le_refl _, hj, h, fun i h1 h2 => by omega⟩
theorem nxD_no {es : List Ed} {t : List Bool} {j : Nat} {z : Int} (h : nxD es t (j + 1) z) (hn : okB es t j = false) : nxD es t j z := by
  have hk : ∀ i, j ≤ i → i = j ∨ j + 1 ≤ i := fun i h => by omega
  rcases h with ⟨h1, h2⟩ | ⟨p, h1, h2, h3, h4, h5⟩
  · refine Or.inl ⟨h1, fun i a b => ?_⟩
    rcases hk i a with rfl | h
    · exact hn
    · exact h2 i h b
  · refine Or.inr ⟨p, h1, by omega, h3, h4, fun i a b => ?_⟩
    rcases hk i a with rfl | h
    · exact hn
    · exact h5 i h b
theorem nxD_end {es : List Ed} {t : List Bool} {z : Int} (h : nxD es t 0 z) : (z = -1 ∧ nxt es t = none) ∨ (∃ p : Nat, z = (p : Int) ∧ p < es.length ∧ nxt es t = some p) := by
  rcases h with ⟨h1, h2⟩ | ⟨p, h1, _, h3, h4, h5⟩
  · exact Or.inl ⟨h1, nxt_none (fun j hj => h2 j (Nat.zero_le _) hj)⟩
  · exact Or.inr ⟨p, h1, h3, nxt_some h3 h4 (fun j hj => h5 j (Nat.zero_le _) hj)⟩
theorem nxD_ge {es : List Ed} {t : List Bool} {j : Nat} {z : Int} (h : nxD es t j z) : -1 ≤ z ∧ z < es.length + 1 := by
  rcases h with ⟨h1, _⟩ | ⟨p, h1, _, h3, _⟩
  · omega
  · omega

end Go.Proofs.YtfadjppokbolhaaGreatDoor
