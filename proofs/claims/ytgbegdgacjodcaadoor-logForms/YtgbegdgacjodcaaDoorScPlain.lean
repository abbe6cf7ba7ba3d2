/- Plain facts on scopes, with no program in them: binds, which may be, where a name stands, one set, one told; no conditions. -/
import Derived.Test.YtgbegdgacjodcaaDoorPcPlain
import Derived.Test.YtgbegdgacjodcaaDoorStPlain
namespace Go.Proofs.YtgbegdgacjodcaaDoor
open Go.RowKit

/-- A bind: its name, its text. -/
abbrev Bd := ByteArray × ByteArray

def dv (b : Bd) : List Value := [.string b.1, .string b.2]
theorem dv_len (b : Bd) : (dv b).length = 2 := rfl

theorem bl_inj {x y : ByteArray} (h : bl x = bl y) : x = y := (of_bl h).trans (of_bl rfl).symm

def named (n : ByteArray) (b : Bd) : Bool := bl b.1 == bl n
theorem named_toList (n : ByteArray) (b : Bd) : (b.1.toList == n.toList) = named n b := by rw [bl_toList, bl_toList]; rfl
theorem named_eq {n : ByteArray} {b : Bd} (h : named n b = true) : b.1 = n := bl_inj (by simpa [named] using h)

/-- May the text be one's? -/
def txB (t : ByteArray) : Bool := decide ((t.size : Int) ≤ 256) && plainL (bl t)
def mayBd (b : Bd) : Bool := mayB b.1 && txB b.2

def okAt (bs : List Bd) (k : Nat) (b : Bd) : Bool := mayBd b && !(bs.take k).any (named b.1)
def okK (bs : List Bd) : Nat → Bool
  | 0 => true
  | k + 1 => okK bs k && (match bs[k]? with | some b => okAt bs k b | none => true)

/-- May the scope be? -/
def scOk (bs : List Bd) : Bool := decide (bs.length ≤ 16) && okK bs bs.length

theorem okK_succ {bs : List Bd} {k : Nat} {b : Bd} (h : bs[k]? = some b) : okK bs (k + 1) = (okK bs k && okAt bs k b) := by
  show (okK bs k && _) = _
  rw [h]

theorem okK_down {bs : List Bd} {m : Nat} (h : okK bs m = true) : ∀ {k : Nat}, k ≤ m → okK bs k = true := by
  induction m with
  | zero => intro k hk; rw [Nat.le_zero.1 hk]; rfl
  | succ m ih =>
    intro k hk
    rcases Nat.lt_or_ge k (m + 1) with h1 | h1
    · refine ih ?_ (Nat.lt_succ_iff.1 h1)
      exact (Bool.and_eq_true_iff.1 (show (okK bs m && _) = true from h)).1
    · rw [Nat.le_antisymm hk h1]; exact h

theorem scOk_bad {bs : List Bd} {k : Nat} {b : Bd} (h : bs[k]? = some b) (hb : okAt bs k b = false) : scOk bs = false := by
  have hlt : k < bs.length := (List.getElem?_eq_some_iff.1 h).1
  unfold scOk
  cases ho : okK bs bs.length
  · simp
  · have := okK_down ho (show k + 1 ≤ bs.length from hlt)
    rw [okK_succ h, hb, Bool.and_false] at this
    cases this
theorem scOk_long {bs : List Bd} (h : 16 < bs.length) : scOk bs = false := by unfold scOk; rw [decide_eq_false (by omega)]; rfl
theorem scOk_end {bs : List Bd} (h : okK bs bs.length = true) : scOk bs = decide (bs.length ≤ 16) := by unfold scOk; rw [h, Bool.and_true]
theorem scOk_parts {bs : List Bd} (h : scOk bs = true) : bs.length ≤ 16 ∧ ∀ k b, bs[k]? = some b → mayBd b = true ∧ (bs.take k).any (named b.1) = false := by
  have h2 := Bool.and_eq_true_iff.1 h
  refine ⟨by simpa using h2.1, fun k b hb => ?_⟩
  have := okK_down h2.2 (show k + 1 ≤ bs.length from (List.getElem?_eq_some_iff.1 hb).1)
  rw [okK_succ hb] at this
  have h3 := Bool.and_eq_true_iff.1 (Bool.and_eq_true_iff.1 this).2
  exact ⟨h3.1, by simpa using h3.2⟩
theorem scOk_of {bs : List Bd} (hl : bs.length ≤ 16) (h : ∀ k b, bs[k]? = some b → mayBd b = true ∧ (bs.take k).any (named b.1) = false) : scOk bs = true := by
  have : ∀ m, m ≤ bs.length → okK bs m = true := by
    intro m
    induction m with
    | zero => intro _; rfl
    | succ m ih =>
      intro hm
      have hg : bs[m]? = some bs[m] := List.getElem?_eq_getElem (by omega)
      obtain ⟨h1, h2⟩ := h m _ hg
      rw [okK_succ hg, ih (by omega), okAt, h1, h2]; rfl
  unfold scOk
  rw [this _ (Nat.le_refl _), decide_eq_true hl]; rfl

/-- Where the name stands. -/
def hit (bs : List Bd) (n : ByteArray) : Option Nat := bs.findIdx? (named n)
def hitI (bs : List Bd) (n : ByteArray) : Int := match hit bs n with | some k => (k : Int) | none => -1

theorem any_take_succ {bs : List Bd} {k : Nat} {b : Bd} (p : Bd → Bool) (h : bs[k]? = some b) : (bs.take (k + 1)).any p = ((bs.take k).any p || p b) := by
  rw [List.take_add_one, h, List.any_append]; simp

theorem hit_at {bs : List Bd} {n : ByteArray} {k : Nat} {b : Bd} (h : bs[k]? = some b) (hno : (bs.take k).any (named n) = false) (hb : named n b = true) : hit bs n = some k := by
  unfold hit
  obtain ⟨hlt, he⟩ := List.getElem?_eq_some_iff.1 h
  rw [List.findIdx?_eq_some_iff_getElem]
  refine ⟨hlt, by rw [he]; exact hb, ?_⟩
  intro j hj
  have := List.any_eq_false.1 hno bs[j] (by
    rw [List.mem_take_iff_getElem]; exact ⟨j, by omega, rfl⟩)
  simpa using this
theorem hit_none {bs : List Bd} {n : ByteArray} (hno : bs.any (named n) = false) : hit bs n = none := by
  unfold hit
  rw [List.findIdx?_eq_none_iff]
  intro x hx
  simpa using List.any_eq_false.1 hno x hx
theorem hit_some {bs : List Bd} {n : ByteArray} {k : Nat} (h : hit bs n = some k) : ∃ b, bs[k]? = some b ∧ named n b = true ∧ (bs.take k).any (named n) = false := by
  unfold hit at h
  rw [List.findIdx?_eq_some_iff_getElem] at h
  obtain ⟨hlt, h1, h2⟩ := h
  refine ⟨bs[k], List.getElem?_eq_getElem hlt, h1, ?_⟩
  rw [List.any_eq_false]
  intro x hx
  rw [List.mem_take_iff_getElem] at hx
  obtain ⟨j, hj, rfl⟩ := hx
  simpa using h2 j (by omega)
theorem hit_none' {bs : List Bd} {n : ByteArray} (h : hit bs n = none) : bs.any (named n) = false := by
  unfold hit at h
  rw [List.findIdx?_eq_none_iff] at h
  rw [List.any_eq_false]
  intro x hx; simpa using h x hx

/-- One is set: the binds, the number. -/
def setB (bs : List Bd) (n t : ByteArray) : List Bd :=
  if scOk bs && mayB n && txB t then
    match hit bs n with
    | some k => bs.set k (n, t)
    | none => if bs.length = 16 then [] else bs ++ [(n, t)]
  else []
def setE (bs : List Bd) (n t : ByteArray) : Int :=
  if scOk bs && mayB n && txB t then
    match hit bs n with
    | some _ => 0
    | none => if bs.length = 16 then 401 else 0
  else 400
/-- One's text is told. -/
def getB (bs : List Bd) (n : ByteArray) : ByteArray :=
  if scOk bs then match hit bs n with
    | some k => match bs[k]? with | some b => b.2 | none => ByteArray.empty
    | none => ByteArray.empty
  else ByteArray.empty

theorem set_no {bs : List Bd} {n t : ByteArray} (h : (scOk bs && mayB n && txB t) = false) : setB bs n t = [] ∧ setE bs n t = 400 := by
  unfold setB setE; rw [h]; exact ⟨rfl, rfl⟩
theorem set_hit {bs : List Bd} {n t : ByteArray} {k : Nat} (h : (scOk bs && mayB n && txB t) = true) (hh : hit bs n = some k) : setB bs n t = bs.set k (n, t) ∧ setE bs n t = 0 := by
  unfold setB setE; rw [h, hh]; exact ⟨rfl, rfl⟩
theorem set_full {bs : List Bd} {n t : ByteArray} (h : (scOk bs && mayB n && txB t) = true) (hh : hit bs n = none) (hl : bs.length = 16) : setB bs n t = [] ∧ setE bs n t = 401 := by
  unfold setB setE; rw [h, hh]; simp [hl]
theorem set_more {bs : List Bd} {n t : ByteArray} (h : (scOk bs && mayB n && txB t) = true) (hh : hit bs n = none) (hl : bs.length ≠ 16) : setB bs n t = bs ++ [(n, t)] ∧ setE bs n t = 0 := by
  unfold setB setE; rw [h, hh]; simp [hl]
theorem get_no {bs : List Bd} {n : ByteArray} (h : scOk bs = false) : getB bs n = ByteArray.empty := by unfold getB; rw [h]; rfl
theorem get_hit {bs : List Bd} {n : ByteArray} {k : Nat} {b : Bd} (h : scOk bs = true) (hh : hit bs n = some k) (hb : bs[k]? = some b) : getB bs n = b.2 := by
  unfold getB; rw [h, hh]; simp [hb]
theorem get_none {bs : List Bd} {n : ByteArray} (hh : hit bs n = none) : getB bs n = ByteArray.empty := by
  unfold getB; rw [hh]; simp

/-- Each text is no longer than a string can be. -/
def Fit (bs : List Bd) : Prop := ∀ b ∈ bs, b.1.size ≤ maxLen ∧ b.2.size ≤ maxLen
theorem Fit.at {bs : List Bd} (h : Fit bs) {k : Nat} {b : Bd} (hb : bs[k]? = some b) : b.1.size ≤ maxLen ∧ b.2.size ≤ maxLen := h b (List.mem_of_getElem? hb)

theorem mayB_size {s : ByteArray} (h : mayB s = true) : s.size ≤ 16 := by
  unfold mayB at h
  have := (Bool.and_eq_true_iff.1 (Bool.and_eq_true_iff.1 h).1).2
  simpa using this
theorem txB_size {s : ByteArray} (h : txB s = true) : s.size ≤ 256 := by
  unfold txB at h
  have := (Bool.and_eq_true_iff.1 h).1
  have h2 := of_decide_eq_true this
  omega
theorem mayBd_size {b : Bd} (h : mayBd b = true) : b.1.size ≤ 16 ∧ b.2.size ≤ 256 := by
  have := Bool.and_eq_true_iff.1 h
  exact ⟨mayB_size this.1, txB_size this.2⟩

/-- What is set may be. -/
theorem set_ok {bs : List Bd} {n t : ByteArray} (h : setE bs n t = 0) : scOk (setB bs n t) = true := by
  cases ha : (scOk bs && mayB n && txB t)
  · rw [(set_no ha).2] at h; cases h
  have h3 := Bool.and_eq_true_iff.1 ha
  have h4 := Bool.and_eq_true_iff.1 h3.1
  obtain ⟨hl, hk⟩ := scOk_parts h4.1
  have hnt : mayBd (n, t) = true := by unfold mayBd; rw [h4.2, h3.2]; rfl
  cases hh : hit bs n with
  | none =>
    by_cases h16 : bs.length = 16
    · rw [(set_full ha hh h16).2] at h; cases h
    · rw [(set_more ha hh h16).1]
      refine scOk_of (by rw [List.length_append]; simp; omega) ?_
      intro k b hb
      rcases Nat.lt_or_ge k bs.length with h1 | h1
      · rw [List.getElem?_append_left h1] at hb
        rw [List.take_append_of_le_length (by omega)]
        exact hk k b hb
      · rw [List.getElem?_append_right h1] at hb
        have h0 : k - bs.length = 0 := by
          rcases Nat.eq_zero_or_pos (k - bs.length) with h | h
          · exact h
          · rw [List.getElem?_eq_none (by simp; omega)] at hb; cases hb
        rw [h0] at hb
        simp at hb
        subst hb
        refine ⟨hnt, ?_⟩
        rw [show k = bs.length by omega, List.take_left]
        exact hit_none' hh
  | some i =>
    obtain ⟨c, hc, hcn, hno⟩ := hit_some hh
    rw [(set_hit ha hh).1]
    have hne : ∀ (m : ByteArray) (k : Nat), ((bs.set i (n, t)).take k).any (named m) = (bs.take k).any (named m) := by
      intro m k
      rw [List.take_set]
      rw [Bool.eq_iff_iff, List.any_eq_true, List.any_eq_true]
      have hcm : named m c = named m (n, t) := by unfold named; rw [named_eq hcn]
      constructor
      · rintro ⟨x, hx, hm⟩
        rcases List.mem_or_eq_of_mem_set hx with h1 | h1
        · exact ⟨x, h1, hm⟩
        · subst h1
          rw [List.mem_iff_getElem?] at hx
          obtain ⟨j, hj⟩ := hx
          by_cases hji : j = i
          · subst hji
            have hlen : j < (bs.take k).length := by
              have := (List.getElem?_eq_some_iff.1 hj).1
              simpa using this
            have : (bs.take k)[j]? = some c := by rw [List.getElem?_take, if_pos (by simp at hlen; omega)]; exact hc
            exact ⟨c, List.mem_of_getElem? this, by rw [hcm]; exact hm⟩
          · rw [List.getElem?_set_ne (Ne.symm hji)] at hj
            exact ⟨_, List.mem_of_getElem? hj, hm⟩
      · rintro ⟨x, hx, hm⟩
        rw [List.mem_iff_getElem?] at hx
        obtain ⟨j, hj⟩ := hx
        by_cases hji : j = i
        · subst hji
          have hjl := (List.getElem?_eq_some_iff.1 hj).1
          refine ⟨(n, t), List.mem_of_getElem? (i := j) (by rw [List.getElem?_set_self hjl]), ?_⟩
          have : x = c := by
            rw [List.getElem?_take, if_pos (by simp at hjl; omega)] at hj
            rw [hc] at hj; exact (Option.some.inj hj).symm
          rw [← hcm, ← this]; exact hm
        · exact ⟨x, List.mem_of_getElem? (i := j) (by rw [List.getElem?_set_ne (Ne.symm hji)]; exact hj), hm⟩
    refine scOk_of (by rw [List.length_set]; exact hl) ?_
    intro k b hb
    rw [hne]
    by_cases hki : k = i
    · subst hki
      rw [List.getElem?_set_self (List.getElem?_eq_some_iff.1 hc).1] at hb
      cases hb
      exact ⟨hnt, hno⟩
    · rw [List.getElem?_set_ne (Ne.symm hki)] at hb
      exact hk k b hb

theorem set_fit {bs : List Bd} {n t : ByteArray} : Fit (setB bs n t) ∧ (setB bs n t).length ≤ 16 ∧ ∀ b ∈ setB bs n t, b.1.size ≤ 16 ∧ b.2.size ≤ 256 := by
  by_cases h : setE bs n t = 0
  · have h2 := scOk_parts (set_ok h)
    have h3 : ∀ b ∈ setB bs n t, b.1.size ≤ 16 ∧ b.2.size ≤ 256 := by
      intro b hb
      obtain ⟨k, hk⟩ := List.mem_iff_getElem?.1 hb
      exact mayBd_size (h2.2 k b hk).1
    exact ⟨fun b hb => by have := h3 b hb; unfold maxLen; omega, h2.1, h3⟩
  · have : setB bs n t = [] := by
      unfold setE at h; unfold setB
      split
      · rename_i ha
        rw [ha, if_pos rfl] at h
        cases hh : hit bs n with
        | some k => rw [hh] at h; exact absurd rfl h
        | none =>
          rw [hh] at h
          by_cases h16 : bs.length = 16
          · simp [h16]
          · simp [h16] at h
      · rfl
    rw [this]
    exact ⟨fun b hb => by simp at hb, by simp, fun b hb => by simp at hb⟩

end Go.Proofs.YtgbegdgacjodcaaDoor
