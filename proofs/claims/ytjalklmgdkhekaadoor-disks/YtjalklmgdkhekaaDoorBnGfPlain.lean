/- Several texts of mine in one: MfIx, GfPlain. -/
import Derived.Test.YtjalklmgdkhekaaDoorBnEvPlain
/- Where the first of a row is that a test takes; a text cut at its first sign: plain facts, no program in them; no conditions. -/
namespace Go.Proofs.YtjalklmgdkhekaaDoor
open Go.RowKit

theorem txt_beq (a : Tx) (n : ByteArray) : ((⟨a.toArray⟩ : ByteArray).toList == n.toList) = (a == bl n) := by rw [bl_toList, bl_toList]; rfl
theorem is_key {k : ByteArray} {l : Tx} (h : bl k = l) : (k.toList == l) = true := by rw [bl_toList, h]; simp
theorem no_key {k : ByteArray} {l : Tx} (h : bl k ≠ l) : (k.toList == l) = false := by rw [bl_toList]; simpa using h
theorem is_keyn {k : ByteArray} {l : Tx} (h : bl k = l) : (k.toList != l) = false := by unfold bne; rw [is_key h]; rfl
theorem no_keyn {k : ByteArray} {l : Tx} (h : bl k ≠ l) : (k.toList != l) = true := by unfold bne; rw [no_key h]; rfl
theorem is_emp {k : ByteArray} (h : bl k = []) : k.toList.isEmpty = true := by rw [bl_toList, h]; rfl
theorem no_emp {k : ByteArray} (h : bl k ≠ []) : k.toList.isEmpty = false := by
  rw [bl_toList]
  cases hb : bl k with
  | nil => exact absurd hb h
  | cons a b => rfl

def ixB {α : Type} (p : α → Bool) (xs : List α) : Int := match xs.findIdx? p with | some k => (k : Int) | none => -1

theorem anyt_succ {α : Type} {xs : List α} {k : Nat} {x : α} (p : α → Bool) (h : xs[k]? = some x) : (xs.take (k + 1)).any p = ((xs.take k).any p || p x) := by
  rw [List.take_add_one, h, List.any_append]; simp
theorem find_at {α : Type} {p : α → Bool} {xs : List α} {k : Nat} {x : α} (h : xs[k]? = some x) (hno : (xs.take k).any p = false) (hx : p x = true) : xs.findIdx? p = some k := by
  obtain ⟨hlt, he⟩ := List.getElem?_eq_some_iff.1 h
  rw [List.findIdx?_eq_some_iff_getElem]
  refine ⟨hlt, by rw [he]; exact hx, ?_⟩
  intro j hj
  have := List.any_eq_false.1 hno xs[j] (by rw [List.mem_take_iff_getElem]; exact ⟨j, by omega, rfl⟩)
  simpa using this
theorem find_no {α : Type} {p : α → Bool} {xs : List α} (hno : xs.any p = false) : xs.findIdx? p = none := by
  rw [List.findIdx?_eq_none_iff]
  intro x hx
  simpa using List.any_eq_false.1 hno x hx
theorem ixB_at {α : Type} {p : α → Bool} {xs : List α} {k : Nat} {x : α} (h : xs[k]? = some x) (hno : (xs.take k).any p = false) (hx : p x = true) : ixB p xs = k := by
  unfold ixB; rw [find_at h hno hx]
theorem ixB_no {α : Type} {p : α → Bool} {xs : List α} (hno : xs.any p = false) : ixB p xs = -1 := by
  unfold ixB; rw [find_no hno]
theorem ixB_dec {α : Type} (p : α → Bool) (xs : List α) : decide (0 ≤ ixB p xs) = xs.any p := by
  unfold ixB
  cases h : xs.findIdx? p with
  | none =>
    rw [List.findIdx?_eq_none_iff] at h
    have : xs.any p = false := by rw [List.any_eq_false]; intro x hx; simpa using h x hx
    rw [this]; rfl
  | some k =>
    rw [List.findIdx?_eq_some_iff_getElem] at h
    obtain ⟨hlt, h1, _⟩ := h
    have : xs.any p = true := List.any_eq_true.2 ⟨xs[k], List.getElem_mem hlt, h1⟩
    rw [this]; simp
/-- The rule of a name, and where it is. -/
theorem rl_none {rs : List Rl} {n : Tx} (h : rlAt rs n = none) : ixB (fun r : Rl => r.1 == n) rs = -1 := by
  refine ixB_no ?_
  rw [List.any_eq_false]
  intro x hx
  exact (List.find?_eq_none.1 h) x hx
theorem rl_some {rs : List Rl} {n : Tx} {r : Rl} (h : rlAt rs n = some r) : ∃ k : Nat, ixB (fun r : Rl => r.1 == n) rs = k ∧ rs[k]? = some r ∧ k < rs.length ∧ r.1 = n := by
  unfold rlAt at h
  rw [List.find?_eq_some_iff_getElem] at h
  obtain ⟨h1, k, hk, he, h2⟩ := h
  refine ⟨k, ?_, by rw [List.getElem?_eq_getElem hk, he], hk, by simpa using h1⟩
  refine ixB_at (x := r) (by rw [List.getElem?_eq_getElem hk, he]) ?_ h1
  rw [List.any_eq_false]
  intro x hx
  rw [List.mem_take_iff_getElem] at hx
  obtain ⟨j, hj, rfl⟩ := hx
  simpa using h2 j (by omega)

theorem ctL_none {d : UInt8} : ∀ {l : Tx}, Lib.indexByte l d = -1 → ctL d l = none
  | [], _ => rfl
  | x :: r, h => by
    have hg := Lib.indexByte_ge r d
    unfold Lib.indexByte at h
    by_cases hx : (x == d) = true
    · rw [if_pos hx] at h; omega
    · rw [if_neg hx] at h
      by_cases h2 : (Lib.indexByte r d == -1) = true
      · have hne : x ≠ d := by simpa using hx
        show (if x = d then _ else _) = _
        rw [if_neg hne, ctL_none (l := r) (by simpa using h2)]; rfl
      · rw [if_neg h2] at h
        have : Lib.indexByte r d ≠ -1 := by simpa using h2
        omega
theorem ctL_some {d : UInt8} : ∀ {l : Tx} {i : Nat}, Lib.indexByte l d = i → ctL d l = some (l.take i, l.drop (i + 1)) ∧ i < l.length
  | [], i, h => by unfold Lib.indexByte at h; omega
  | x :: r, i, h => by
    have hg := Lib.indexByte_ge r d
    unfold Lib.indexByte at h
    by_cases hx : (x == d) = true
    · rw [if_pos hx] at h
      obtain rfl : i = 0 := by omega
      have he : x = d := by simpa using hx
      refine ⟨?_, by simp⟩
      show (if x = d then _ else _) = _
      rw [if_pos he]; rfl
    · rw [if_neg hx] at h
      have hne : x ≠ d := by simpa using hx
      by_cases h2 : (Lib.indexByte r d == -1) = true
      · rw [if_pos h2] at h; omega
      · rw [if_neg h2] at h
        have h3 : Lib.indexByte r d ≠ -1 := by simpa using h2
        obtain ⟨j, hj⟩ : ∃ j : Nat, Lib.indexByte r d = j := ⟨(Lib.indexByte r d).toNat, by omega⟩
        obtain rfl : i = j + 1 := by omega
        obtain ⟨h4, h5⟩ := ctL_some (l := r) hj
        refine ⟨?_, by simp; omega⟩
        show (if x = d then _ else _) = _
        rw [if_neg hne, h4]; rfl

end Go.Proofs.YtjalklmgdkhekaaDoor

/- When a graph may be, when an output stands twice in it, which edge makes one: plain facts, no program in them; no conditions. -/
namespace Go.Proofs.YtjalklmgdkhekaaDoor
open Go.RowKit

abbrev Po := Tx × Int
abbrev Gh := List Ed × List Po × Ws

def pthB (x : Tx) : Bool := cleanL x == some x
def ptsB (ws : Ws) : Bool := decide (ws.length ≤ 8) && ws.all pthB
def pooB (ps : List Po) (n : Tx) : Bool := ps.any fun p => p.1 == n
def cmB (c : Tx) : Bool := plainL c && decide (1 ≤ c.length) && decide (c.length ≤ 256)
def plB (n : Tx) : Bool := n.isEmpty || mayL n
def edOk (e : Ed) : Bool := !e.1.isEmpty && (ptsB e.1 && (ptsB e.2.1 && (ptsB e.2.2.1 && (ptsB e.2.2.2.1 && (cmB e.2.2.2.2.1 && plB e.2.2.2.2.2.2)))))
def edM' (ps : List Po) (e : Ed) : Bool := edOk e && (e.2.2.2.2.2.2.isEmpty || pooB ps e.2.2.2.2.2.2)
def poOk (p : Po) : Bool := mayL p.1 && (decide (1 ≤ p.2) && decide (p.2 ≤ 8))
def plsF : List Po → List Po → Bool
  | _, [] => true
  | seen, p :: r => (poOk p && !pooB seen p.1) && plsF (seen ++ [p]) r
def plsB (ps : List Po) : Bool := decide (ps.length ≤ 4) && plsF [] ps
def esB (ps : List Po) (es : List Ed) : Bool := decide (es.length ≤ 16) && es.all (edM' ps)
def gmB (g : Gh) : Bool := plsB g.2.1 && (ptsB g.2.2 && esB g.2.1 g.1)
def ouL (es : List Ed) : Ws := es.flatMap fun e => e.1
def twB (ws : Ws) : Bool := !decide ws.Nodup
def ckE (g : Gh) : Int := if gmB g then (if twB (ouL g.1) then 901 else 0) else 900
def mkA (es : List Ed) (n : Tx) : Int := ixB (fun e : Ed => e.1.contains n) es

theorem plsF_at {ps : List Po} {k : Nat} {p : Po} (h : ps[k]? = some p) : plsF (ps.take k) (ps.drop k) = ((poOk p && !pooB (ps.take k) p.1) && plsF (ps.take (k + 1)) (ps.drop (k + 1))) := by
  obtain ⟨hlt, he⟩ := List.getElem?_eq_some_iff.1 h
  rw [List.drop_eq_getElem_cons hlt, plsF, he, List.take_add_one, h]
  rfl
theorem plsF_end {ps : List Po} {k : Nat} (h : ps.length ≤ k) : plsF (ps.take k) (ps.drop k) = true := by
  rw [List.drop_eq_nil_of_le h, plsF]
theorem all_succ {α : Type} {xs : List α} {k : Nat} {x : α} (p : α → Bool) (h : xs[k]? = some x) : (xs.take (k + 1)).all p = ((xs.take k).all p && p x) := by
  rw [List.take_add_one, h, List.all_append]; simp
theorem all_no {α : Type} {xs : List α} {k : Nat} {x : α} {p : α → Bool} (h : xs[k]? = some x) (hx : p x = false) : xs.all p = false := by
  rw [List.all_eq_false]
  exact ⟨x, List.mem_of_getElem? h, by simp [hx]⟩
theorem anyn_all {α : Type} (p : α → Bool) (xs : List α) : xs.any (fun x => !p x) = !xs.all p := by
  induction xs with
  | nil => rfl
  | cons x r ih => rw [List.any_cons, List.all_cons, ih]; cases p x <;> rfl
/-- Where the first of a name stands: at k, if none ahead of k has it. -/
theorem poo_at {ps : List Po} {k : Nat} {p : Po} (h : ps[k]? = some p) : (ixB (fun r : Po => r.1 == p.1) ps != (k : Int)) = pooB (ps.take k) p.1 := by
  cases hb : pooB (ps.take k) p.1
  · rw [ixB_at h hb (by simp)]; simp
  · unfold pooB at hb
    obtain ⟨x, hx, hp⟩ := List.any_eq_true.1 hb
    obtain ⟨j, hj, rfl⟩ := List.mem_take_iff_getElem.1 hx
    unfold ixB
    cases hf : ps.findIdx? (fun r : Po => r.1 == p.1) with
    | none => simp
    | some i =>
      rw [List.findIdx?_eq_some_iff_getElem] at hf
      obtain ⟨hi, _, hl⟩ := hf
      have : i ≤ j := by
        rcases Nat.lt_or_ge j i with h1 | h1
        · exact absurd hp (by simpa using hl j h1)
        · exact h1
      simp; omega

/-! sorted, what is the same stands side by side -/
theorem leU_trans (a b c : Tx) (h1 : a ≤ b) (h2 : b ≤ c) : a ≤ c := List.le_trans h1 h2
theorem leU_total (a b : Tx) : a ≤ b ∨ b ≤ a := List.le_total a b
abbrev srt (ws : Ws) : Ws := ws.mergeSort fun x y => decide (x ≤ y)
theorem srt_sorted (ws : Ws) : (srt ws).Pairwise (fun x y => x ≤ y) := by
  have := List.pairwise_mergeSort (le := fun x y : Tx => decide (x ≤ y)) (fun a b c h1 h2 => by simp only [decide_eq_true_eq] at *; exact leU_trans a b c h1 h2) (fun a b => by simp only [Bool.or_eq_true, decide_eq_true_eq]; exact leU_total a b) ws
  exact this.imp (fun h => by simpa using h)
theorem srt_perm (ws : Ws) : (srt ws).Perm ws := List.mergeSort_perm ws _
theorem srt_len (ws : Ws) : (srt ws).length = ws.length := (srt_perm ws).length_eq
theorem srt_two {ws : Ws} {k : Nat} {x : Tx} (h1 : (srt ws)[k]? = some x) (h2 : (srt ws)[k + 1]? = some x) : twB ws = true := by
  unfold twB
  rw [decide_eq_false]
  · rfl
  · intro hn
    have hs : (srt ws).Nodup := (srt_perm ws).nodup_iff.2 hn
    obtain ⟨l1, e1⟩ := List.getElem?_eq_some_iff.1 h1
    obtain ⟨l2, e2⟩ := List.getElem?_eq_some_iff.1 h2
    exact List.pairwise_iff_getElem.1 hs k (k + 1) l1 l2 (by omega) (e1.trans e2.symm)
theorem srt_one {ws : Ws} (h : ∀ k x, (srt ws)[k]? = some x → (srt ws)[k + 1]? ≠ some x) : twB ws = false := by
  have hs := srt_sorted ws
  have hn : (srt ws).Nodup := by
    have key : ∀ (l : Ws), l.Pairwise (fun x y => x ≤ y) → (∀ k x, l[k]? = some x → l[k + 1]? ≠ some x) → l.Nodup := by
      intro l
      induction l with
      | nil => intro _ _; exact List.nodup_nil
      | cons a r ih =>
        intro hp hk
        have hp' := List.pairwise_cons.1 hp
        refine List.nodup_cons.2 ⟨fun hm => ?_, ih hp'.2 (fun k x h1 => hk (k + 1) x (by simpa using h1))⟩
        cases r with
        | nil => cases hm
        | cons b s =>
          have hab := hp'.1 b (by simp)
          have hba : b ≤ a := by
            rcases List.mem_cons.1 hm with e | e
            · rw [e]; exact List.le_refl _
            · exact (List.pairwise_cons.1 hp'.2).1 a e
          have : a = b := List.le_antisymm hab hba
          exact hk 0 a (by simp) (by simp [this])
    exact key _ hs h
  unfold twB
  rw [decide_eq_true ((srt_perm ws).nodup_iff.1 hn)]
  rfl
theorem nodup_snoc (ws : Ws) (x : Tx) : (ws ++ [x]).Nodup ↔ ws.Nodup ∧ x ∉ ws := by
  rw [List.nodup_append]
  constructor
  · rintro ⟨h1, _, h3⟩; exact ⟨h1, fun hx => h3 x hx x (by simp) rfl⟩
  · rintro ⟨h1, h2⟩; exact ⟨h1, by simp, fun a ha b hb => by simp at hb; subst hb; rintro rfl; exact h2 ha⟩
theorem tw_more {a b : Ws} (h : twB a = true) : twB (a ++ b) = true := by
  unfold twB at *
  simp only [Bool.not_eq_true', decide_eq_false_iff_not] at *
  intro hn
  exact h (List.nodup_append.1 hn).1

end Go.Proofs.YtjalklmgdkhekaaDoor
