/- When a graph may be, when an output stands twice in it, which edge makes one: plain facts, no program in them; no conditions. -/
import Derived.Test.YtgbegdgacjodcaaDoorMfIx
namespace Go.Proofs.YtgbegdgacjodcaaDoor
open Go.RowKit

abbrev Po := Tx × Int
abbrev Gh := List Ed × List Po × Ws

def pthB (x : Tx) : Bool := cleanL x == some x
def ptsB (ws : Ws) : Bool := decide (ws.length ≤ 8) && ws.all pthB
def pooB (ps : List Po) (n : Tx) : Bool := ps.any fun p => p.1 == n
def cmB (c : Tx) : Bool := plainL c && decide (1 ≤ c.length) && decide (c.length ≤ 256)
def plB (n : Tx) : Bool := n.isEmpty || mayL n
def edOk (e : Ed) : Bool := !e.1.isEmpty && (ptsB e.1 && (ptsB e.2.1 && (ptsB e.2.2.1 && (ptsB e.2.2.2.1 && (cmB e.2.2.2.2.1 && plB e.2.2.2.2.2.2)))))
def edM' (ps : List Po) (e : Ed) : Bool := edOk e && (e.2.2.2.2.2.2.isEmpty || pooB ps e.2.2.2.2.2.2)
def poOk (p : Po) : Bool := mayL p.1 && (decide (1 ≤ p.2) && decide (p.2 ≤ 8))
def plsF : List Po → List Po → Bool
  | _, [] => true
  | seen, p :: r => (poOk p && !pooB seen p.1) && plsF (seen ++ [p]) r
def plsB (ps : List Po) : Bool := decide (ps.length ≤ 4) && plsF [] ps
def esB (ps : List Po) (es : List Ed) : Bool := decide (es.length ≤ 16) && es.all (edM' ps)
def gmB (g : Gh) : Bool := plsB g.2.1 && (ptsB g.2.2 && esB g.2.1 g.1)
def ouL (es : List Ed) : Ws := es.flatMap fun e => e.1
def twB (ws : Ws) : Bool := !decide ws.Nodup
def ckE (g : Gh) : Int := if gmB g then (if twB (ouL g.1) then 901 else 0) else 900
def mkA (es : List Ed) (n : Tx) : Int := ixB (fun e : Ed => e.1.contains n) es

theorem plsF_at {ps : List Po} {k : Nat} {p : Po} (h : ps[k]? = some p) : plsF (ps.take k) (ps.drop k) = ((poOk p && !pooB (ps.take k) p.1) && plsF (ps.take (k + 1)) (ps.drop (k + 1))) := by
  obtain ⟨hlt, he⟩ := List.getElem?_eq_some_iff.1 h
  rw [List.drop_eq_getElem_cons hlt, plsF, he, List.take_add_one, h]
  rfl
theorem plsF_end {ps : List Po} {k : Nat} (h : ps.length ≤ k) : plsF (ps.take k) (ps.drop k) = true := by
  rw [List.drop_eq_nil_of_le h, plsF]
theorem all_succ {α : Type} {xs : List α} {k : Nat} {x : α} (p : α → Bool) (h : xs[k]? = some x) : (xs.take (k + 1)).all p = ((xs.take k).all p && p x) := by
  rw [List.take_add_one, h, List.all_append]; simp
theorem all_no {α : Type} {xs : List α} {k : Nat} {x : α} {p : α → Bool} (h : xs[k]? = some x) (hx : p x = false) : xs.all p = false := by
  rw [List.all_eq_false]
  exact ⟨x, List.mem_of_getElem? h, by simp [hx]⟩
theorem anyn_all {α : Type} (p : α → Bool) (xs : List α) : xs.any (fun x => !p x) = !xs.all p := by
  induction xs with
  | nil => rfl
  | cons x r ih => rw [List.any_cons, List.all_cons, ih]; cases p x <;> rfl
/-- Where the first of a name stands: at k, if none ahead of k has it. -/
theorem poo_at {ps : List Po} {k : Nat} {p : Po} (h : ps[k]? = some p) : (ixB (fun r : Po => r.1 == p.1) ps != (k : Int)) = pooB (ps.take k) p.1 := by
  cases hb : pooB (ps.take k) p.1
  · rw [ixB_at h hb (by simp)]; simp
  · unfold pooB at hb
    obtain ⟨x, hx, hp⟩ := List.any_eq_true.1 hb
    obtain ⟨j, hj, rfl⟩ := List.mem_take_iff_getElem.1 hx
    unfold ixB
    cases hf : ps.findIdx? (fun r : Po => r.1 == p.1) with
    | none => simp
    | some i =>
      rw [List.findIdx?_eq_some_iff_getElem] at hf
      obtain ⟨hi, _, hl⟩ := hf
      have : i ≤ j := by
        rcases Nat.lt_or_ge j i with h1 | h1
        · exact absurd hp (by simpa using hl j h1)
        · exact h1
      simp; omega

/-! sorted, what is the same stands side by side -/
theorem leU_trans (a b c : Tx) (h1 : a ≤ b) (h2 : b ≤ c) : a ≤ c := List.le_trans h1 h2
theorem leU_total (a b : Tx) : a ≤ b ∨ b ≤ a := List.le_total a b
abbrev srt (ws : Ws) : Ws := ws.mergeSort fun x y => decide (x ≤ y)
theorem srt_sorted (ws : Ws) : (srt ws).Pairwise (fun x y => x ≤ y) := by
  have := List.pairwise_mergeSort (le := fun x y : Tx => decide (x ≤ y)) (fun a b c h1 h2 => by simp only [decide_eq_true_eq] at *; exact leU_trans a b c h1 h2) (fun a b => by simp only [Bool.or_eq_true, decide_eq_true_eq]; exact leU_total a b) ws
  exact this.imp (fun h => by simpa using h)
theorem srt_perm (ws : Ws) : (srt ws).Perm ws := List.mergeSort_perm ws _
theorem srt_len (ws : Ws) : (srt ws).length = ws.length := (srt_perm ws).length_eq
theorem srt_two {ws : Ws} {k : Nat} {x : Tx} (h1 : (srt ws)[k]? = some x) (h2 : (srt ws)[k + 1]? = some x) : twB ws = true := by
  unfold twB
  rw [decide_eq_false]
  · rfl
  · intro hn
    have hs : (srt ws).Nodup := (srt_perm ws).nodup_iff.2 hn
    obtain ⟨l1, e1⟩ := List.getElem?_eq_some_iff.1 h1
    obtain ⟨l2, e2⟩ := List.getElem?_eq_some_iff.1 h2
    exact List.pairwise_iff_getElem.1 hs k (k + 1) l1 l2 (by omega) (e1.trans e2.symm)
theorem srt_one {ws : Ws} (h : ∀ k x, (srt ws)[k]? = some x → (srt ws)[k + 1]? ≠ some x) : twB ws = false := by
  have hs := srt_sorted ws
  have hn : (srt ws).Nodup := by
    have key : ∀ (l : Ws), l.Pairwise (fun x y => x ≤ y) → (∀ k x, l[k]? = some x → l[k + 1]? ≠ some x) → l.Nodup := by
      intro l
      induction l with
      | nil => intro _ _; exact List.nodup_nil
      | cons a r ih =>
        intro hp hk
        have hp' := List.pairwise_cons.1 hp
        refine List.nodup_cons.2 ⟨fun hm => ?_, ih hp'.2 (fun k x h1 => hk (k + 1) x (by simpa using h1))⟩
        cases r with
        | nil => cases hm
        | cons b s =>
          have hab := hp'.1 b (by simp)
          have hba : b ≤ a := by
            rcases List.mem_cons.1 hm with e | e
            · rw [e]; exact List.le_refl _
            · exact (List.pairwise_cons.1 hp'.2).1 a e
          have : a = b := List.le_antisymm hab hba
          exact hk 0 a (by simp) (by simp [this])
    exact key _ hs h
  unfold twB
  rw [decide_eq_true ((srt_perm ws).nodup_iff.1 hn)]
  rfl
theorem nodup_snoc (ws : Ws) (x : Tx) : (ws ++ [x]).Nodup ↔ ws.Nodup ∧ x ∉ ws := by
  rw [List.nodup_append]
  constructor
  · rintro ⟨h1, _, h3⟩; exact ⟨h1, fun hx => h3 x hx x (by simp) rfl⟩
  · rintro ⟨h1, h2⟩; exact ⟨h1, by simp, fun a ha b hb => by simp at hb; subst hb; rintro rfl; exact h2 ha⟩
theorem tw_more {a b : Ws} (h : twB a = true) : twB (a ++ b) = true := by
  unfold twB at *
  simp only [Bool.not_eq_true', decide_eq_false_iff_not] at *
  intro hn
  exact h (List.nodup_append.1 hn).1

end Go.Proofs.YtgbegdgacjodcaaDoor
