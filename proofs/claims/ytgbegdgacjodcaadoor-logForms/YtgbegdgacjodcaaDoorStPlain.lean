/- Plain facts on rows of structs in memory: how they lie, what stays of them when memory is made, what a write into one does; with no program in them; no conditions. -/
import Derived.WalkKit
import Derived.Below
import Derived.OneCell
import Derived.Deep.AppendLies
import Derived.Test.YtgbegdgacjodcaaDoorNmPlain
namespace Go.Proofs.YtgbegdgacjodcaaDoor
open Go.RowKit

/-- A row's cells: each element's, one behind the other. -/
def lay {α : Type} (f : α → List Value) (xs : List α) : List Value := xs.flatMap f

theorem lay_nil {α : Type} (f : α → List Value) : lay f [] = [] := rfl
theorem lay_app {α : Type} (f : α → List Value) (xs ys : List α) : lay f (xs ++ ys) = lay f xs ++ lay f ys := by unfold lay; rw [List.flatMap_append]
theorem lay_snoc {α : Type} (f : α → List Value) (xs : List α) (y : α) : lay f (xs ++ [y]) = lay f xs ++ f y := by rw [lay_app]; simp [lay]
theorem lay_cons {α : Type} (f : α → List Value) (x : α) (xs : List α) : lay f (x :: xs) = f x ++ lay f xs := by simp [lay]

theorem lay_length {α : Type} {f : α → List Value} {sz : Nat} (hf : ∀ x, (f x).length = sz) : ∀ xs : List α, (lay f xs).length = xs.length * sz
  | [] => by simp [lay]
  | x :: r => by rw [lay_cons, List.length_append, hf, lay_length hf r, List.length_cons, Nat.add_mul]; omega

theorem lay_get {α : Type} {f : α → List Value} {sz : Nat} (hf : ∀ x, (f x).length = sz) : ∀ (xs : List α) (j i : Nat) (x : α), xs[j]? = some x → i < sz → (lay f xs)[j * sz + i]? = (f x)[i]?
  | [], j, i, x, h, _ => by simp at h
  | y :: r, 0, i, x, h, hi => by
    simp at h; subst h
    rw [lay_cons, List.getElem?_append_left (by rw [hf]; omega)]; simp
  | y :: r, j + 1, i, x, h, hi => by
    simp at h
    rw [lay_cons, List.getElem?_append_right (by rw [hf, Nat.add_mul]; omega), hf, show (j + 1) * sz + i - sz = j * sz + i by rw [Nat.add_mul]; omega]
    exact lay_get hf r j i x h hi

theorem lay_set {α : Type} {f : α → List Value} {sz : Nat} (hf : ∀ x, (f x).length = sz) : ∀ (xs : List α) (j i : Nat) (x y : α) (v : Value), xs[j]? = some x → i < sz → f y = (f x).set i v → lay f (xs.set j y) = (lay f xs).set (j * sz + i) v
  | [], j, i, x, y, v, h, _, _ => by simp at h
  | z :: r, 0, i, x, y, v, h, hi, he => by
    simp at h; subst h
    rw [List.set_cons_zero, lay_cons, lay_cons, he, List.set_append_left _ _ (by rw [hf]; omega)]; simp
  | z :: r, j + 1, i, x, y, v, h, hi, he => by
    simp at h
    rw [List.set_cons_succ, lay_cons, lay_cons, List.set_append_right _ _ (by rw [hf, Nat.add_mul]; omega), hf, show (j + 1) * sz + i - sz = j * sz + i by rw [Nat.add_mul]; omega]
    rw [lay_set hf r j i x y v h hi he]

/-- What is owned stays owned where all that was there is as it was. -/
theorem own_q {w w' : World} {B e size n : Nat} {v : Value} {xs : List Value} (h : w.ownsRow B e size v n xs) (hb : Q w w') : w'.ownsRow B e size v n xs := by
  obtain ⟨h1, h2⟩ := h
  rcases h2 with hn | ⟨g, cap, cur, e1, hg, hgg, rest⟩
  · exact ⟨h1, Or.inl hn⟩
  · exact ⟨h1, Or.inr ⟨g, cap, cur, e1, hg, (hb.block g (Array.getElem?_eq_some_iff.1 hgg).1).trans hgg, rest⟩⟩

theorem own_low {w : World} {B B' e size n : Nat} {v : Value} {xs : List Value} (h : w.ownsRow B e size v n xs) (hb : B' ≤ B) : w.ownsRow B' e size v n xs := by
  obtain ⟨h1, h2⟩ := h
  rcases h2 with hn | ⟨g, cap, cur, e1, hg, rest⟩
  · exact ⟨h1, Or.inl hn⟩
  · exact ⟨h1, Or.inr ⟨g, cap, cur, e1, Nat.le_trans hb hg, rest⟩⟩

/-- Rows whose elements are of two types lie apart. -/
theorem own_apart {w : World} {B B' e e' size size' n n' : Nat} {v v' : Value} {xs xs' : List Value} (h : w.ownsRow B e size v n xs) (h' : w.ownsRow B' e' size' v' n' xs') (hne : e ≠ e') : v.ownBlock = none ∨ v.ownBlock ≠ v'.ownBlock := by
  rcases h.2 with ⟨e1, _⟩ | ⟨g, cap, cur, e1, _, hgg, _⟩
  · left; rw [e1]; rfl
  · right
    rcases h'.2 with ⟨e2, _⟩ | ⟨g', cap', cur', e2, _, hgg', _⟩
    · rw [e1, e2]; simp [Value.ownBlock]
    · rw [e1, e2]
      intro he
      simp only [Value.ownBlock, Option.some.injEq] at he
      subst he
      rw [hgg] at hgg'
      simp only [Option.some.injEq, Obj.cells.injEq] at hgg'
      exact hne hgg'.2.1

theorem own_le {w : World} {B e size n cap : Nat} {ao : Option Addr} {m : Nat} {xs : List Value} (h : w.ownsRow B e size (.slice ao m cap) n xs) : n ≤ cap ∧ cap ≤ maxLen ∧ m = n := by
  rcases h.2 with ⟨e1, h2⟩ | ⟨g, cap', cur, e1, hb, hh, hn, hm, hs, ht⟩
  · cases e1; exact ⟨by omega, by unfold maxLen; omega, by omega⟩
  · cases e1; exact ⟨hn, hm, rfl⟩

/-- Elements that lie in a row, to be read. -/
def RowG {α : Type} (f : α → List Value) (sz : Nat) (w : World) (ao : Option Addr) (xs : List α) : Prop :=
  (xs = []) ∨ ∃ g o, ao = some ⟨g, o, none⟩ ∧ g < w.heap.size ∧ ∀ (j i : Nat) x v, xs[j]? = some x → i < sz → (f x)[i]? = some v → w.cell? ⟨g, o + (j * sz + i), none⟩ = some v

theorem RowG.q {α : Type} {f : α → List Value} {sz : Nat} {w w' : World} {ao : Option Addr} {xs : List α} (h : RowG f sz w ao xs) (hb : Q w w') : RowG f sz w' ao xs := by
  rcases h with h | ⟨g, o, e, hg, hc⟩
  · exact Or.inl h
  · exact Or.inr ⟨g, o, e, Nat.lt_of_lt_of_le hg hb.size, fun j i x v h1 h2 h3 => (hb.cell (p := ⟨g, o + (j * sz + i), none⟩) hg).trans (hc j i x v h1 h2 h3)⟩

theorem RowG.own {α : Type} {f : α → List Value} {sz : Nat} (hf : ∀ x, (f x).length = sz) (hz : 0 < sz) {w : World} {B e cap n : Nat} {ao : Option Addr} {xs : List α} (h : w.ownsRow B e sz (.slice ao n cap) n (lay f xs)) : RowG f sz w ao xs := by
  obtain ⟨h1, h2⟩ := h
  rw [lay_length hf] at h1
  rcases h2 with ⟨e1, h2⟩ | ⟨g, cap', cur, e1, hb, hh, hn, hm, hs, ht⟩
  · left
    rw [h2, Nat.zero_mul] at h1
    rcases Nat.mul_eq_zero.1 h1 with h | h
    · exact List.eq_nil_of_length_eq_zero h
    · omega
  · cases e1
    refine Or.inr ⟨g, 0, rfl, (Array.getElem?_eq_some_iff.1 hh).1, ?_⟩
    intro j i x v hx hi hv
    rw [Nat.zero_add, cell_of_row w g (j * sz + i) cur e (0, 0) hh, ← Array.getElem?_toList]
    have hj : j < xs.length := (List.getElem?_eq_some_iff.1 hx).1
    have hlt : j * sz + i < n * sz := by
      rw [← h1]
      have : (j + 1) * sz ≤ xs.length * sz := Nat.mul_le_mul_right _ hj
      rw [Nat.add_mul] at this; omega
    have hg := lay_get hf xs j i x hx hi
    rw [← ht, List.getElem?_take, if_pos hlt, hv] at hg
    exact hg

/-- An owned row that is not empty: where it lies, that it may be written. -/
theorem own_some {α : Type} {f : α → List Value} {sz : Nat} (hf : ∀ x, (f x).length = sz) (hz : 0 < sz) {w : World} {B e cap n : Nat} {ao : Option Addr} {xs : List α} (hn : 0 < n) (h : w.ownsRow B e sz (.slice ao n cap) n (lay f xs)) :
    ∃ g, ao = some ⟨g, 0, none⟩ ∧ B ≤ g ∧ g < w.heap.size ∧ (∀ o, w.frozen? ⟨g, o, none⟩ = false) ∧ ∀ (j i : Nat) x v, xs[j]? = some x → i < sz → (f x)[i]? = some v → w.cell? ⟨g, j * sz + i, none⟩ = some v := by
  have hr := RowG.own hf hz h
  obtain ⟨h1, h2⟩ := h
  rw [lay_length hf] at h1
  rcases h2 with ⟨e1, h2⟩ | ⟨g, cap', cur, e1, hb, hh, hnn, hm, hs, ht⟩
  · omega
  · cases e1
    refine ⟨g, rfl, hb, (Array.getElem?_eq_some_iff.1 hh).1, fun o => frozen_of_row w g o cur e hh, ?_⟩
    intro j i x v hx hi hv
    rcases hr with hr | ⟨g', o, e2, hg, hc⟩
    · rw [hr] at hx; simp at hx
    · cases e2
      have := hc j i x v hx hi hv
      rwa [Nat.zero_add] at this

/-- A cell of an owned row is written. -/
theorem own_set {α : Type} {f : α → List Value} {sz : Nat} (hf : ∀ x, (f x).length = sz) {w : World} {B e cap n g : Nat} {xs : List α} (h : w.ownsRow B e sz (.slice (some ⟨g, 0, none⟩) n cap) n (lay f xs))
    (j i : Nat) (x y : α) (v : Value) (hx : xs[j]? = some x) (hi : i < sz) (he : f y = (f x).set i v) :
    (w.setCell ⟨g, j * sz + i, none⟩ v).ownsRow B e sz (.slice (some ⟨g, 0, none⟩) n cap) n (lay f (xs.set j y)) := by
  obtain ⟨h1, h2⟩ := h
  have hl : (lay f (xs.set j y)).length = n * sz := by
    rw [lay_length hf, List.length_set, ← lay_length hf, h1]
  rcases h2 with ⟨e1, h2⟩ | ⟨g', cap', cur, e1, hb, hh, hn, hm, hs, ht⟩
  · cases e1
  · cases e1
    refine ⟨hl, Or.inr ⟨g, cap, cur.setIfInBounds (j * sz + i) v, rfl, hb, heap_setCell_same w g _ cur e v hh, hn, hm, by simpa using hs, ?_⟩⟩
    rw [lay_set hf xs j i x y v hx hi he, ← ht, Array.toList_setIfInBounds, List.take_set]

/-- What an append asks of a block that has just been made. -/
theorem news_new (w : World) (cs : Array Value) (t : TypeId) : ∀ j u, cs.toList[j]? = some u → (w.alloc (.cells cs t)).cell? ((⟨w.heap.size, 0, none⟩ : Addr).add j) = some u :=
  World.news_of_block (heap_alloc_new w _)
theorem news_at {w : World} {n : Nat} (h : n = w.heap.size) (cs : Array Value) (t : TypeId) : ∀ j u, cs.toList[j]? = some u → (w.alloc (.cells cs t)).cell? ((⟨n, 0, none⟩ : Addr).add j) = some u := by
  subst h; exact news_new w cs t
theorem rowG_block {α : Type} {f : α → List Value} {sz : Nat} (hf : ∀ x, (f x).length = sz) (w : World) (cs : Array Value) (t : TypeId) (xs : List α) (h : cs.toList = lay f xs) : RowG f sz (w.alloc (.cells cs t)) (some ⟨w.heap.size, 0, none⟩) xs := by
  refine Or.inr ⟨w.heap.size, 0, rfl, by simp, ?_⟩
  intro j i x v hx hi hv
  have h1 := news_new w cs t (j * sz + i) v (by rw [h, lay_get hf xs j i x hx hi]; exact hv)
  rw [← h1]
  congr 1
  unfold Addr.add; split <;> simp_all

theorem le_alloc {B : Nat} {w : World} (h : B ≤ w.heap.size) (o : Obj) : B ≤ (w.alloc o).heap.size := Nat.le_trans h (by simp)
theorem size_alloc (w : World) (o : Obj) : (w.alloc o).heap.size = w.heap.size + 1 := by simp
theorem one_int (k : IntKind) (n : Int) : ∀ u ∈ [Value.int k n], u.oneCell' = true := by intro u hu; simp at hu; subst hu; rfl
theorem one_str (s : ByteArray) : ∀ u ∈ [Value.string s], u.oneCell' = true := by intro u hu; simp at hu; subst hu; rfl
theorem one_bs (b : Bool) (s : ByteArray) : ∀ u ∈ [Value.bool b, .string s], u.oneCell' = true := by intro u hu; simp at hu; rcases hu with rfl | rfl <;> rfl

end Go.Proofs.YtgbegdgacjodcaaDoor
