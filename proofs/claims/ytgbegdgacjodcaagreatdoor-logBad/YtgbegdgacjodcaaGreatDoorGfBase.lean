/- How edges and blocks lie in memory, and what stays of them when other blocks are written; no conditions. -/
import Derived.Test.YtgbegdgacjodcaaGreatDoorBdPlain
import Derived.Test.YtgbegdgacjodcaaGreatDoorWdBut
namespace Go.Proofs.YtgbegdgacjodcaaGreatDoor
open Go.RowKit

/-- But for the blocks of P all that was there is as it was. -/
structure Fr (P : Nat → Prop) (w w' : World) : Prop where
  os : w'.os = w.os
  tape : w'.tape = w.tape
  output : w'.output = w.output
  size : w.heap.size ≤ w'.heap.size
  block : ∀ k, k < w.heap.size → ¬ P k → w'.heap[k]? = w.heap[k]?

theorem Fr.refl (P : Nat → Prop) (w : World) : Fr P w w := ⟨rfl, rfl, rfl, Nat.le_refl _, fun _ _ _ => rfl⟩
theorem Fr.trans {P : Nat → Prop} {a b c : World} (h : Fr P a b) (k : Fr P b c) : Fr P a c :=
  ⟨k.os.trans h.os, k.tape.trans h.tape, k.output.trans h.output, Nat.le_trans h.size k.size, fun i hi hn => (k.block i (Nat.lt_of_lt_of_le hi h.size) hn).trans (h.block i hi hn)⟩
theorem Fr.mono {P P' : Nat → Prop} {a b : World} (h : Fr P a b) (hp : ∀ k, P k → P' k) : Fr P' a b := ⟨h.os, h.tape, h.output, h.size, fun k hk hn => h.block k hk (fun x => hn (hp k x))⟩
theorem Fr.of_q {P : Nat → Prop} {w w' : World} (h : Q w w') : Fr P w w' := ⟨h.os, h.tape, h.output, h.size, fun k hk _ => h.block k hk⟩
theorem Fr.q {P : Nat → Prop} {a b c : World} (h : Fr P a b) (k : Q b c) : Fr P a c := h.trans (Fr.of_q k)
theorem Fr.grown {w w' : World} {row : Option Nat} (h : w.grownBy w' row) : Fr (fun k => row = some k) w w' := ⟨h.os, h.tape, h.output, h.size, fun k hk hn => h.block k hk (fun e => hn e.symm)⟩
theorem Fr.set (w : World) (g o : Nat) (u : Value) : Fr (fun k => k = g) w (w.setCell ⟨g, o, none⟩ u) :=
  ⟨rfl, rfl, rfl, by simp [World.setCell], fun k _ hn => Below.heap_setCell _ _ _ _ hn⟩
theorem Fr.below {P : Nat → Prop} {w w' : World} {B : Nat} (h : Fr P w w') (hB : B ≤ w.heap.size) (hp : ∀ k, P k → B ≤ k) : Below B w w' :=
  ⟨h.os, h.tape, h.output, h.size, fun k hk => h.block k (by omega) (fun x => by have := hp k x; omega)⟩
theorem Fr.drew {P : Nat → Prop} {a b : World} (h : Fr P a b) : Fr P a b.drew := ⟨h.os, h.tape, h.output, h.size, h.block⟩

theorem own_fr {P : Nat → Prop} {w w' : World} {B e size n : Nat} {v : Value} {xs : List Value} (h : w.ownsRow B e size v n xs) (hf : Fr P w w') (hn : ∀ k, v.ownBlock = some k → ¬ P k) : w'.ownsRow B e size v n xs := by
  have hl := fun k hk => h.lt k hk
  obtain ⟨h1, h2⟩ := h
  rcases h2 with h0 | ⟨g, cap, cur, e1, hg, hgg, rest⟩
  · exact ⟨h1, Or.inl h0⟩
  · have hg2 : v.ownBlock = some g := by rw [e1]; rfl
    exact ⟨h1, Or.inr ⟨g, cap, cur, e1, hg, (hf.block g (hl g hg2).2 (hn g hg2)).trans hgg, rest⟩⟩

/-- A block, whole. -/
def Blk (w : World) (g : Nat) (cs : Array Value) (t : TypeId) : Prop := w.heap[g]? = some (.cells cs t (0, 0))
theorem Blk.hi {w : World} {g : Nat} {cs : Array Value} {t : TypeId} (h : Blk w g cs t) : g < w.heap.size := (Array.getElem?_eq_some_iff.1 h).1
theorem Blk.fr {P : Nat → Prop} {w w' : World} {g : Nat} {cs : Array Value} {t : TypeId} (h : Blk w g cs t) (hf : Fr P w w') (hn : ¬ P g) : Blk w' g cs t := (hf.block g h.hi hn).trans h
theorem Blk.q {w w' : World} {g : Nat} {cs : Array Value} {t : TypeId} (h : Blk w g cs t) (hq : Q w w') : Blk w' g cs t := (hq.block g h.hi).trans h
theorem Blk.set {w : World} {g : Nat} {cs : Array Value} {t : TypeId} (h : Blk w g cs t) (i : Nat) (u : Value) : Blk (w.setCell ⟨g, i, none⟩ u) g (cs.setIfInBounds i u) t := heap_setCell_same w g i cs t u h
theorem Blk.other {w : World} {g k : Nat} {cs : Array Value} {t : TypeId} (h : Blk w g cs t) (hne : g ≠ k) (i : Nat) (u : Value) : Blk (w.setCell ⟨k, i, none⟩ u) g cs t := (Below.heap_setCell _ _ _ _ hne).trans h
theorem Blk.cell {w : World} {g : Nat} {cs : Array Value} {t : TypeId} (h : Blk w g cs t) (i : Nat) {v : Value} (hv : cs[i]? = some v) : w.cell? ⟨g, i, none⟩ = some v := (cell_of_row w g i cs t _ h).trans hv
theorem Blk.frz {w : World} {g : Nat} {cs : Array Value} {t : TypeId} (h : Blk w g cs t) (i : Nat) : w.frozen? ⟨g, i, none⟩ = false := frozen_of_row w g i cs t h
theorem Blk.drew {w : World} {g : Nat} {cs : Array Value} {t : TypeId} (h : Blk w g cs t) : Blk w.drew g cs t := h
theorem Blk.new (w : World) (cs : Array Value) (t : TypeId) : Blk (w.alloc (.cells cs t)) w.heap.size cs t := heap_alloc_new w _
theorem Blk.ne {w : World} {g k : Nat} {cs ds : Array Value} {t u : TypeId} (h : Blk w g cs t) (h2 : Blk w k ds u) (hne : t ≠ u) : g ≠ k := by
  rintro rfl
  have e := h.symm.trans h2
  simp only [Option.some.injEq, Obj.cells.injEq] at e
  exact hne e.2.1
theorem Blk.row {w : World} {g : Nat} {cs : Array Value} {t : TypeId} (h : Blk w g cs t) {B e size n : Nat} {v : Value} {xs : List Value} (h2 : w.ownsRow B e size v n xs) (hne : t ≠ e) : ∀ k, v.ownBlock = some k → k ≠ g := by
  intro k hk
  rcases h2.2 with ⟨rfl, _⟩ | ⟨g', cap, cur, rfl, hb, hg, _⟩
  · cases hk
  · cases hk
    exact (Blk.ne h hg hne).symm
theorem own_ne {w : World} {B B' e e' size size' n n' : Nat} {v v' : Value} {xs xs' : List Value} (h : w.ownsRow B e size v n xs) (h' : w.ownsRow B' e' size' v' n' xs') (hne : e ≠ e') : ∀ k, v.ownBlock = some k → v'.ownBlock ≠ some k := by
  intro k hk hk'
  rcases own_apart h h' hne with h1 | h1
  · rw [hk] at h1; cases h1
  · exact h1 (hk.trans hk'.symm)

/-- An edge, and where its four rows lie. -/
abbrev Pa := Option Addr × Nat
abbrev EdA := Ed × Pa × Pa × Pa × Pa
def EdA.v1 (x : EdA) : Value := .slice x.2.1.1 x.1.1.length x.2.1.2
def EdA.v2 (x : EdA) : Value := .slice x.2.2.1.1 x.1.2.1.length x.2.2.1.2
def EdA.v3 (x : EdA) : Value := .slice x.2.2.2.1.1 x.1.2.2.1.length x.2.2.2.1.2
def EdA.v4 (x : EdA) : Value := .slice x.2.2.2.2.1 x.1.2.2.2.1.length x.2.2.2.2.2
def ev (x : EdA) : List Value := [x.v1, x.v2, x.v3, x.v4, .string ⟨x.1.2.2.2.2.1.toArray⟩, .bool x.1.2.2.2.2.2.1, .string ⟨x.1.2.2.2.2.2.2.toArray⟩]
theorem ev_len (x : EdA) : (ev x).length = 7 := rfl
def edB (x : EdA) : List Nat := x.v1.ownBlock.toList ++ x.v2.ownBlock.toList ++ x.v3.ownBlock.toList ++ x.v4.ownBlock.toList

structure EdR (w : World) (B : Nat) (x : EdA) : Prop where
  a : OwnT w B x.2.1.1 x.2.1.2 x.1.1
  b : OwnT w B x.2.2.1.1 x.2.2.1.2 x.1.2.1
  c : OwnT w B x.2.2.2.1.1 x.2.2.2.1.2 x.1.2.2.1
  d : OwnT w B x.2.2.2.2.1 x.2.2.2.2.2 x.1.2.2.2.1

theorem mem_edB {x : EdA} {k : Nat} : k ∈ edB x ↔ x.v1.ownBlock = some k ∨ x.v2.ownBlock = some k ∨ x.v3.ownBlock = some k ∨ x.v4.ownBlock = some k := by
  unfold edB; simp
theorem EdR.fr {P : Nat → Prop} {w w' : World} {B : Nat} {x : EdA} (h : EdR w B x) (hf : Fr P w w') (hn : ∀ k ∈ edB x, ¬ P k) : EdR w' B x :=
  ⟨own_fr h.a hf (fun k hk => hn k (mem_edB.2 (Or.inl hk))), own_fr h.b hf (fun k hk => hn k (mem_edB.2 (Or.inr (Or.inl hk)))),
   own_fr h.c hf (fun k hk => hn k (mem_edB.2 (Or.inr (Or.inr (Or.inl hk))))), own_fr h.d hf (fun k hk => hn k (mem_edB.2 (Or.inr (Or.inr (Or.inr hk)))))⟩
theorem EdR.lt {w : World} {B : Nat} {x : EdA} (h : EdR w B x) : ∀ k ∈ edB x, B ≤ k ∧ k < w.heap.size := by
  intro k hk
  rcases mem_edB.1 hk with e | e | e | e
  · exact h.a.lt k e
  · exact h.b.lt k e
  · exact h.c.lt k e
  · exact h.d.lt k e
theorem EdR.blk {w : World} {B g : Nat} {x : EdA} {cs : Array Value} {t : TypeId} (h : EdR w B x) (hb : Blk w g cs t) (ht : t ≠ 9) : ∀ k ∈ edB x, k ≠ g := by
  intro k hk
  rcases mem_edB.1 hk with e | e | e | e
  · exact hb.row h.a ht k e
  · exact hb.row h.b ht k e
  · exact hb.row h.c ht k e
  · exact hb.row h.d ht k e
theorem EdR.row {w : World} {B B' e size n : Nat} {v : Value} {xs : List Value} {x : EdA} (h : EdR w B x) (h2 : w.ownsRow B' e size v n xs) (ht : e ≠ 9) : ∀ k ∈ edB x, v.ownBlock ≠ some k := by
  intro k hk hv
  rcases mem_edB.1 hk with e | e | e | e
  · exact own_ne h2 h.a ht k hv e
  · exact own_ne h2 h.b ht k hv e
  · exact own_ne h2 h.c ht k hv e
  · exact own_ne h2 h.d ht k hv e

/-- Edges in memory, to be read. -/
structure EdRd (w : World) (x : EdA) : Prop where
  a : RowT w x.2.1.1 x.1.1
  b : RowT w x.2.2.1.1 x.1.2.1
  c : RowT w x.2.2.2.1.1 x.1.2.2.1
  d : RowT w x.2.2.2.2.1 x.1.2.2.2.1
theorem EdR.rd {w : World} {B : Nat} {x : EdA} (h : EdR w B x) : EdRd w x := ⟨h.a.row, h.b.row, h.c.row, h.d.row⟩
theorem EdRd.q {w w' : World} {x : EdA} (h : EdRd w x) (q : Q w w') : EdRd w' x := ⟨h.a.q q, h.b.q q, h.c.q q, h.d.q q⟩

def al (w : World) : List (Array Value × TypeId) → World
  | [] => w
  | x :: r => al (w.alloc (.cells x.1 x.2)) r
theorem al_q : ∀ (l : List (Array Value × TypeId)) (w : World), Q w (al w l)
  | [], w => Q.refl w
  | _ :: r, w => ((Q.refl w).alloc _).trans (al_q r _)
theorem al_blk : ∀ (l : List (Array Value × TypeId)) (w : World) (i : Nat) (x : Array Value × TypeId), l[i]? = some x → Blk (al w l) (w.heap.size + i) x.1 x.2
  | [], w, i, x, h => by simp at h
  | y :: r, w, 0, x, h => by
    simp at h; subst h
    exact (Blk.new w y.1 y.2).q (al_q r _)
  | y :: r, w, i + 1, x, h => by
    have := al_blk r (w.alloc (.cells y.1 y.2)) i x (by simpa using h)
    rw [size_alloc] at this
    rwa [Nat.add_assoc, Nat.add_comm 1 i] at this
theorem rowB {α : Type} {f : α → List Value} {sz : Nat} (hf : ∀ x, (f x).length = sz) {w : World} {g : Nat} {cs : Array Value} {t : TypeId} (h : Blk w g cs t) (ps : List α) (he : cs = (lay f ps).toArray) : RowG f sz w (some ⟨g, 0, none⟩) ps := by
  refine Or.inr ⟨g, 0, rfl, h.hi, fun j i x v hx hi hv => ?_⟩
  rw [Nat.zero_add]
  exact h.cell (j * sz + i) (by rw [he, List.getElem?_toArray, lay_get hf ps j i x hx hi]; exact hv)

theorem one_layT (xs : Ws) : ∀ u ∈ lay tv xs, u.oneCell' = true := by
  intro u hu
  obtain ⟨y, _, hy⟩ := List.mem_flatMap.1 hu
  simp [tv] at hy; subst hy; rfl
theorem own_new0 {w : World} {B e size : Nat} (hB : B ≤ w.heap.size) : (w.alloc (.cells #[] e)).ownsRow B e size (.slice (some ⟨w.heap.size, 0, none⟩) 0 0) 0 [] :=
  ⟨by simp, Or.inr ⟨w.heap.size, 0, #[], rfl, hB, heap_alloc_new _ _, Nat.le_refl _, Nat.zero_le _, by simp, by simp⟩⟩
theorem one_layE (xs : List EdA) : ∀ u ∈ lay ev xs, u.oneCell' = true := by
  intro u hu
  obtain ⟨y, _, hy⟩ := List.mem_flatMap.1 hu
  simp only [ev, EdA.v1, EdA.v2, EdA.v3, EdA.v4, List.mem_cons, List.not_mem_nil, or_false] at hy
  rcases hy with rfl | rfl | rfl | rfl | rfl | rfl | rfl <;> rfl

end Go.Proofs.YtgbegdgacjodcaaGreatDoor
