/- How what package manifest has read lies in memory: the reader's block, its rows, the line under way; what stays of it when other blocks are written; no conditions. -/
import Derived.Test.YtgfegbeickaknabGreatDoorMfClean
import Derived.Test.YtgfegbeickaknabGreatDoorSc1
namespace Go.Proofs.YtgfegbeickaknabGreatDoor
open Go.RowKit

/-- But for the blocks of P all that was there is as it was. -/
structure Fr (P : Nat → Prop) (w w' : World) : Prop where
  os : w'.os = w.os
  tape : w'.tape = w.tape
  output : w'.output = w.output
  size : w.heap.size ≤ w'.heap.size
  block : ∀ k, k < w.heap.size → ¬ P k → w'.heap[k]? = w.heap[k]?

theorem Fr.refl (P : Nat → Prop) (w : World) : Fr P w w := ⟨rfl, rfl, rfl, Nat.le_refl _, fun _ _ _ => rfl⟩
theorem Fr.trans {P : Nat → Prop} {a b c : World} (h : Fr P a b) (k : Fr P b c) : Fr P a c :=
  ⟨k.os.trans h.os, k.tape.trans h.tape, k.output.trans h.output, Nat.le_trans h.size k.size, fun i hi hn => (k.block i (Nat.lt_of_lt_of_le hi h.size) hn).trans (h.block i hi hn)⟩
theorem Fr.mono {P P' : Nat → Prop} {a b : World} (h : Fr P a b) (hp : ∀ k, P k → P' k) : Fr P' a b := ⟨h.os, h.tape, h.output, h.size, fun k hk hn => h.block k hk (fun x => hn (hp k x))⟩
theorem Fr.of_q {P : Nat → Prop} {w w' : World} (h : Q w w') : Fr P w w' := ⟨h.os, h.tape, h.output, h.size, fun k hk _ => h.block k hk⟩
theorem Fr.q {P : Nat → Prop} {a b c : World} (h : Fr P a b) (k : Q b c) : Fr P a c := h.trans (Fr.of_q k)
theorem Fr.grown {w w' : World} {row : Option Nat} (h : w.grownBy w' row) : Fr (fun k => row = some k) w w' := ⟨h.os, h.tape, h.output, h.size, fun k hk hn => h.block k hk (fun e => hn e.symm)⟩
theorem Fr.set (w : World) (g o : Nat) (u : Value) : Fr (fun k => k = g) w (w.setCell ⟨g, o, none⟩ u) :=
  ⟨rfl, rfl, rfl, by simp [World.setCell], fun k _ hn => Below.heap_setCell _ _ _ _ hn⟩
theorem Fr.below {P : Nat → Prop} {w w' : World} {B : Nat} (h : Fr P w w') (hB : B ≤ w.heap.size) (hp : ∀ k, P k → B ≤ k) : Below B w w' :=
  ⟨h.os, h.tape, h.output, h.size, fun k hk => h.block k (by omega) (fun x => by have := hp k x; omega)⟩
theorem Fr.drew {P : Nat → Prop} {a b : World} (h : Fr P a b) : Fr P a b.drew := ⟨h.os, h.tape, h.output, h.size, h.block⟩
theorem Fr.own2 {v : Value} {w w' : World} (h : Own2 v w w') : Fr (fun k => v.ownBlock = some k) w w' := ⟨h.os, h.tape, h.output, h.size, fun k hk hn => h.block k hk hn⟩

theorem own_fr {P : Nat → Prop} {w w' : World} {B e size n : Nat} {v : Value} {xs : List Value} (h : w.ownsRow B e size v n xs) (hf : Fr P w w') (hn : ∀ k, v.ownBlock = some k → ¬ P k) : w'.ownsRow B e size v n xs := by
  have hl := fun k hk => h.lt k hk
  obtain ⟨h1, h2⟩ := h
  rcases h2 with h0 | ⟨g, cap, cur, e1, hg, hgg, rest⟩
  · exact ⟨h1, Or.inl h0⟩
  · have hg2 : v.ownBlock = some g := by rw [e1]; rfl
    exact ⟨h1, Or.inr ⟨g, cap, cur, e1, hg, (hf.block g (hl g hg2).2 (hn g hg2)).trans hgg, rest⟩⟩

/-- A block, whole. -/
def Blk (w : World) (g : Nat) (cs : Array Value) (t : TypeId) : Prop := w.heap[g]? = some (.cells cs t (0, 0))
theorem Blk.hi {w : World} {g : Nat} {cs : Array Value} {t : TypeId} (h : Blk w g cs t) : g < w.heap.size := (Array.getElem?_eq_some_iff.1 h).1
theorem Blk.fr {P : Nat → Prop} {w w' : World} {g : Nat} {cs : Array Value} {t : TypeId} (h : Blk w g cs t) (hf : Fr P w w') (hn : ¬ P g) : Blk w' g cs t := (hf.block g h.hi hn).trans h
theorem Blk.q {w w' : World} {g : Nat} {cs : Array Value} {t : TypeId} (h : Blk w g cs t) (hq : Q w w') : Blk w' g cs t := (hq.block g h.hi).trans h
theorem Blk.set {w : World} {g : Nat} {cs : Array Value} {t : TypeId} (h : Blk w g cs t) (i : Nat) (u : Value) : Blk (w.setCell ⟨g, i, none⟩ u) g (cs.setIfInBounds i u) t := heap_setCell_same w g i cs t u h
theorem Blk.other {w : World} {g k : Nat} {cs : Array Value} {t : TypeId} (h : Blk w g cs t) (hne : g ≠ k) (i : Nat) (u : Value) : Blk (w.setCell ⟨k, i, none⟩ u) g cs t := (Below.heap_setCell _ _ _ _ hne).trans h
theorem Blk.cell {w : World} {g : Nat} {cs : Array Value} {t : TypeId} (h : Blk w g cs t) (i : Nat) {v : Value} (hv : cs[i]? = some v) : w.cell? ⟨g, i, none⟩ = some v := (cell_of_row w g i cs t _ h).trans hv
theorem Blk.frz {w : World} {g : Nat} {cs : Array Value} {t : TypeId} (h : Blk w g cs t) (i : Nat) : w.frozen? ⟨g, i, none⟩ = false := frozen_of_row w g i cs t h
theorem Blk.drew {w : World} {g : Nat} {cs : Array Value} {t : TypeId} (h : Blk w g cs t) : Blk w.drew g cs t := h
theorem Blk.new (w : World) (cs : Array Value) (t : TypeId) : Blk (w.alloc (.cells cs t)) w.heap.size cs t := heap_alloc_new w _
theorem Blk.ne {w : World} {g k : Nat} {cs ds : Array Value} {t u : TypeId} (h : Blk w g cs t) (h2 : Blk w k ds u) (hne : t ≠ u) : g ≠ k := by
  rintro rfl
  have e := h.symm.trans h2
  simp only [Option.some.injEq, Obj.cells.injEq] at e
  exact hne e.2.1
theorem Blk.row {w : World} {g : Nat} {cs : Array Value} {t : TypeId} (h : Blk w g cs t) {B e size n : Nat} {v : Value} {xs : List Value} (h2 : w.ownsRow B e size v n xs) (hne : t ≠ e) : ∀ k, v.ownBlock = some k → k ≠ g := by
  intro k hk
  rcases h2.2 with ⟨rfl, _⟩ | ⟨g', cap, cur, rfl, hb, hg, _⟩
  · cases hk
  · cases hk
    exact (Blk.ne h hg hne).symm
theorem own_ne {w : World} {B B' e e' size size' n n' : Nat} {v v' : Value} {xs xs' : List Value} (h : w.ownsRow B e size v n xs) (h' : w.ownsRow B' e' size' v' n' xs') (hne : e ≠ e') : ∀ k, v.ownBlock = some k → v'.ownBlock ≠ some k := by
  intro k hk hk'
  rcases own_apart h h' hne with h1 | h1
  · rw [hk] at h1; cases h1
  · exact h1 (hk.trans hk'.symm)

/-- An edge, and where its four rows lie. -/
abbrev Pa := Option Addr × Nat
abbrev EdA := Ed × Pa × Pa × Pa × Pa
def EdA.v1 (x : EdA) : Value := .slice x.2.1.1 x.1.1.length x.2.1.2
def EdA.v2 (x : EdA) : Value := .slice x.2.2.1.1 x.1.2.1.length x.2.2.1.2
def EdA.v3 (x : EdA) : Value := .slice x.2.2.2.1.1 x.1.2.2.1.length x.2.2.2.1.2
def EdA.v4 (x : EdA) : Value := .slice x.2.2.2.2.1 x.1.2.2.2.1.length x.2.2.2.2.2
def ev (x : EdA) : List Value := [x.v1, x.v2, x.v3, x.v4, .string ⟨x.1.2.2.2.2.1.toArray⟩, .bool x.1.2.2.2.2.2.1, .string ⟨x.1.2.2.2.2.2.2.toArray⟩]
theorem ev_len (x : EdA) : (ev x).length = 7 := rfl
def edB (x : EdA) : List Nat := x.v1.ownBlock.toList ++ x.v2.ownBlock.toList ++ x.v3.ownBlock.toList ++ x.v4.ownBlock.toList

structure EdR (w : World) (B : Nat) (x : EdA) : Prop where
  a : OwnT w B x.2.1.1 x.2.1.2 x.1.1
  b : OwnT w B x.2.2.1.1 x.2.2.1.2 x.1.2.1
  c : OwnT w B x.2.2.2.1.1 x.2.2.2.1.2 x.1.2.2.1
  d : OwnT w B x.2.2.2.2.1 x.2.2.2.2.2 x.1.2.2.2.1

theorem mem_edB {x : EdA} {k : Nat} : k ∈ edB x ↔ x.v1.ownBlock = some k ∨ x.v2.ownBlock = some k ∨ x.v3.ownBlock = some k ∨ x.v4.ownBlock = some k := by
  unfold edB; simp
theorem EdR.fr {P : Nat → Prop} {w w' : World} {B : Nat} {x : EdA} (h : EdR w B x) (hf : Fr P w w') (hn : ∀ k ∈ edB x, ¬ P k) : EdR w' B x :=
  ⟨own_fr h.a hf (fun k hk => hn k (mem_edB.2 (Or.inl hk))), own_fr h.b hf (fun k hk => hn k (mem_edB.2 (Or.inr (Or.inl hk)))),
   own_fr h.c hf (fun k hk => hn k (mem_edB.2 (Or.inr (Or.inr (Or.inl hk))))), own_fr h.d hf (fun k hk => hn k (mem_edB.2 (Or.inr (Or.inr (Or.inr hk)))))⟩
theorem EdR.lt {w : World} {B : Nat} {x : EdA} (h : EdR w B x) : ∀ k ∈ edB x, B ≤ k ∧ k < w.heap.size := by
  intro k hk
  rcases mem_edB.1 hk with e | e | e | e
  · exact h.a.lt k e
  · exact h.b.lt k e
  · exact h.c.lt k e
  · exact h.d.lt k e
theorem EdR.blk {w : World} {B g : Nat} {x : EdA} {cs : Array Value} {t : TypeId} (h : EdR w B x) (hb : Blk w g cs t) (ht : t ≠ 9) : ∀ k ∈ edB x, k ≠ g := by
  intro k hk
  rcases mem_edB.1 hk with e | e | e | e
  · exact hb.row h.a ht k e
  · exact hb.row h.b ht k e
  · exact hb.row h.c ht k e
  · exact hb.row h.d ht k e
theorem EdR.row {w : World} {B B' e size n : Nat} {v : Value} {xs : List Value} {x : EdA} (h : EdR w B x) (h2 : w.ownsRow B' e size v n xs) (ht : e ≠ 9) : ∀ k ∈ edB x, v.ownBlock ≠ some k := by
  intro k hk hv
  rcases mem_edB.1 hk with e | e | e | e
  · exact own_ne h2 h.a ht k hv e
  · exact own_ne h2 h.b ht k hv e
  · exact own_ne h2 h.c ht k hv e
  · exact own_ne h2 h.d ht k hv e

/-- Where the rows lie. -/
structure Ad where
  es : List EdA
  eo : Option Addr
  ec : Nat
  po : Option Addr
  pc : Nat
  dd : Option Addr
  dc : Nat
  ro : Option Addr
  rc : Nat
  oo : Option Addr
  oc : Nat

def Ad.vE (A : Ad) : Value := .slice A.eo A.es.length A.ec
def Ad.vP (A : Ad) (s : Sm) : Value := .slice A.po s.ps.length A.pc
def Ad.vD (A : Ad) (s : Sm) : Value := .slice A.dd s.ds.length A.dc
def Ad.vR (A : Ad) (s : Sm) : Value := .slice A.ro s.rs.length A.rc
def Ad.vO (A : Ad) (s : Sm) : Value := .slice A.oo s.bs.length A.oc

def adB (A : Ad) (s : Sm) : List Nat := (A.vD s).ownBlock.toList ++ A.es.flatMap edB

/-- The rows. -/
structure Ro (B : Nat) (w : World) (s : Sm) (A : Ad) : Prop where
  e : w.ownsRow B 36 7 A.vE A.es.length (lay ev A.es)
  em : A.es.map Prod.fst = s.es
  p : w.ownsRow B 40 2 (A.vP s) s.ps.length (lay plv s.ps)
  d : w.ownsRow B 9 1 (A.vD s) s.ds.length (lay tv s.ds)
  r : w.ownsRow B 80 4 (A.vR s) s.rs.length (lay rv s.rs)
  o : w.ownsRow B 158 2 (A.vO s) s.bs.length (lay dv s.bs)
  q : ∀ x ∈ A.es, EdR w B x
  nd : (adB A s).Nodup

theorem Ro.fr {P : Nat → Prop} {w w' : World} {B : Nat} {s : Sm} {A : Ad} (h : Ro B w s A) (hf : Fr P w w') (he : ∀ k, A.vE.ownBlock = some k → ¬ P k) (hp : ∀ k, (A.vP s).ownBlock = some k → ¬ P k)
    (hr : ∀ k, (A.vR s).ownBlock = some k → ¬ P k) (ho : ∀ k, (A.vO s).ownBlock = some k → ¬ P k) (hd : ∀ k ∈ adB A s, ¬ P k) : Ro B w' s A :=
  ⟨own_fr h.e hf he, h.em, own_fr h.p hf hp, own_fr h.d hf (fun k hk => hd k (List.mem_append_left _ (by rw [hk]; simp))), own_fr h.r hf hr, own_fr h.o hf ho,
   fun x hx => (h.q x hx).fr hf (fun k hk => hd k (List.mem_append_right _ (List.mem_flatMap.2 ⟨x, hx, hk⟩))), h.nd⟩
theorem Ro.mem {w : World} {B : Nat} {s : Sm} {A : Ad} (h : Ro B w s A) : ∀ k ∈ adB A s, B ≤ k ∧ k < w.heap.size := by
  intro k hk
  rcases List.mem_append.1 hk with h1 | h1
  · exact h.d.lt k (by simpa [Option.mem_toList] using h1)
  · obtain ⟨x, hx, hk⟩ := List.mem_flatMap.1 h1
    exact (h.q x hx).lt k hk
theorem Ro.memT {w : World} {B g : Nat} {s : Sm} {A : Ad} (h : Ro B w s A) {cs : Array Value} {t : TypeId} (hb : Blk w g cs t) (ht : t ≠ 9) : ∀ k ∈ adB A s, k ≠ g := by
  intro k hk
  rcases List.mem_append.1 hk with h1 | h1
  · exact hb.row h.d ht k (by simpa [Option.mem_toList] using h1)
  · obtain ⟨x, hx, hk⟩ := List.mem_flatMap.1 h1
    exact (h.q x hx).blk hb ht k hk
/-- A block of none of the rows' types is written. -/
theorem Ro.blk {P : Nat → Prop} {w w' : World} {B g : Nat} {s : Sm} {A : Ad} (h : Ro B w s A) (hf : Fr P w w') {cs : Array Value} {t : TypeId} (hb : Blk w g cs t) (hP : ∀ k, P k → k = g)
    (h1 : t ≠ 9) (h2 : t ≠ 36 ∨ ∀ k, A.vE.ownBlock = some k → k ≠ g) (h3 : t ≠ 40 ∨ ∀ k, (A.vP s).ownBlock = some k → k ≠ g) (h4 : t ≠ 80 ∨ ∀ k, (A.vR s).ownBlock = some k → k ≠ g) (h5 : t ≠ 158) : Ro B w' s A :=
  h.fr hf (fun k hk hp => (h2.elim (fun h2 => hb.row h.e h2 k hk) (fun h2 => h2 k hk)) (hP k hp)) (fun k hk hp => (h3.elim (fun h3 => hb.row h.p h3 k hk) (fun h3 => h3 k hk)) (hP k hp))
    (fun k hk hp => (h4.elim (fun h4 => hb.row h.r h4 k hk) (fun h4 => h4 k hk)) (hP k hp)) (fun k hk hp => hb.row h.o h5 k hk (hP k hp)) (fun k hk hp => h.memT hb h1 k hk (hP k hp))
theorem Ro.qq {w w' : World} {B : Nat} {s : Sm} {A : Ad} (h : Ro B w s A) (hq : Q w w') : Ro B w' s A :=
  h.fr (P := fun _ => False) (Fr.of_q hq) (fun _ _ x => x) (fun _ _ x => x) (fun _ _ x => x) (fun _ _ x => x) (fun _ _ x => x)

/-- The reader's cells. -/
def rdC (A : Ad) (s : Sm) (vT vV : Value) : Array Value := #[A.vE, A.vP s, A.vD s, A.vR s, A.vO s, vT, vV]

structure Rd (B : Nat) (w : World) (R : Nat) (s : Sm) (A : Ad) (vT vV : Value) : Prop where
  blk : Blk w R (rdC A s vT vV) 54
  ro : Ro B w s A
  lo : B ≤ R

theorem Rd.q {B : Nat} {w w' : World} {R : Nat} {s : Sm} {A : Ad} {vT vV : Value} (h : Rd B w R s A vT vV) (hq : Q w w') : Rd B w' R s A vT vV := ⟨h.blk.q hq, h.ro.qq hq, h.lo⟩

/-- The line under way. -/
def UnS (B : Nat) (w : World) (R : Nat) (s : Sm) (A : Ad) (vT vV : Value) : Prop := match s.un with
  | none => vT = .func (.func 19) #[] #[] ∧ vV = .func (.func 20) #[] #[]
  | some (.inl r) => ∃ M RB, vT = .func (.func 39) #[] #[.pointer (some ⟨M, 0, none⟩), .pointer (some ⟨RB, 0, none⟩)] ∧ vV = .func (.func 41) #[] #[.pointer (some ⟨M, 0, none⟩), .pointer (some ⟨RB, 0, none⟩)] ∧
      Blk w M (rv r).toArray 80 ∧ Blk w RB #[.pointer (some ⟨R, 0, none⟩)] 45 ∧ B ≤ M ∧ ∀ k, (A.vR s).ownBlock = some k → k ≠ M
  | some (.inr (.inl p)) => ∃ M RB, vT = .func (.func 50) #[] #[.pointer (some ⟨M, 0, none⟩)] ∧ vV = .func (.func 52) #[] #[.pointer (some ⟨M, 0, none⟩), .pointer (some ⟨RB, 0, none⟩)] ∧
      Blk w M (plv p).toArray 40 ∧ Blk w RB #[.pointer (some ⟨R, 0, none⟩)] 45 ∧ B ≤ M ∧ ∀ k, (A.vP s).ownBlock = some k → k ≠ M
  | some (.inr (.inr x)) => ∃ G BY O RB y oo oc, vT = .func (.func 54) #[] #[.pointer (some ⟨RB, 0, none⟩), .pointer (some ⟨O, 0, none⟩)] ∧ vV = .func (.func 56) #[] #[.pointer (some ⟨RB, 0, none⟩), .pointer (some ⟨G, 0, none⟩), .pointer (some ⟨BY, 0, none⟩), .pointer (some ⟨O, 0, none⟩)] ∧
      y.1 = x.1 ∧ Blk w G (ev y).toArray 36 ∧ Blk w BY (rv x.2.1).toArray 80 ∧ Blk w O #[.slice oo x.2.2.length oc] 52 ∧ Blk w RB #[.pointer (some ⟨R, 0, none⟩)] 45 ∧
      OwnD w B oo oc x.2.2 ∧ EdR w B y ∧ (adB A s ++ edB y).Nodup ∧ B ≤ G ∧ B ≤ O ∧ ∀ k, A.vE.ownBlock = some k → k ≠ G

end Go.Proofs.YtgfegbeickaknabGreatDoor
