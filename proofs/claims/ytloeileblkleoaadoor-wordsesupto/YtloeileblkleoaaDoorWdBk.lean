/- A block of five cells that is written cell by cell, rows that lie apart from it, rows that are cut; an append to nothing inside a statement that leaves its order open; no conditions. -/
import Derived.Test.YtloeileblkleoaaDoorWdBut
import Derived.Test.YtloeileblkleoaaDoorStAppend
import Derived.Deep.RegionLaw
namespace Go.Proofs.YtloeileblkleoaaDoor
open Go.RowKit

def updV (v : Nat → Value) (i : Nat) (x : Value) : Nat → Value := fun j => if j = i then x else v j

/-- Five values that lie in block g. -/
structure Bk (w : World) (g : Nat) (v : Nat → Value) : Prop where
  hi : g < w.heap.size
  c : ∀ i, i < 5 → w.cell? ⟨g, i, none⟩ = some (v i)
  frz : ∀ r, w.frozen? ⟨g, r, none⟩ = false

theorem Bk.q {w w' : World} {g : Nat} {v : Nat → Value} (h : Bk w g v) (hq : Q w w') : Bk w' g v :=
  ⟨Nat.lt_of_lt_of_le h.hi hq.size, fun i hi => (hq.cell (p := ⟨g, i, none⟩) h.hi).trans (h.c i hi), fun r => (hq.frozen (p := ⟨g, r, none⟩) h.hi).trans (h.frz r)⟩
theorem Bk.set {w : World} {g : Nat} {v : Nat → Value} (h : Bk w g v) (i : Nat) (hi : i < 5) (x : Value) : Bk (w.setCell ⟨g, i, none⟩ x) g (updV v i x) := by
  refine ⟨by simpa using h.hi, fun j hj => ?_, fun r => by rw [← h.frz r]; simp⟩
  unfold updV
  by_cases e : j = i
  · subst e
    rw [if_pos rfl]
    exact World.cell?_setCell_same' w ⟨g, j, none⟩ x (by rw [h.c j hj]; rfl)
  · rw [if_neg e, ← h.c j hj]
    exact World.cell?_setCell_other w ⟨g, i, none⟩ ⟨g, j, none⟩ x (by intro h2; cases h2; exact e rfl)
theorem Bk.but {w w' : World} {g k : Nat} {v : Nat → Value} (h : Bk w g v) (hb : But k w w') (hne : g ≠ k) : Bk w' g v :=
  ⟨Nat.lt_of_lt_of_le h.hi hb.size, fun i hi => (World.cell?_of_block (w := w) (a := ⟨g, i, none⟩) (hb.block g h.hi hne)).trans (h.c i hi), fun r => (World.frozen?_of_block (w := w) (a := ⟨g, r, none⟩) (hb.block g h.hi hne)).trans (h.frz r)⟩

/-- A row of texts that lies apart from blocks k and l. -/
def RowF (k l : Nat) (w : World) (A : Option Addr) (xs : Ws) : Prop := RowT w A xs ∧ ∀ a, A = some a → a.block ≠ k ∧ a.block ≠ l

theorem row_but {m : Nat} {w w' : World} {A : Option Addr} {xs : Ws} (h : RowT w A xs) (hb : But m w w') (hn : ∀ a, A = some a → a.block ≠ m) : RowT w' A xs := by
  rcases h with h1 | ⟨g, o, rfl, hg, hc⟩
  · exact Or.inl h1
  · have hne : g ≠ m := hn _ rfl
    exact Or.inr ⟨g, o, rfl, Nat.lt_of_lt_of_le hg hb.size, fun j i x v hx hi hv => (World.cell?_of_block (w := w) (a := ⟨g, o + (j * 1 + i), none⟩) (hb.block g hg hne)).trans (hc j i x v hx hi hv)⟩
theorem RowF.but1 {k l : Nat} {w w' : World} {A : Option Addr} {xs : Ws} (h : RowF k l w A xs) (hb : But k w w') : RowF k l w' A xs := ⟨row_but h.1 hb (fun a ha => (h.2 a ha).1), h.2⟩
theorem RowF.but2 {k l : Nat} {w w' : World} {A : Option Addr} {xs : Ws} (h : RowF k l w A xs) (hb : But l w w') : RowF k l w' A xs := ⟨row_but h.1 hb (fun a ha => (h.2 a ha).2), h.2⟩
theorem RowF.q {k l : Nat} {w w' : World} {A : Option Addr} {xs : Ws} (h : RowF k l w A xs) (hq : Q w w') : RowF k l w' A xs := ⟨h.1.q hq, h.2⟩
theorem RowF.nil (k l : Nat) (w : World) : RowF k l w none [] := ⟨Or.inl rfl, fun _ h => by cases h⟩
theorem RowF.own {k l B : Nat} {w : World} {A : Option Addr} {cap : Nat} {xs : Ws} (h : OwnT w B A cap xs) (hk : ∀ g, B ≤ g → g < w.heap.size → g ≠ k ∧ g ≠ l) : RowF k l w A xs := by
  refine ⟨h.row, fun a ha => ?_⟩
  subst ha
  have hl := h.lt
  rcases h.2 with ⟨e, _⟩ | ⟨g, cap', cur, e, hb, _⟩
  · cases e
  · cases e
    have := hl g rfl
    exact hk g this.1 this.2
theorem RowF.take {k l : Nat} {w : World} {A : Option Addr} {xs : Ws} (h : RowF k l w A xs) (n : Nat) : RowF k l w A (xs.take n) := by
  refine ⟨?_, h.2⟩
  rcases h.1 with h1 | ⟨g, o, rfl, hg, hc⟩
  · rw [h1]; exact Or.inl (by simp)
  · refine Or.inr ⟨g, o, rfl, hg, fun j i x v hx hi hv => hc j i x v ?_ hi hv⟩
    rw [List.getElem?_take] at hx; split at hx
    · exact hx
    · cases hx
/-- ws[j:], as the machine says it. -/
theorem RowF.cut {k l : Nat} {w : World} {A : Option Addr} {xs : Ws} (h : RowF k l w A xs) (j cap : Nat) (hc : xs.length ≤ cap) : RowF k l w (if cap = j then A else A.map (·.add (j * 1))) (xs.drop j) := by
  by_cases hj : cap = j
  · rw [if_pos hj, List.drop_eq_nil_of_le (by omega)]
    exact ⟨Or.inl rfl, h.2⟩
  rw [if_neg hj]
  rcases h.1 with h1 | ⟨g, o, rfl, hg, hcc⟩
  · refine ⟨Or.inl (by rw [h1]; simp), fun a ha => ?_⟩
    cases A with
    | none => cases ha
    | some b => cases ha; rw [show (b.add (j * 1)).block = b.block by unfold Addr.add; split <;> rfl]; exact h.2 b rfl
  · refine ⟨Or.inr ⟨g, o + j, by simp [Addr.add], hg, fun i l x v hx hl hv => ?_⟩, fun a ha => ?_⟩
    · rw [List.getElem?_drop] at hx
      have := hcc (j + i) l x v hx hl hv
      rw [← this]; congr 2; omega
    · cases ha
      show ((⟨g, o, none⟩ : Addr).add (j * 1)).block ≠ k ∧ ((⟨g, o, none⟩ : Addr).add (j * 1)).block ≠ l
      rw [show ((⟨g, o, none⟩ : Addr).add (j * 1)).block = g by unfold Addr.add; split <;> rfl]; exact h.2 ⟨g, o, none⟩ rfl

theorem RowF.cutS {k l : Nat} {w : World} {g o : Nat} {xs : Ws} (h : RowF k l w (some ⟨g, o, none⟩) xs) (j : Nat) : RowF k l w (some ⟨g, o + j, none⟩) (xs.drop j) := by
  have hf : g ≠ k ∧ g ≠ l := h.2 _ rfl
  refine ⟨?_, fun a ha => by cases ha; exact hf⟩
  rcases h.1 with h1 | ⟨g', o', he, hg, hcc⟩
  · exact Or.inl (by rw [h1]; simp)
  · cases he
    refine Or.inr ⟨g, o + j, rfl, hg, fun i l x v hx hl hv => ?_⟩
    rw [List.getElem?_drop] at hx
    have := hcc (j + i) l x v hx hl hv
    rw [← this]; congr 2; omega
theorem RowF.cutE {k l : Nat} {w : World} {A : Option Addr} {xs : Ws} (h : RowF k l w A xs) (j : Nat) (hj : xs.length ≤ j) : RowF k l w A (xs.drop j) :=
  ⟨Or.inl (List.drop_eq_nil_of_le hj), h.2⟩

theorem step_new {ops : Array Oper} {o : Oper} {a : Act} {w : World} {K : Act → World → Prop} {Q' : Exit → Act → World → Prop} {E : Prop} (i0 : TypeInfo) (hi : Tryd.prog.info? 9 = some i0) (hz0 : i0.zero = some (.string ByteArray.empty)) (hz1 : i0.size = 1) (hz2 : i0.bytes = 16)
    (hg : o.guard = none) (s x : Operand) (ho : o.op = .call { callee := .builtin .append, args := #[s, x], argTypes := #[22, 22] })
    (hs : a.eval s = .slice none 0 0) (A : Option Addr) (m c : Nat) (hx : a.eval x = .slice A m c) (xs : Ws) (hm : m = xs.length) (hr : RowT w A xs) (hl : m ≤ 4294967296)
    (h : ∀ ao' cap' w', OwnT w' w.heap.size ao' cap' xs → Q w w' → K (a.put o.dst (.slice ao' m cap')) w') :
    if Region.wanted o (yielded ops a.tmps) = true then Oper.wp Tryd.prog o a w K Q' else E := by
  have hw : Region.wanted o (yielded ops a.tmps) = true := by simp [Region.wanted, hg]
  rw [if_pos hw]
  subst hm
  refine wp_append_row s x 22 ho w.heap.size 9 i0 (.string ByteArray.empty) 1 16 Tryd.underlying22 hi hz0 hz1 hz2 rfl (by decide) none 0 0 [] hs (World.ownsRow_nil _ _ _ _) A xs.length c (lay tv xs) hx (SrcRow.row tv_len (by decide) hr) ?_ (by unfold maxLen; omega) (by omega) (Nat.le_refl _) ?_
  · intro u hu
    obtain ⟨y, _, hy⟩ := List.mem_flatMap.1 hu
    simp [tv] at hy; subst hy; rfl
  · intro ao' cap' w' h1 h2
    rw [Nat.zero_add] at h1 ⊢
    refine h ao' cap' w' (by simpa using h1) ?_
    exact Below.grown (Q.refl w) h2 (Nat.le_refl _) (fun k hk => by cases hk)

end Go.Proofs.YtloeileblkleoaaDoor
