/- Rows that lie in a block, what is written above what was there, small edges and graphs; no conditions. -/
import Derived.Test.YtfdmhniccdnafaaDoorGfState
namespace Go.Proofs.YtfdmhniccdnafaaDoor
open Go.RowKit

abbrev at0 (n : Nat) : Option Addr := some ⟨n, 0, none⟩
theorem tvR {w : World} {g : Nat} {cs : Array Value} {t : TypeId} (h : Blk w g cs t) (ws : Ws) (he : cs = (lay tv ws).toArray) : RowT w (at0 g) ws := rowB tv_len h ws he
theorem Q.setHi {a b : World} (q : Q a b) {k : Nat} (hk : a.heap.size ≤ k) (i : Nat) (u : Value) : Q a (b.setCell ⟨k, i, none⟩ u) :=
  ⟨q.os, q.tape, q.output, by have := q.size; simpa [World.setCell] using this, fun j hj => (Below.heap_setCell _ _ _ _ (by show j ≠ k; omega)).trans (q.block j hj)⟩

/-! small graphs -/
def wszB (ws : Ws) : Bool := decide (ws.length ≤ 4096) && ws.all fun x => decide (x.length ≤ 4096)
def edzB (e : Ed) : Bool := wszB e.1 && wszB e.2.1 && wszB e.2.2.1 && wszB e.2.2.2.1 && decide (e.2.2.2.2.1.length ≤ 4096) && decide (e.2.2.2.2.2.2.length ≤ 4096)
def ghzB (g : Gh) : Bool := g.1.all edzB && decide (g.1.length ≤ 4096) && decide (g.2.1.length ≤ 4096) && g.2.1.all (fun p => decide (p.1.length ≤ 4096)) && wszB g.2.2
theorem wsz_of {ws : Ws} (h : wszB ws = true) : WsZ ws := by
  unfold wszB at h
  simp only [Bool.and_eq_true, decide_eq_true_eq, List.all_eq_true] at h
  exact ⟨by omega, fun x hx => by have := h.2 x hx; unfold maxLen; omega⟩
theorem edz_of {e : Ed} (h : edzB e = true) : EdZ e := by
  unfold edzB at h
  simp only [Bool.and_eq_true, decide_eq_true_eq] at h
  obtain ⟨⟨⟨⟨⟨h1, h2⟩, h3⟩, h4⟩, h5⟩, h6⟩ := h
  exact ⟨wsz_of h1, wsz_of h2, wsz_of h3, wsz_of h4, by unfold maxLen; omega, by unfold maxLen; omega⟩
theorem ghz_of {g : Gh} (h : ghzB g = true) : GhZ g := by
  unfold ghzB at h
  simp only [Bool.and_eq_true, decide_eq_true_eq, List.all_eq_true] at h
  obtain ⟨⟨⟨⟨h1, h2⟩, h3⟩, h4⟩, h5⟩ := h
  exact ⟨fun x hx => edz_of (h1 x hx), by omega, by omega, fun x hx => by have := h4 x hx; unfold maxLen; omega, wsz_of h5⟩

end Go.Proofs.YtfdmhniccdnafaaDoor
