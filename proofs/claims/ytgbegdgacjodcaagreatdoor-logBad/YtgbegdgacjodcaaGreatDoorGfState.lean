/- How a graph that a call is handed lies in memory, to be read; no conditions. -/
import Derived.Test.YtgbegdgacjodcaaGreatDoorGfBase
import Derived.Test.YtgbegdgacjodcaaGreatDoorBdPlain
namespace Go.Proofs.YtgbegdgacjodcaaGreatDoor
open Go.RowKit

def pov (p : Po) : List Value := [.string ⟨p.1.toArray⟩, .int .i64 p.2]
theorem pov_len (p : Po) : (pov p).length = 2 := rfl
abbrev RowO (w : World) (ao : Option Addr) (ps : List Po) : Prop := RowG pov 2 w ao ps

/-- Sizes that can be. -/
structure WsZ (ws : Ws) : Prop where
  n : ws.length ≤ 140737488355328
  t : ∀ x ∈ ws, x.length ≤ maxLen
structure EdZ (e : Ed) : Prop where
  a : WsZ e.1
  b : WsZ e.2.1
  c : WsZ e.2.2.1
  d : WsZ e.2.2.2.1
  k : e.2.2.2.2.1.length ≤ maxLen
  p : e.2.2.2.2.2.2.length ≤ maxLen
structure GhZ (g : Gh) : Prop where
  e : ∀ x ∈ g.1, EdZ x
  le : g.1.length ≤ 140737488355328
  lp : g.2.1.length ≤ 140737488355328
  p : ∀ x ∈ g.2.1, x.1.length ≤ maxLen
  d : WsZ g.2.2

structure GfR (w : World) (g : Gh) (es : List EdA) (eo po dd : Option Addr) : Prop where
  e : RowG ev 7 w eo es
  em : es.map Prod.fst = g.1
  p : RowO w po g.2.1
  d : RowT w dd g.2.2
  q : ∀ x ∈ es, EdRd w x
  z : GhZ g
theorem GfR.q' {w w' : World} {g : Gh} {es : List EdA} {eo po dd : Option Addr} (h : GfR w g es eo po dd) (q : Q w w') : GfR w' g es eo po dd :=
  ⟨h.e.q q, h.em, h.p.q q, h.d.q q, fun x hx => (h.q x hx).q q, h.z⟩
theorem GfR.len {w : World} {g : Gh} {es : List EdA} {eo po dd : Option Addr} (h : GfR w g es eo po dd) : es.length = g.1.length := by rw [← h.em, List.length_map]
theorem GfR.ez {w : World} {g : Gh} {es : List EdA} {eo po dd : Option Addr} (h : GfR w g es eo po dd) {x : EdA} (hx : x ∈ es) : EdZ x.1 := h.z.e _ (by rw [← h.em]; exact List.mem_map_of_mem hx)

/-- A graph's, an edge's value. -/
abbrev grV (es : List EdA) (g : Gh) (eo po dd : Option Addr) (ec pc dc : Nat) : Value := .agg #[.slice eo es.length ec, .slice po g.2.1.length pc, .slice dd g.2.2.length dc]
abbrev edV' (x : EdA) : Value := .agg #[.slice x.2.1.1 x.1.1.length x.2.1.2, .slice x.2.2.1.1 x.1.2.1.length x.2.2.1.2, .slice x.2.2.2.1.1 x.1.2.2.1.length x.2.2.2.1.2, .slice x.2.2.2.2.1 x.1.2.2.2.1.length x.2.2.2.2.2, .string ⟨x.1.2.2.2.2.1.toArray⟩, .bool x.1.2.2.2.2.2.1, .string ⟨x.1.2.2.2.2.2.2.toArray⟩]

theorem mk_size' (x : Tx) : (⟨x.toArray⟩ : ByteArray).size = x.length := by rw [← bl_size]; rfl
theorem RowG.take {α : Type} {f : α → List Value} {sz : Nat} {w : World} {ao : Option Addr} {xs : List α} (h : RowG f sz w ao xs) (k : Nat) : RowG f sz w ao (xs.take k) := by
  rcases h with h | ⟨g, o, e, hg, hc⟩
  · left; rw [h]; simp
  · right
    refine ⟨g, o, e, hg, fun j i x v hx hi hv => hc j i x v ?_ hi hv⟩
    rw [List.getElem?_take] at hx
    split at hx
    · exact hx
    · cases hx

end Go.Proofs.YtgbegdgacjodcaaGreatDoor
