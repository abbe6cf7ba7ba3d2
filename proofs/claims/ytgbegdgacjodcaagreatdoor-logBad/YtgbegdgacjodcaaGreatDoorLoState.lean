/- Rows of records in memory; no conditions. -/
import Derived.Test.YtgbegdgacjodcaaGreatDoorBdPlain
import Derived.Test.YtgbegdgacjodcaaGreatDoorLgOpen
import Derived.Test.YtgbegdgacjodcaaGreatDoorStAppend
namespace Go.Proofs.YtgbegdgacjodcaaGreatDoor
open Go.RowKit

theorem Tryz.infoR : (Tryz.prog.info? 31).map (fun i => (i.zero, i.size, i.bytes)) = some (some (.agg #[.string ByteArray.empty, .int .i64 0, .string ByteArray.empty]), 3, 40) := by kernel_rfl
def rv (r : Rc) : List Value := [.string ⟨r.1.toArray⟩, .int .i64 r.2.1, .string ⟨r.2.2.toArray⟩]
theorem rv_len (r : Rc) : (rv r).length = 3 := rfl
abbrev RowR (w : World) (ao : Option Addr) (rs : Rs) : Prop := RowG rv 3 w ao rs
abbrev OwnR (w : World) (B : Nat) (ao : Option Addr) (cap : Nat) (rs : Rs) : Prop := w.ownsRow B 31 3 (.slice ao rs.length cap) rs.length (lay rv rs)
theorem OwnR.snoc {w : World} {B cap : Nat} {ao : Option Addr} {rs : Rs} {r : Rc} (h : w.ownsRow B 31 3 (.slice ao (rs.length + 1) cap) (rs.length + 1) (lay rv rs ++ rv r)) : OwnR w B ao cap (rs ++ [r]) := by
  show w.ownsRow B _ 3 (.slice ao (rs ++ [r]).length cap) (rs ++ [r]).length (lay rv (rs ++ [r]))
  rw [lay_snoc, List.length_append]; exact h
theorem OwnR.row {w : World} {B : Nat} {ao : Option Addr} {cap : Nat} {rs : Rs} (h : OwnR w B ao cap rs) : RowR w ao rs := RowG.own rv_len (by decide) h
theorem OwnR.as {w : World} {B : Nat} {ao : Option Addr} {cap : Nat} {rs gs : Rs} (h : OwnR w B ao cap rs) (e : rs = gs) : OwnR w B ao cap gs := e ▸ h
theorem one_rv (r : Rc) : ∀ u ∈ rv r, u.oneCell' = true := by intro u hu; simp [rv] at hu; rcases hu with rfl | rfl | rfl <;> rfl
theorem one_layR (rs : Rs) : ∀ u ∈ lay rv rs, u.oneCell' = true := by
  intro u hu
  obtain ⟨y, _, hy⟩ := List.mem_flatMap.1 hu
  exact one_rv y u hy
theorem take_twoR {ps qs : Rs} {k : Nat} {p r : Rc} (ht : ps.take k = qs.take k) (hp : ps[k]? = some p) (hr : qs[k]? = some r) : (p = r → ps.take (k + 1) = qs.take (k + 1)) ∧ (p ≠ r → ps ≠ qs) := by
  refine ⟨?_, ?_⟩
  · intro h; rw [List.take_add_one, List.take_add_one, ht, hp, hr, h]
  · intro h e; subst e; rw [hp] at hr; exact h (Option.some.inj hr)
/-- Texts no longer than strings can be. -/
abbrev RsZ (rs : Rs) : Prop := ∀ r ∈ rs, RcZ r
theorem RowR.front {w : World} {ao : Option Addr} {bs cs : Rs} (h : RowR w ao (bs ++ cs)) : RowR w ao bs := by
  rcases h with h | ⟨g, o, e, hg, hc⟩
  · left; exact (List.append_eq_nil_iff.1 h).1
  · refine Or.inr ⟨g, o, e, hg, ?_⟩
    intro j i x v hx hi hv
    refine hc j i x v ?_ hi hv
    rw [List.getElem?_append_left (List.getElem?_eq_some_iff.1 hx).1]; exact hx

end Go.Proofs.YtgbegdgacjodcaaGreatDoor
