/- What an edge that came in is good for, and an edge that was copied; the fixed edges that every statement on signs asks of first; no conditions. -/
import Derived.Test.YtbfhliocckkbmaaDoorGfOpen
import Derived.Test.YtbfhliocckkbmaaDoorSgOf
import Derived.Test.YtbfhliocckkbmaaDoorNmWalks
namespace Go.Proofs.YtbfhliocckkbmaaDoor
open Go.ChangeShapes Go.WideShapes Go.ChangeAt Go.RowKit Go.WideElems

section
variable {H : Type} {enc : TypeId × Value → H} {W : World}
theorem Tryd.is_edgeV {r : Reach} {b0 : Nat} {v : Value} {d : DataW H} {p : List MemPlace} (hv : Value.okWide Tryd.prog W r b0 24 v)
    (h : DataW.Trod enc Tryd.prog W 0 (fun _ => true) true 24 v d p)
    (hsz : ∀ m ∈ DataW.weights Tryd.prog 24 d, m ≤ reachBytes) : ∃ x : EdA, v = edV' x ∧ EdO W x := by
  obtain ⟨cs, rfl, _⟩ := okWide_struct Tryd.underlying24 hv
  obtain ⟨n, hn⟩ := h
  obtain ⟨x, hx, ho⟩ := Tryd.is_edge hn hsz
  refine ⟨x, ?_, ho⟩
  have : cs = (ev x).toArray := by rw [← hx]; simp [Value.cells]
  rw [this]; rfl
end

theorem RowZ.q {w w' : World} {p : Pa} {ws : Ws} (h : RowZ w p ws) (q : Q w w') : RowZ w' p ws := ⟨RowG.q h.r q, h.z, h.n, h.s⟩
theorem EdO.q {w w' : World} {x : EdA} (h : EdO w x) (q : Q w w') : EdO w' x := ⟨h.a.q q, h.b.q q, h.c.q q, h.d.q q, h.k, h.p⟩
theorem EdO.c' {w : World} {x : EdA} (h : EdO w x) : EdC x := ⟨h.a.n, h.b.n, h.c.n⟩
theorem EdR.c' {w : World} {B : Nat} {x : EdA} (h : EdR w B x) : EdC x := ⟨(own_le h.a).1, (own_le h.b).1, (own_le h.c).1⟩

def awD : Ed := ([[120]], [[97], [98]], [[99]], [[100]], [99, 99, 32, 124, 32, 120], true, [])
def awX (n : Nat) : EdA := (awD, (at0 n, 1), (at0 (n + 1), 2), (at0 (n + 1 + 1), 1), (at0 (n + 1 + 1 + 1), 1))
def awL : List (Array Value × TypeId) := [(#[.string ⟨#[120]⟩], 9), (#[.string ⟨#[97]⟩, .string ⟨#[98]⟩], 9), (#[.string ⟨#[99]⟩], 9), (#[.string ⟨#[100]⟩], 9)]
def awT : Tx := [120, 124, 97, 32, 98, 124, 99, 124, 100, 124, 99, 99, 32, 124, 32, 120]
theorem aw_sg : sgS awD = awT ∧ sgE awD = 0 := by decide +kernel
theorem aw_of (w : World) : Calls Tryd.prog 8 #[edV' (awX w.heap.size)] (al w awL) fun e w' => e = .returned (.tuple #[.string ⟨awT.toArray⟩, .int .i64 0]) ∧ Q (al w awL) w' := by
  have hb := fun i x hx => al_blk awL w i x hx
  have h := sgOf_any (awX w.heap.size) (al w awL) ⟨tvR (hb 0 _ rfl) _ rfl, tvR (hb 1 _ rfl) _ rfl, tvR (hb 2 _ rfl) _ rfl, tvR (hb 3 _ rfl) _ rfl⟩ (edz_of (show edzB awD = true by decide +kernel)) ⟨Nat.le_refl 1, Nat.le_refl 2, Nat.le_refl 1⟩
  rw [show (awX w.heap.size).1 = awD from rfl, aw_sg.1, aw_sg.2] at h
  exact h
def zrX : EdA := (([], [], [], [], [], false, []), (none, 0), (none, 0), (none, 0), (none, 0))
theorem zr_of (w : World) : Calls Tryd.prog 8 #[edV' zrX] w fun e w' => e = .returned (.tuple #[.string ⟨#[]⟩, .int .i64 1100]) ∧ Q w w' := by
  have h := sgOf_any zrX w ⟨Or.inl rfl, Or.inl rfl, Or.inl rfl, Or.inl rfl⟩ (edz_of (show edzB zrX.1 = true by decide +kernel)) ⟨Nat.le_refl 0, Nat.le_refl 0, Nat.le_refl 0⟩
  rw [show sgS zrX.1 = [] from by decide +kernel, show sgE zrX.1 = 1100 from by decide +kernel] at h
  exact h

set_option maxHeartbeats 2000000 in
theorem sawake_any (w : World) : Calls Tryd.prog 12 #[] w fun e w' => e = .returned (.bool true) ∧ Q w w' := by
  go_enter Tryd.func12, Tryd.ntmps12
  go_wp2_with fail
  change Calls _ _ _ (al w awL) _
  refine (aw_of w).mono ?_
  rintro e w1 ⟨rfl, q1⟩
  have qa := (al_q awL w).trans q1
  unfold awT
  go_wp2_with fail
  refine (zr_of w1).mono ?_
  rintro e w2 ⟨rfl, q2⟩
  have q := qa.trans q2
  clear qa q1 q2
  go_wp2_with (go_at_call 10; refine (num_any _ _).mono ?_; rintro e w' ⟨rfl, rfl⟩)
  go_ret
  exact ⟨rfl, q⟩

end Go.Proofs.YtbfhliocckkbmaaDoor
