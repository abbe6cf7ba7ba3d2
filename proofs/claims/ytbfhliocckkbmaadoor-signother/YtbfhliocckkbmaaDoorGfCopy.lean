/- What the statements' own CopyEdge answers: an edge with the same in it, in rows of its own; the conditions: the edge came in. -/
import Derived.Test.YtbfhliocckkbmaaDoorGfOpen
import Derived.Test.YtbfhliocckkbmaaDoorGfStep
import Derived.Test.YtbfhliocckkbmaaDoorGfZ
namespace Go.Proofs.YtbfhliocckkbmaaDoor
open Go.RowKit

def eS7 (w : World) (g : Nat) (v0 v1 v2 v3 v4 v5 v6 : Value) : World := ((((((w.setCell ⟨g, 0, none⟩ v0).setCell ⟨g, 1, none⟩ v1).setCell ⟨g, 2, none⟩ v2).setCell ⟨g, 3, none⟩ v3).setCell ⟨g, 4, none⟩ v4).setCell ⟨g, 5, none⟩ v5).setCell ⟨g, 6, none⟩ v6
theorem eS7_facts {w : World} {g : Nat} {a b c d e f h : Value} {t : TypeId} (hb : Blk w g #[a, b, c, d, e, f, h] t) (v0 v1 v2 v3 v4 v5 v6 : Value) : Blk (eS7 w g v0 v1 v2 v3 v4 v5 v6) g #[v0, v1, v2, v3, v4, v5, v6] t ∧ Fr (fun k => k = g) w (eS7 w g v0 v1 v2 v3 v4 v5 v6) :=
by
  have h0 : Blk (w.setCell ⟨g, 0, none⟩ v0) g #[v0, b, c, d, e, f, h] t := hb.set 0 v0
  have h1 : Blk ((w.setCell ⟨g, 0, none⟩ v0).setCell ⟨g, 1, none⟩ v1) g #[v0, v1, c, d, e, f, h] t := h0.set 1 v1
  have h2 : Blk (((w.setCell ⟨g, 0, none⟩ v0).setCell ⟨g, 1, none⟩ v1).setCell ⟨g, 2, none⟩ v2) g #[v0, v1, v2, d, e, f, h] t := h1.set 2 v2
  have h3 : Blk ((((w.setCell ⟨g, 0, none⟩ v0).setCell ⟨g, 1, none⟩ v1).setCell ⟨g, 2, none⟩ v2).setCell ⟨g, 3, none⟩ v3) g #[v0, v1, v2, v3, e, f, h] t := h2.set 3 v3
  have h4 : Blk (((((w.setCell ⟨g, 0, none⟩ v0).setCell ⟨g, 1, none⟩ v1).setCell ⟨g, 2, none⟩ v2).setCell ⟨g, 3, none⟩ v3).setCell ⟨g, 4, none⟩ v4) g #[v0, v1, v2, v3, v4, f, h] t := h3.set 4 v4
  have h5 : Blk ((((((w.setCell ⟨g, 0, none⟩ v0).setCell ⟨g, 1, none⟩ v1).setCell ⟨g, 2, none⟩ v2).setCell ⟨g, 3, none⟩ v3).setCell ⟨g, 4, none⟩ v4).setCell ⟨g, 5, none⟩ v5) g #[v0, v1, v2, v3, v4, v5, h] t := h4.set 5 v5
  have h6 : Blk (eS7 w g v0 v1 v2 v3 v4 v5 v6) g #[v0, v1, v2, v3, v4, v5, v6] t := h5.set 6 v6
  refine ⟨h6, ?_⟩
  unfold eS7
  exact ((((((Fr.set w g 0 v0).trans (Fr.set _ g 1 v1)).trans (Fr.set _ g 2 v2)).trans (Fr.set _ g 3 v3)).trans (Fr.set _ g 4 v4)).trans (Fr.set _ g 5 v5)).trans (Fr.set _ g 6 v6)

set_option maxRecDepth 20000 in
set_option maxHeartbeats 8000000 in
theorem copyE_any (x : EdA) (w : World) (hx : EdO w x) :
    Calls Tryd.prog 7 #[.agg #[.slice x.2.1.1 x.1.1.length x.2.1.2, .slice x.2.2.1.1 x.1.2.1.length x.2.2.1.2, .slice x.2.2.2.1.1 x.1.2.2.1.length x.2.2.2.1.2, .slice x.2.2.2.2.1 x.1.2.2.2.1.length x.2.2.2.2.2, .string ⟨x.1.2.2.2.2.1.toArray⟩, .bool x.1.2.2.2.2.2.1, .string ⟨x.1.2.2.2.2.2.2.toArray⟩]] w fun e w' => ∃ y : EdA, e = .returned (edV' y) ∧ y.1 = x.1 ∧ EdR w' w.heap.size y ∧ Q w w' := by
  obtain ⟨i0, hi, hz0, hz1, hz2⟩ : ∃ i0, Tryd.prog.info? 9 = some i0 ∧ i0.zero = some (.string ByteArray.empty) ∧ i0.size = 1 ∧ i0.bytes = 16 := ⟨_, rfl, rfl, rfl, rfl⟩
  have HX0 := hide hx.a.r
  have HX1 := hide hx.b.r
  have HX2 := hide hx.c.r
  have HX3 := hide hx.d.r
  have l0 : x.1.1.length * 16 ≤ 140737488355328 := by have h1 := hx.a.n; have h2 := hx.a.s; unfold reachBytes at h2; omega
  have l1 : x.1.2.1.length * 16 ≤ 140737488355328 := by have h1 := hx.b.n; have h2 := hx.b.s; unfold reachBytes at h2; omega
  have l2 : x.1.2.2.1.length * 16 ≤ 140737488355328 := by have h1 := hx.c.n; have h2 := hx.c.s; unfold reachBytes at h2; omega
  have l3 : x.1.2.2.2.1.length * 16 ≤ 140737488355328 := by have h1 := hx.d.n; have h2 := hx.d.s; unfold reachBytes at h2; omega
  clear hx
  have q0 : Q w ((w.alloc (.cells #[.slice x.2.1.1 x.1.1.length x.2.1.2, .slice x.2.2.1.1 x.1.2.1.length x.2.2.1.2, .slice x.2.2.2.1.1 x.1.2.2.1.length x.2.2.2.1.2, .slice x.2.2.2.2.1 x.1.2.2.2.1.length x.2.2.2.2.2, .string ⟨x.1.2.2.2.2.1.toArray⟩, .bool x.1.2.2.2.2.2.1, .string ⟨x.1.2.2.2.2.2.2.toArray⟩] 24)).alloc (.cells #[.slice none 0 0, .slice none 0 0, .slice none 0 0, .slice none 0 0, .string ⟨#[]⟩, .bool false, .string ⟨#[]⟩] 24)) := ((Q.refl w).alloc _).alloc _
  have HB0 : Hid (Blk ((w.alloc (.cells #[.slice x.2.1.1 x.1.1.length x.2.1.2, .slice x.2.2.1.1 x.1.2.1.length x.2.2.1.2, .slice x.2.2.2.1.1 x.1.2.2.1.length x.2.2.2.1.2, .slice x.2.2.2.2.1 x.1.2.2.2.1.length x.2.2.2.2.2, .string ⟨x.1.2.2.2.2.1.toArray⟩, .bool x.1.2.2.2.2.2.1, .string ⟨x.1.2.2.2.2.2.2.toArray⟩] 24)).alloc (.cells #[.slice none 0 0, .slice none 0 0, .slice none 0 0, .slice none 0 0, .string ⟨#[]⟩, .bool false, .string ⟨#[]⟩] 24)) w.heap.size #[.slice x.2.1.1 x.1.1.length x.2.1.2, .slice x.2.2.1.1 x.1.2.1.length x.2.2.1.2, .slice x.2.2.2.1.1 x.1.2.2.1.length x.2.2.2.1.2, .slice x.2.2.2.2.1 x.1.2.2.2.1.length x.2.2.2.2.2, .string ⟨x.1.2.2.2.2.1.toArray⟩, .bool x.1.2.2.2.2.2.1, .string ⟨x.1.2.2.2.2.2.2.toArray⟩] 24) := (Blk.new w _ _).q ((Q.refl _).alloc _)
  have HR0 : Hid (Blk ((w.alloc (.cells #[.slice x.2.1.1 x.1.1.length x.2.1.2, .slice x.2.2.1.1 x.1.2.1.length x.2.2.1.2, .slice x.2.2.2.1.1 x.1.2.2.1.length x.2.2.2.1.2, .slice x.2.2.2.2.1 x.1.2.2.2.1.length x.2.2.2.2.2, .string ⟨x.1.2.2.2.2.1.toArray⟩, .bool x.1.2.2.2.2.2.1, .string ⟨x.1.2.2.2.2.2.2.toArray⟩] 24)).alloc (.cells #[.slice none 0 0, .slice none 0 0, .slice none 0 0, .slice none 0 0, .string ⟨#[]⟩, .bool false, .string ⟨#[]⟩] 24)) (w.heap.size + 1) #[.slice none 0 0, .slice none 0 0, .slice none 0 0, .slice none 0 0, .string ⟨#[]⟩, .bool false, .string ⟨#[]⟩] 24) := by
    have h := Blk.new (w.alloc (.cells #[.slice x.2.1.1 x.1.1.length x.2.1.2, .slice x.2.2.1.1 x.1.2.1.length x.2.2.1.2, .slice x.2.2.2.1.1 x.1.2.2.1.length x.2.2.2.1.2, .slice x.2.2.2.2.1 x.1.2.2.2.1.length x.2.2.2.2.2, .string ⟨x.1.2.2.2.2.1.toArray⟩, .bool x.1.2.2.2.2.2.1, .string ⟨x.1.2.2.2.2.2.2.toArray⟩] 24)) #[.slice none 0 0, .slice none 0 0, .slice none 0 0, .slice none 0 0, .string ⟨#[]⟩, .bool false, .string ⟨#[]⟩] 24
    rw [size_alloc] at h
    exact h
  have HN0 : Hid ((((w.alloc (.cells #[.slice x.2.1.1 x.1.1.length x.2.1.2, .slice x.2.2.1.1 x.1.2.1.length x.2.2.1.2, .slice x.2.2.2.1.1 x.1.2.2.1.length x.2.2.2.1.2, .slice x.2.2.2.2.1 x.1.2.2.2.1.length x.2.2.2.2.2, .string ⟨x.1.2.2.2.2.1.toArray⟩, .bool x.1.2.2.2.2.2.1, .string ⟨x.1.2.2.2.2.2.2.toArray⟩] 24)).alloc (.cells #[.slice none 0 0, .slice none 0 0, .slice none 0 0, .slice none 0 0, .string ⟨#[]⟩, .bool false, .string ⟨#[]⟩] 24)).alloc (.cells #[] 9)).ownsRow w.heap.size 9 1 (.slice (some ⟨w.heap.size + 1 + 1, 0, none⟩) 0 0) 0 []) := by
    have h := own_new0 (w := ((w.alloc (.cells #[.slice x.2.1.1 x.1.1.length x.2.1.2, .slice x.2.2.1.1 x.1.2.1.length x.2.2.1.2, .slice x.2.2.2.1.1 x.1.2.2.1.length x.2.2.2.1.2, .slice x.2.2.2.2.1 x.1.2.2.2.1.length x.2.2.2.2.2, .string ⟨x.1.2.2.2.2.1.toArray⟩, .bool x.1.2.2.2.2.2.1, .string ⟨x.1.2.2.2.2.2.2.toArray⟩] 24)).alloc (.cells #[.slice none 0 0, .slice none 0 0, .slice none 0 0, .slice none 0 0, .string ⟨#[]⟩, .bool false, .string ⟨#[]⟩] 24))) (B := w.heap.size) (e := 9) (size := 1) q0.size
    rw [size_alloc, size_alloc] at h
    exact h
  have qs0 : w.heap.size ≤ (((w.alloc (.cells #[.slice x.2.1.1 x.1.1.length x.2.1.2, .slice x.2.2.1.1 x.1.2.1.length x.2.2.1.2, .slice x.2.2.2.1.1 x.1.2.2.1.length x.2.2.2.1.2, .slice x.2.2.2.2.1 x.1.2.2.2.1.length x.2.2.2.2.2, .string ⟨x.1.2.2.2.2.1.toArray⟩, .bool x.1.2.2.2.2.2.1, .string ⟨x.1.2.2.2.2.2.2.toArray⟩] 24)).alloc (.cells #[.slice none 0 0, .slice none 0 0, .slice none 0 0, .slice none 0 0, .string ⟨#[]⟩, .bool false, .string ⟨#[]⟩] 24)).alloc (.cells #[] 9)).heap.size := le_alloc q0.size _
  go_enter Tryd.func7, Tryd.ntmps7
  have HS0 := hide (SrcRow.row tv_len (by decide) ((unhide HX0).q (q0.alloc (.cells #[] 9))))
  go_wp2_with (at_builtin; refine wpList_append_row rfl _ _ 22 rfl w.heap.size 9 i0 (.string ByteArray.empty) 1 16 Tryd.underlying22 hi hz0 hz1 hz2 rfl (by decide) (some ⟨w.heap.size + 1 + 1, 0, none⟩) 0 0 [] rfl (unhide HN0) x.2.1.1 x.1.1.length x.2.1.2 (lay tv x.1.1) rfl (unhide HS0) (one_layT _) (by unfold maxLen; omega) (by omega) qs0 ?_)
  intro a0 c0 u0 own0 grow0
  have HO0_0 : Hid (OwnT u0 w.heap.size a0 c0 x.1.1) := by
    have h := own0
    first | exact h | (rw [Nat.zero_add, List.nil_append] at h; exact h)
  have hrow0 : ∀ r, (Value.slice (some ⟨w.heap.size + 1 + 1, 0, none⟩) 0 0).ownBlock = some r → r = w.heap.size + 1 + 1 := fun r hr => (Option.some.inj hr).symm
  have qu0 : Q w u0 := Below.grown (q0.alloc _) grow0 qs0 (fun r hr => by have h1 := hrow0 r hr; skip; omega)
  have bB0 := ((unhide HB0).q ((Q.refl _).alloc (.cells #[] 9))).fr (Fr.grown grow0) (fun hr => by have h1 := hrow0 _ hr; skip; omega)
  have bR0 := ((unhide HR0).q ((Q.refl _).alloc (.cells #[] 9))).fr (Fr.grown grow0) (fun hr => by have h1 := hrow0 _ hr; skip; omega)
  have frz0 := bB0.frz 0
  have cl0 : u0.cell? ⟨w.heap.size, 0, none⟩ = some (.slice x.2.1.1 x.1.1.length x.2.1.2) := bB0.cell 0 rfl
  have q1 : Q w (u0.setCell ⟨w.heap.size, 0, none⟩ (.slice a0 x.1.1.length c0)) := qu0.setHi (Nat.le_refl _) 0 _
  have HB1 : Hid (Blk (u0.setCell ⟨w.heap.size, 0, none⟩ (.slice a0 x.1.1.length c0)) w.heap.size #[.slice a0 x.1.1.length c0, .slice x.2.2.1.1 x.1.2.1.length x.2.2.1.2, .slice x.2.2.2.1.1 x.1.2.2.1.length x.2.2.2.1.2, .slice x.2.2.2.2.1 x.1.2.2.2.1.length x.2.2.2.2.2, .string ⟨x.1.2.2.2.2.1.toArray⟩, .bool x.1.2.2.2.2.2.1, .string ⟨x.1.2.2.2.2.2.2.toArray⟩] 24) := bB0.set 0 _
  have HR1 : Hid (Blk (u0.setCell ⟨w.heap.size, 0, none⟩ (.slice a0 x.1.1.length c0)) (w.heap.size + 1) #[.slice none 0 0, .slice none 0 0, .slice none 0 0, .slice none 0 0, .string ⟨#[]⟩, .bool false, .string ⟨#[]⟩] 24) := bR0.other (by omega) 0 _
  have HP0_0 : Hid (OwnT (u0.setCell ⟨w.heap.size, 0, none⟩ (.slice a0 x.1.1.length c0)) w.heap.size a0 c0 x.1.1) := own_fr (unhide HO0_0) (Fr.set u0 w.heap.size 0 _) (fun r hr => bB0.row (unhide HO0_0) (by decide) r hr)
  try rw [Nat.zero_add]
  have HN1 : Hid (((u0.setCell ⟨w.heap.size, 0, none⟩ (.slice a0 x.1.1.length c0)).alloc (.cells #[] 9)).ownsRow w.heap.size 9 1 (.slice (some ⟨u0.heap.size, 0, none⟩) 0 0) 0 []) := by
    have h := own_new0 (w := (u0.setCell ⟨w.heap.size, 0, none⟩ (.slice a0 x.1.1.length c0))) (B := w.heap.size) (e := 9) (size := 1) q1.size
    rw [show (u0.setCell ⟨w.heap.size, 0, none⟩ (.slice a0 x.1.1.length c0)).heap.size = u0.heap.size by simp [World.setCell]] at h
    exact h
  have qs1 : w.heap.size ≤ ((u0.setCell ⟨w.heap.size, 0, none⟩ (.slice a0 x.1.1.length c0)).alloc (.cells #[] 9)).heap.size := le_alloc q1.size _
  have sz1 : (u0.setCell ⟨w.heap.size, 0, none⟩ (.slice a0 x.1.1.length c0)).heap.size = u0.heap.size := by simp [World.setCell]
  clear own0 grow0 hrow0 qu0 bB0 bR0 HS0 HN0 qs0 q0 HB0 HR0
  have ld1 : ((u0.setCell ⟨w.heap.size, 0, none⟩ (.slice a0 x.1.1.length c0)).alloc (.cells #[] 9)).cell? ⟨w.heap.size, 1, none⟩ = some (.slice x.2.2.1.1 x.1.2.1.length x.2.2.1.2) := ((unhide HB1).q ((Q.refl _).alloc _)).cell 1 rfl
  have HO0_0' := HP0_0
  clear HO0_0 HP0_0
  have HS1 := hide (SrcRow.row tv_len (by decide) ((unhide HX1).q (q1.alloc (.cells #[] 9))))
  go_wp2_with (at_builtin; refine wpList_append_row rfl _ _ 22 rfl w.heap.size 9 i0 (.string ByteArray.empty) 1 16 Tryd.underlying22 hi hz0 hz1 hz2 rfl (by decide) (some ⟨u0.heap.size, 0, none⟩) 0 0 [] rfl (unhide HN1) x.2.2.1.1 x.1.2.1.length x.2.2.1.2 (lay tv x.1.2.1) rfl (unhide HS1) (one_layT _) (by unfold maxLen; omega) (by omega) qs1 ?_)
  intro a1 c1 u1 own1 grow1
  have HO1_1 : Hid (OwnT u1 w.heap.size a1 c1 x.1.2.1) := by
    have h := own1
    first | exact h | (rw [Nat.zero_add, List.nil_append] at h; exact h)
  have hrow1 : ∀ r, (Value.slice (some ⟨u0.heap.size, 0, none⟩) 0 0).ownBlock = some r → r = u0.heap.size := fun r hr => (Option.some.inj hr).symm
  have qu1 : Q w u1 := Below.grown (q1.alloc _) grow1 qs1 (fun r hr => by have h1 := hrow1 r hr; have h3 := q1.size; rw [sz1] at h3; omega)
  have bB1 := ((unhide HB1).q ((Q.refl _).alloc (.cells #[] 9))).fr (Fr.grown grow1) (fun hr => by have h1 := hrow1 _ hr; have h3 := (unhide HB1).hi; rw [sz1] at h3; omega)
  have bR1 := ((unhide HR1).q ((Q.refl _).alloc (.cells #[] 9))).fr (Fr.grown grow1) (fun hr => by have h1 := hrow1 _ hr; have h3 := (unhide HR1).hi; rw [sz1] at h3; omega)
  have HO0_1 : Hid (OwnT u1 w.heap.size a0 c0 x.1.1) := own_fr (own_q (unhide HO0_0') ((Q.refl _).alloc (.cells #[] 9))) (Fr.grown grow1) (fun r hr hp => by have h1 := hrow1 r hp; have h2 := ((unhide HO0_0').lt r hr).2; rw [sz1] at h2; omega)
  have frz1 := bB1.frz 1
  have cl1 : u1.cell? ⟨w.heap.size, 1, none⟩ = some (.slice x.2.2.1.1 x.1.2.1.length x.2.2.1.2) := bB1.cell 1 rfl
  have q2 : Q w (u1.setCell ⟨w.heap.size, 1, none⟩ (.slice a1 x.1.2.1.length c1)) := qu1.setHi (Nat.le_refl _) 1 _
  have HB2 : Hid (Blk (u1.setCell ⟨w.heap.size, 1, none⟩ (.slice a1 x.1.2.1.length c1)) w.heap.size #[.slice a0 x.1.1.length c0, .slice a1 x.1.2.1.length c1, .slice x.2.2.2.1.1 x.1.2.2.1.length x.2.2.2.1.2, .slice x.2.2.2.2.1 x.1.2.2.2.1.length x.2.2.2.2.2, .string ⟨x.1.2.2.2.2.1.toArray⟩, .bool x.1.2.2.2.2.2.1, .string ⟨x.1.2.2.2.2.2.2.toArray⟩] 24) := bB1.set 1 _
  have HR2 : Hid (Blk (u1.setCell ⟨w.heap.size, 1, none⟩ (.slice a1 x.1.2.1.length c1)) (w.heap.size + 1) #[.slice none 0 0, .slice none 0 0, .slice none 0 0, .slice none 0 0, .string ⟨#[]⟩, .bool false, .string ⟨#[]⟩] 24) := bR1.other (by omega) 1 _
  have HP0_1 : Hid (OwnT (u1.setCell ⟨w.heap.size, 1, none⟩ (.slice a1 x.1.2.1.length c1)) w.heap.size a0 c0 x.1.1) := own_fr (unhide HO0_1) (Fr.set u1 w.heap.size 1 _) (fun r hr => bB1.row (unhide HO0_1) (by decide) r hr)
  have HP1_1 : Hid (OwnT (u1.setCell ⟨w.heap.size, 1, none⟩ (.slice a1 x.1.2.1.length c1)) w.heap.size a1 c1 x.1.2.1) := own_fr (unhide HO1_1) (Fr.set u1 w.heap.size 1 _) (fun r hr => bB1.row (unhide HO1_1) (by decide) r hr)
  try rw [Nat.zero_add]
  have HN2 : Hid (((u1.setCell ⟨w.heap.size, 1, none⟩ (.slice a1 x.1.2.1.length c1)).alloc (.cells #[] 9)).ownsRow w.heap.size 9 1 (.slice (some ⟨u1.heap.size, 0, none⟩) 0 0) 0 []) := by
    have h := own_new0 (w := (u1.setCell ⟨w.heap.size, 1, none⟩ (.slice a1 x.1.2.1.length c1))) (B := w.heap.size) (e := 9) (size := 1) q2.size
    rw [show (u1.setCell ⟨w.heap.size, 1, none⟩ (.slice a1 x.1.2.1.length c1)).heap.size = u1.heap.size by simp [World.setCell]] at h
    exact h
  have qs2 : w.heap.size ≤ ((u1.setCell ⟨w.heap.size, 1, none⟩ (.slice a1 x.1.2.1.length c1)).alloc (.cells #[] 9)).heap.size := le_alloc q2.size _
  have sz2 : (u1.setCell ⟨w.heap.size, 1, none⟩ (.slice a1 x.1.2.1.length c1)).heap.size = u1.heap.size := by simp [World.setCell]
  clear own1 grow1 hrow1 qu1 bB1 bR1 HS1 HN1 qs1 q1 HB1 HR1
  have ld2 : ((u1.setCell ⟨w.heap.size, 1, none⟩ (.slice a1 x.1.2.1.length c1)).alloc (.cells #[] 9)).cell? ⟨w.heap.size, 2, none⟩ = some (.slice x.2.2.2.1.1 x.1.2.2.1.length x.2.2.2.1.2) := ((unhide HB2).q ((Q.refl _).alloc _)).cell 2 rfl
  have HO0_1' := HP0_1
  have HO1_1' := HP1_1
  clear HO0_1 HO1_1 HP0_1 HP1_1
  have HS2 := hide (SrcRow.row tv_len (by decide) ((unhide HX2).q (q2.alloc (.cells #[] 9))))
  go_wp2_with (at_builtin; refine wpList_append_row rfl _ _ 22 rfl w.heap.size 9 i0 (.string ByteArray.empty) 1 16 Tryd.underlying22 hi hz0 hz1 hz2 rfl (by decide) (some ⟨u1.heap.size, 0, none⟩) 0 0 [] rfl (unhide HN2) x.2.2.2.1.1 x.1.2.2.1.length x.2.2.2.1.2 (lay tv x.1.2.2.1) rfl (unhide HS2) (one_layT _) (by unfold maxLen; omega) (by omega) qs2 ?_)
  intro a2 c2 u2 own2 grow2
  have HO2_2 : Hid (OwnT u2 w.heap.size a2 c2 x.1.2.2.1) := by
    have h := own2
    first | exact h | (rw [Nat.zero_add, List.nil_append] at h; exact h)
  have hrow2 : ∀ r, (Value.slice (some ⟨u1.heap.size, 0, none⟩) 0 0).ownBlock = some r → r = u1.heap.size := fun r hr => (Option.some.inj hr).symm
  have qu2 : Q w u2 := Below.grown (q2.alloc _) grow2 qs2 (fun r hr => by have h1 := hrow2 r hr; have h3 := q2.size; rw [sz2] at h3; omega)
  have bB2 := ((unhide HB2).q ((Q.refl _).alloc (.cells #[] 9))).fr (Fr.grown grow2) (fun hr => by have h1 := hrow2 _ hr; have h3 := (unhide HB2).hi; rw [sz2] at h3; omega)
  have bR2 := ((unhide HR2).q ((Q.refl _).alloc (.cells #[] 9))).fr (Fr.grown grow2) (fun hr => by have h1 := hrow2 _ hr; have h3 := (unhide HR2).hi; rw [sz2] at h3; omega)
  have HO0_2 : Hid (OwnT u2 w.heap.size a0 c0 x.1.1) := own_fr (own_q (unhide HO0_1') ((Q.refl _).alloc (.cells #[] 9))) (Fr.grown grow2) (fun r hr hp => by have h1 := hrow2 r hp; have h2 := ((unhide HO0_1').lt r hr).2; rw [sz2] at h2; omega)
  have HO1_2 : Hid (OwnT u2 w.heap.size a1 c1 x.1.2.1) := own_fr (own_q (unhide HO1_1') ((Q.refl _).alloc (.cells #[] 9))) (Fr.grown grow2) (fun r hr hp => by have h1 := hrow2 r hp; have h2 := ((unhide HO1_1').lt r hr).2; rw [sz2] at h2; omega)
  have frz2 := bB2.frz 2
  have cl2 : u2.cell? ⟨w.heap.size, 2, none⟩ = some (.slice x.2.2.2.1.1 x.1.2.2.1.length x.2.2.2.1.2) := bB2.cell 2 rfl
  have q3 : Q w (u2.setCell ⟨w.heap.size, 2, none⟩ (.slice a2 x.1.2.2.1.length c2)) := qu2.setHi (Nat.le_refl _) 2 _
  have HB3 : Hid (Blk (u2.setCell ⟨w.heap.size, 2, none⟩ (.slice a2 x.1.2.2.1.length c2)) w.heap.size #[.slice a0 x.1.1.length c0, .slice a1 x.1.2.1.length c1, .slice a2 x.1.2.2.1.length c2, .slice x.2.2.2.2.1 x.1.2.2.2.1.length x.2.2.2.2.2, .string ⟨x.1.2.2.2.2.1.toArray⟩, .bool x.1.2.2.2.2.2.1, .string ⟨x.1.2.2.2.2.2.2.toArray⟩] 24) := bB2.set 2 _
  have HR3 : Hid (Blk (u2.setCell ⟨w.heap.size, 2, none⟩ (.slice a2 x.1.2.2.1.length c2)) (w.heap.size + 1) #[.slice none 0 0, .slice none 0 0, .slice none 0 0, .slice none 0 0, .string ⟨#[]⟩, .bool false, .string ⟨#[]⟩] 24) := bR2.other (by omega) 2 _
  have HP0_2 : Hid (OwnT (u2.setCell ⟨w.heap.size, 2, none⟩ (.slice a2 x.1.2.2.1.length c2)) w.heap.size a0 c0 x.1.1) := own_fr (unhide HO0_2) (Fr.set u2 w.heap.size 2 _) (fun r hr => bB2.row (unhide HO0_2) (by decide) r hr)
  have HP1_2 : Hid (OwnT (u2.setCell ⟨w.heap.size, 2, none⟩ (.slice a2 x.1.2.2.1.length c2)) w.heap.size a1 c1 x.1.2.1) := own_fr (unhide HO1_2) (Fr.set u2 w.heap.size 2 _) (fun r hr => bB2.row (unhide HO1_2) (by decide) r hr)
  have HP2_2 : Hid (OwnT (u2.setCell ⟨w.heap.size, 2, none⟩ (.slice a2 x.1.2.2.1.length c2)) w.heap.size a2 c2 x.1.2.2.1) := own_fr (unhide HO2_2) (Fr.set u2 w.heap.size 2 _) (fun r hr => bB2.row (unhide HO2_2) (by decide) r hr)
  try rw [Nat.zero_add]
  have HN3 : Hid (((u2.setCell ⟨w.heap.size, 2, none⟩ (.slice a2 x.1.2.2.1.length c2)).alloc (.cells #[] 9)).ownsRow w.heap.size 9 1 (.slice (some ⟨u2.heap.size, 0, none⟩) 0 0) 0 []) := by
    have h := own_new0 (w := (u2.setCell ⟨w.heap.size, 2, none⟩ (.slice a2 x.1.2.2.1.length c2))) (B := w.heap.size) (e := 9) (size := 1) q3.size
    rw [show (u2.setCell ⟨w.heap.size, 2, none⟩ (.slice a2 x.1.2.2.1.length c2)).heap.size = u2.heap.size by simp [World.setCell]] at h
    exact h
  have qs3 : w.heap.size ≤ ((u2.setCell ⟨w.heap.size, 2, none⟩ (.slice a2 x.1.2.2.1.length c2)).alloc (.cells #[] 9)).heap.size := le_alloc q3.size _
  have sz3 : (u2.setCell ⟨w.heap.size, 2, none⟩ (.slice a2 x.1.2.2.1.length c2)).heap.size = u2.heap.size := by simp [World.setCell]
  clear own2 grow2 hrow2 qu2 bB2 bR2 HS2 HN2 qs2 q2 HB2 HR2
  have ld3 : ((u2.setCell ⟨w.heap.size, 2, none⟩ (.slice a2 x.1.2.2.1.length c2)).alloc (.cells #[] 9)).cell? ⟨w.heap.size, 3, none⟩ = some (.slice x.2.2.2.2.1 x.1.2.2.2.1.length x.2.2.2.2.2) := ((unhide HB3).q ((Q.refl _).alloc _)).cell 3 rfl
  have HO0_2' := HP0_2
  have HO1_2' := HP1_2
  have HO2_2' := HP2_2
  clear HO0_2 HO1_2 HO2_2 HP0_2 HP1_2 HP2_2
  have HS3 := hide (SrcRow.row tv_len (by decide) ((unhide HX3).q (q3.alloc (.cells #[] 9))))
  go_wp2_with (at_builtin; refine wpList_append_row rfl _ _ 22 rfl w.heap.size 9 i0 (.string ByteArray.empty) 1 16 Tryd.underlying22 hi hz0 hz1 hz2 rfl (by decide) (some ⟨u2.heap.size, 0, none⟩) 0 0 [] rfl (unhide HN3) x.2.2.2.2.1 x.1.2.2.2.1.length x.2.2.2.2.2 (lay tv x.1.2.2.2.1) rfl (unhide HS3) (one_layT _) (by unfold maxLen; omega) (by omega) qs3 ?_)
  intro a3 c3 u3 own3 grow3
  have HO3_3 : Hid (OwnT u3 w.heap.size a3 c3 x.1.2.2.2.1) := by
    have h := own3
    first | exact h | (rw [Nat.zero_add, List.nil_append] at h; exact h)
  have hrow3 : ∀ r, (Value.slice (some ⟨u2.heap.size, 0, none⟩) 0 0).ownBlock = some r → r = u2.heap.size := fun r hr => (Option.some.inj hr).symm
  have qu3 : Q w u3 := Below.grown (q3.alloc _) grow3 qs3 (fun r hr => by have h1 := hrow3 r hr; have h3 := q3.size; rw [sz3] at h3; omega)
  have bB3 := ((unhide HB3).q ((Q.refl _).alloc (.cells #[] 9))).fr (Fr.grown grow3) (fun hr => by have h1 := hrow3 _ hr; have h3 := (unhide HB3).hi; rw [sz3] at h3; omega)
  have bR3 := ((unhide HR3).q ((Q.refl _).alloc (.cells #[] 9))).fr (Fr.grown grow3) (fun hr => by have h1 := hrow3 _ hr; have h3 := (unhide HR3).hi; rw [sz3] at h3; omega)
  have HO0_3 : Hid (OwnT u3 w.heap.size a0 c0 x.1.1) := own_fr (own_q (unhide HO0_2') ((Q.refl _).alloc (.cells #[] 9))) (Fr.grown grow3) (fun r hr hp => by have h1 := hrow3 r hp; have h2 := ((unhide HO0_2').lt r hr).2; rw [sz3] at h2; omega)
  have HO1_3 : Hid (OwnT u3 w.heap.size a1 c1 x.1.2.1) := own_fr (own_q (unhide HO1_2') ((Q.refl _).alloc (.cells #[] 9))) (Fr.grown grow3) (fun r hr hp => by have h1 := hrow3 r hp; have h2 := ((unhide HO1_2').lt r hr).2; rw [sz3] at h2; omega)
  have HO2_3 : Hid (OwnT u3 w.heap.size a2 c2 x.1.2.2.1) := own_fr (own_q (unhide HO2_2') ((Q.refl _).alloc (.cells #[] 9))) (Fr.grown grow3) (fun r hr hp => by have h1 := hrow3 r hp; have h2 := ((unhide HO2_2').lt r hr).2; rw [sz3] at h2; omega)
  have frz3 := bB3.frz 3
  have cl3 : u3.cell? ⟨w.heap.size, 3, none⟩ = some (.slice x.2.2.2.2.1 x.1.2.2.2.1.length x.2.2.2.2.2) := bB3.cell 3 rfl
  have q4 : Q w (u3.setCell ⟨w.heap.size, 3, none⟩ (.slice a3 x.1.2.2.2.1.length c3)) := qu3.setHi (Nat.le_refl _) 3 _
  have HB4 : Hid (Blk (u3.setCell ⟨w.heap.size, 3, none⟩ (.slice a3 x.1.2.2.2.1.length c3)) w.heap.size #[.slice a0 x.1.1.length c0, .slice a1 x.1.2.1.length c1, .slice a2 x.1.2.2.1.length c2, .slice a3 x.1.2.2.2.1.length c3, .string ⟨x.1.2.2.2.2.1.toArray⟩, .bool x.1.2.2.2.2.2.1, .string ⟨x.1.2.2.2.2.2.2.toArray⟩] 24) := bB3.set 3 _
  have HR4 : Hid (Blk (u3.setCell ⟨w.heap.size, 3, none⟩ (.slice a3 x.1.2.2.2.1.length c3)) (w.heap.size + 1) #[.slice none 0 0, .slice none 0 0, .slice none 0 0, .slice none 0 0, .string ⟨#[]⟩, .bool false, .string ⟨#[]⟩] 24) := bR3.other (by omega) 3 _
  have HP0_3 : Hid (OwnT (u3.setCell ⟨w.heap.size, 3, none⟩ (.slice a3 x.1.2.2.2.1.length c3)) w.heap.size a0 c0 x.1.1) := own_fr (unhide HO0_3) (Fr.set u3 w.heap.size 3 _) (fun r hr => bB3.row (unhide HO0_3) (by decide) r hr)
  have HP1_3 : Hid (OwnT (u3.setCell ⟨w.heap.size, 3, none⟩ (.slice a3 x.1.2.2.2.1.length c3)) w.heap.size a1 c1 x.1.2.1) := own_fr (unhide HO1_3) (Fr.set u3 w.heap.size 3 _) (fun r hr => bB3.row (unhide HO1_3) (by decide) r hr)
  have HP2_3 : Hid (OwnT (u3.setCell ⟨w.heap.size, 3, none⟩ (.slice a3 x.1.2.2.2.1.length c3)) w.heap.size a2 c2 x.1.2.2.1) := own_fr (unhide HO2_3) (Fr.set u3 w.heap.size 3 _) (fun r hr => bB3.row (unhide HO2_3) (by decide) r hr)
  have HP3_3 : Hid (OwnT (u3.setCell ⟨w.heap.size, 3, none⟩ (.slice a3 x.1.2.2.2.1.length c3)) w.heap.size a3 c3 x.1.2.2.2.1) := own_fr (unhide HO3_3) (Fr.set u3 w.heap.size 3 _) (fun r hr => bB3.row (unhide HO3_3) (by decide) r hr)
  try rw [Nat.zero_add]
  have m0 : (u3.setCell ⟨w.heap.size, 3, none⟩ (.slice a3 x.1.2.2.2.1.length c3)).cell? ⟨w.heap.size, 0, none⟩ = some (.slice a0 x.1.1.length c0) := (unhide HB4).cell 0 rfl
  have n0 : (u3.setCell ⟨w.heap.size, 3, none⟩ (.slice a3 x.1.2.2.2.1.length c3)).cell? ⟨w.heap.size + 1, 0, none⟩ = some (.slice none 0 0) := (unhide HR4).cell 0 rfl
  have f0 := (unhide HR4).frz 0
  have m1 : (u3.setCell ⟨w.heap.size, 3, none⟩ (.slice a3 x.1.2.2.2.1.length c3)).cell? ⟨w.heap.size, 1, none⟩ = some (.slice a1 x.1.2.1.length c1) := (unhide HB4).cell 1 rfl
  have n1 : (u3.setCell ⟨w.heap.size, 3, none⟩ (.slice a3 x.1.2.2.2.1.length c3)).cell? ⟨w.heap.size + 1, 1, none⟩ = some (.slice none 0 0) := (unhide HR4).cell 1 rfl
  have f1 := (unhide HR4).frz 1
  have m2 : (u3.setCell ⟨w.heap.size, 3, none⟩ (.slice a3 x.1.2.2.2.1.length c3)).cell? ⟨w.heap.size, 2, none⟩ = some (.slice a2 x.1.2.2.1.length c2) := (unhide HB4).cell 2 rfl
  have n2 : (u3.setCell ⟨w.heap.size, 3, none⟩ (.slice a3 x.1.2.2.2.1.length c3)).cell? ⟨w.heap.size + 1, 2, none⟩ = some (.slice none 0 0) := (unhide HR4).cell 2 rfl
  have f2 := (unhide HR4).frz 2
  have m3 : (u3.setCell ⟨w.heap.size, 3, none⟩ (.slice a3 x.1.2.2.2.1.length c3)).cell? ⟨w.heap.size, 3, none⟩ = some (.slice a3 x.1.2.2.2.1.length c3) := (unhide HB4).cell 3 rfl
  have n3 : (u3.setCell ⟨w.heap.size, 3, none⟩ (.slice a3 x.1.2.2.2.1.length c3)).cell? ⟨w.heap.size + 1, 3, none⟩ = some (.slice none 0 0) := (unhide HR4).cell 3 rfl
  have f3 := (unhide HR4).frz 3
  have m4 : (u3.setCell ⟨w.heap.size, 3, none⟩ (.slice a3 x.1.2.2.2.1.length c3)).cell? ⟨w.heap.size, 4, none⟩ = some (.string ⟨x.1.2.2.2.2.1.toArray⟩) := (unhide HB4).cell 4 rfl
  have n4 : (u3.setCell ⟨w.heap.size, 3, none⟩ (.slice a3 x.1.2.2.2.1.length c3)).cell? ⟨w.heap.size + 1, 4, none⟩ = some (.string ⟨#[]⟩) := (unhide HR4).cell 4 rfl
  have f4 := (unhide HR4).frz 4
  have m5 : (u3.setCell ⟨w.heap.size, 3, none⟩ (.slice a3 x.1.2.2.2.1.length c3)).cell? ⟨w.heap.size, 5, none⟩ = some (.bool x.1.2.2.2.2.2.1) := (unhide HB4).cell 5 rfl
  have n5 : (u3.setCell ⟨w.heap.size, 3, none⟩ (.slice a3 x.1.2.2.2.1.length c3)).cell? ⟨w.heap.size + 1, 5, none⟩ = some (.bool false) := (unhide HR4).cell 5 rfl
  have f5 := (unhide HR4).frz 5
  have m6 : (u3.setCell ⟨w.heap.size, 3, none⟩ (.slice a3 x.1.2.2.2.1.length c3)).cell? ⟨w.heap.size, 6, none⟩ = some (.string ⟨x.1.2.2.2.2.2.2.toArray⟩) := (unhide HB4).cell 6 rfl
  have n6 : (u3.setCell ⟨w.heap.size, 3, none⟩ (.slice a3 x.1.2.2.2.1.length c3)).cell? ⟨w.heap.size + 1, 6, none⟩ = some (.string ⟨#[]⟩) := (unhide HR4).cell 6 rfl
  have f6 := (unhide HR4).frz 6
  clear own3 grow3 hrow3 qu3 bB3 bR3 HS3 HN3 qs3 q3 HB3 HR3
  go_wp2_with fail
  change bodyPost _ _ _ _ _ (eS7 (u3.setCell ⟨w.heap.size, 3, none⟩ (.slice a3 x.1.2.2.2.1.length c3)) (w.heap.size + 1) (.slice a0 x.1.1.length c0) (.slice a1 x.1.2.1.length c1) (.slice a2 x.1.2.2.1.length c2) (.slice a3 x.1.2.2.2.1.length c3) (.string ⟨x.1.2.2.2.2.1.toArray⟩) (.bool x.1.2.2.2.2.2.1) (.string ⟨x.1.2.2.2.2.2.2.toArray⟩))
  obtain ⟨hb, gf⟩ := eS7_facts (unhide HR4) (.slice a0 x.1.1.length c0) (.slice a1 x.1.2.1.length c1) (.slice a2 x.1.2.2.1.length c2) (.slice a3 x.1.2.2.2.1.length c3) (.string ⟨x.1.2.2.2.2.1.toArray⟩) (.bool x.1.2.2.2.2.2.1) (.string ⟨x.1.2.2.2.2.2.2.toArray⟩)
  have g0 := hb.cell 0 rfl
  have g1 := hb.cell 1 rfl
  have g2 := hb.cell 2 rfl
  have g3 := hb.cell 3 rfl
  have g4 := hb.cell 4 rfl
  have g5 := hb.cell 5 rfl
  have g6 := hb.cell 6 rfl
  have r0 : OwnT (eS7 (u3.setCell ⟨w.heap.size, 3, none⟩ (.slice a3 x.1.2.2.2.1.length c3)) (w.heap.size + 1) (.slice a0 x.1.1.length c0) (.slice a1 x.1.2.1.length c1) (.slice a2 x.1.2.2.1.length c2) (.slice a3 x.1.2.2.2.1.length c3) (.string ⟨x.1.2.2.2.2.1.toArray⟩) (.bool x.1.2.2.2.2.2.1) (.string ⟨x.1.2.2.2.2.2.2.toArray⟩)) w.heap.size a0 c0 x.1.1 := (own_fr (unhide HP0_3) gf (fun r hr e => (unhide HR4).row (unhide HP0_3) (by decide) r hr e))
  have r1 : OwnT (eS7 (u3.setCell ⟨w.heap.size, 3, none⟩ (.slice a3 x.1.2.2.2.1.length c3)) (w.heap.size + 1) (.slice a0 x.1.1.length c0) (.slice a1 x.1.2.1.length c1) (.slice a2 x.1.2.2.1.length c2) (.slice a3 x.1.2.2.2.1.length c3) (.string ⟨x.1.2.2.2.2.1.toArray⟩) (.bool x.1.2.2.2.2.2.1) (.string ⟨x.1.2.2.2.2.2.2.toArray⟩)) w.heap.size a1 c1 x.1.2.1 := (own_fr (unhide HP1_3) gf (fun r hr e => (unhide HR4).row (unhide HP1_3) (by decide) r hr e))
  have r2 : OwnT (eS7 (u3.setCell ⟨w.heap.size, 3, none⟩ (.slice a3 x.1.2.2.2.1.length c3)) (w.heap.size + 1) (.slice a0 x.1.1.length c0) (.slice a1 x.1.2.1.length c1) (.slice a2 x.1.2.2.1.length c2) (.slice a3 x.1.2.2.2.1.length c3) (.string ⟨x.1.2.2.2.2.1.toArray⟩) (.bool x.1.2.2.2.2.2.1) (.string ⟨x.1.2.2.2.2.2.2.toArray⟩)) w.heap.size a2 c2 x.1.2.2.1 := (own_fr (unhide HP2_3) gf (fun r hr e => (unhide HR4).row (unhide HP2_3) (by decide) r hr e))
  have r3 : OwnT (eS7 (u3.setCell ⟨w.heap.size, 3, none⟩ (.slice a3 x.1.2.2.2.1.length c3)) (w.heap.size + 1) (.slice a0 x.1.1.length c0) (.slice a1 x.1.2.1.length c1) (.slice a2 x.1.2.2.1.length c2) (.slice a3 x.1.2.2.2.1.length c3) (.string ⟨x.1.2.2.2.2.1.toArray⟩) (.bool x.1.2.2.2.2.2.1) (.string ⟨x.1.2.2.2.2.2.2.toArray⟩)) w.heap.size a3 c3 x.1.2.2.2.1 := (own_fr (unhide HP3_3) gf (fun r hr e => (unhide HR4).row (unhide HP3_3) (by decide) r hr e))
  have qf : Q w (eS7 (u3.setCell ⟨w.heap.size, 3, none⟩ (.slice a3 x.1.2.2.2.1.length c3)) (w.heap.size + 1) (.slice a0 x.1.1.length c0) (.slice a1 x.1.2.1.length c1) (.slice a2 x.1.2.2.1.length c2) (.slice a3 x.1.2.2.2.1.length c3) (.string ⟨x.1.2.2.2.2.1.toArray⟩) (.bool x.1.2.2.2.2.2.1) (.string ⟨x.1.2.2.2.2.2.2.toArray⟩)) := Below.trans q4 (gf.below q4.size (fun k hk => by rw [hk]; omega))
  generalize eS7 (u3.setCell ⟨w.heap.size, 3, none⟩ (.slice a3 x.1.2.2.2.1.length c3)) (w.heap.size + 1) (.slice a0 x.1.1.length c0) (.slice a1 x.1.2.1.length c1) (.slice a2 x.1.2.2.1.length c2) (.slice a3 x.1.2.2.2.1.length c3) (.string ⟨x.1.2.2.2.2.1.toArray⟩) (.bool x.1.2.2.2.2.2.1) (.string ⟨x.1.2.2.2.2.2.2.toArray⟩) = wf at *
  exact bodyPost_ret (v := .agg #[.slice a0 x.1.1.length c0, .slice a1 x.1.2.1.length c1, .slice a2 x.1.2.2.1.length c2, .slice a3 x.1.2.2.2.1.length c3, .string ⟨x.1.2.2.2.2.1.toArray⟩, .bool x.1.2.2.2.2.2.1, .string ⟨x.1.2.2.2.2.2.2.toArray⟩]) (by simp [results, Tryd.results7, go_sem, g0, g1, g2, g3, g4, g5, g6]) rfl ⟨(x.1, (a0, c0), (a1, c1), (a2, c2), (a3, c3)), rfl, rfl, ⟨r0, r1, r2, r3⟩, qf⟩

end Go.Proofs.YtbfhliocckkbmaaDoor
