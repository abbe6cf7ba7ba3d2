/- What package sign's Of answers, for every edge in memory; no conditions but that no text is longer than a string can be. -/
import Derived.Test.YtbfhliocckkbmaaDoorSgPlain
import Derived.Test.YtbfhliocckkbmaaDoorGfEdge
import Derived.Test.YtbfhliocckkbmaaDoorGfZ
import Derived.Deep.RegionHeld3
namespace Go.Proofs.YtbfhliocckkbmaaDoor
open Go.RowKit

/-- Names joined by one sign. -/
theorem sjoin_any (c : UInt8) (ws : Ws) (ao : Option Addr) (cap : Nat) (w : World) (hr : RowT w ao ws) (hcap : ws.length ≤ cap) (hn : ws.length ≤ 140737488355328) (hlen : (Lib.join ws [c]).length ≤ 1000) :
    Calls Tryd.prog 17 #[.slice ao ws.length cap, .string ⟨#[c]⟩] w fun e w' => e = .returned (.string ⟨(Lib.join ws [c]).toArray⟩) ∧ Q w w' := by
  rcases hr with he | ⟨g, o, rfl, hg, hcell⟩
  · subst he
    refine (Any.strings_Join_none Tryd.lays156 Tryd.Builder_Extra_156 ao cap ⟨#[c]⟩ w).mono ?_
    rintro e w' ⟨rfl, rfl⟩
    exact ⟨rfl, Q.refl _⟩
  · have hl : (ws.map fun x => (⟨x.toArray⟩ : ByteArray)).length = ws.length := by simp
    have hm : (ws.map fun x => (⟨x.toArray⟩ : ByteArray)).map (·.data.toList) = ws := by rw [List.map_map]; exact List.map_id _
    have hcs : (⟨#[c]⟩ : ByteArray).data.toList = [c] := rfl
    have h := Any.strings_Join Tryd.lays156 Tryd.Builder_Extra_156 g o cap (ws.map fun x => (⟨x.toArray⟩ : ByteArray)) ⟨#[c]⟩ w (fun j y hy => by
      rw [List.getElem?_map] at hy
      cases hx : ws[j]? with
      | none => rw [hx] at hy; cases hy
      | some x =>
        rw [hx] at hy
        cases hy
        have := hcell j 0 x _ hx (by decide) rfl
        simpa using this) hg (by rw [hl]; omega) (by rw [hl]; exact hcap) (by rw [hm, hcs]; omega)
    rw [hl, hm, hcs] at h
    exact h

set_option maxHeartbeats 1000000 in
theorem blanks_any (ws : Ws) (ao : Option Addr) (cap : Nat) (w : World) (hr : RowT w ao ws) (hcap : ws.length ≤ cap) (h8 : ptsB ws = true) :
    Calls Tryd.prog 15 #[.slice ao ws.length cap] w fun e w' => e = .returned (.string ⟨(jb ws).toArray⟩) ∧ Q w w' := by
  have HC := hide (sjoin_any 32 ws ao cap w hr hcap (by have := (pts_all h8).1; omega) (by have := jb_len h8; unfold jb at this; omega))
  clear hr hcap h8
  go_enter Tryd.func15, Tryd.ntmps15
  go_wp2_with fail
  refine (unhide HC).mono ?_
  rintro e w1 ⟨rfl, q1⟩
  go_wp2_with fail
  go_ret
  exact ⟨rfl, q1⟩

theorem tells_any (d : Bool) (w : World) : Calls Tryd.prog 16 #[.bool d] w fun e w' => e = .returned (.string ⟨(tlB d).toArray⟩) ∧ Q w w' := by
  cases d
  · go_enter Tryd.func16, Tryd.ntmps16
    go_wp2_with fail
    go_ret
    exact ⟨rfl, Q.refl _⟩
  · go_enter Tryd.func16, Tryd.ntmps16
    go_wp2_with fail
    go_ret
    exact ⟨rfl, Q.refl _⟩

/-- The rows are no longer than their room. -/
structure EdC (x : EdA) : Prop where
  a : x.1.1.length ≤ x.2.1.2
  b : x.1.2.1.length ≤ x.2.2.1.2
  c : x.1.2.2.1.length ≤ x.2.2.2.1.2

def sgCells (e : Ed) : Array Value := #[.string ⟨(jb e.1).toArray⟩, .string ⟨(jb e.2.1).toArray⟩, .string ⟨(jb e.2.2.1).toArray⟩, .string ⟨(tlB e.2.2.2.2.2.1).toArray⟩, .string ⟨e.2.2.2.2.1.toArray⟩]
def sgFive (e : Ed) : Ws := [jb e.1, jb e.2.1, jb e.2.2.1, tlB e.2.2.2.2.2.1, e.2.2.2.2.1]
theorem sgJoin {e : Ed} (h : edOk e = true) (w : World) : Calls Tryd.prog 17 #[.slice (some ⟨w.heap.size, 0, none⟩) 5 5, .string ⟨#[124]⟩] (w.alloc (.cells (sgCells e) 9)) fun x w' => x = .returned (.string ⟨(sgL e).toArray⟩) ∧ Q (w.alloc (.cells (sgCells e) 9)) w' := by
  have hl : (Lib.join (sgFive e) [124]).length ≤ 1000 := by unfold sgFive; rw [sg_five]; have := sg_len h; omega
  have := sjoin_any 124 (sgFive e) (some ⟨w.heap.size, 0, none⟩) 5 (w.alloc (.cells (sgCells e) 9)) (tvR (Blk.new w (sgCells e) 9) (sgFive e) rfl) (Nat.le_refl 5) (by show 5 ≤ _; omega) hl
  unfold sgFive at this
  rw [sg_five] at this
  exact this

set_option maxRecDepth 20000 in
set_option maxHeartbeats 8000000 in
theorem sgOf_any (x : EdA) (w : World) (hx : EdRd w x) (hz : EdZ x.1) (hc : EdC x) :
    Calls Tryd.prog 8 #[edV' x] w fun e w' => e = .returned (.tuple #[.string ⟨(sgS x.1).toArray⟩, .int .i64 (sgE x.1)]) ∧ Q w w' := by
  have b1 : Blk (bx1' w x) w.heap.size (ev x).toArray 24 := Blk.new w _ _
  have qb : Q w (bx1' w x) := (Q.refl w).alloc _
  have HM := hide (edMay_any x (bx1' w x) ⟨hx.a.q qb, hx.b.q qb, hx.c.q qb, hx.d.q qb⟩ hz)
  cases hok : edOk x.1
  · obtain ⟨e1, e2⟩ := sg_no hok
    rw [e1, e2]
    rw [hok] at HM
    clear hok e1 e2 hx hz hc b1
    go_enter Tryd.func8, Tryd.ntmps8
    go_wp2_with fail
    change Calls _ _ _ (bx1' w x) _
    generalize bx1' w x = wb at *
    refine (unhide HM).mono ?_
    rintro e w1 ⟨rfl, q1⟩
    go_wp2_with fail
    go_ret2
    exact ⟨rfl, qb.trans q1⟩
  · obtain ⟨e1, e2⟩ := sg_yes hok
    rw [e1, e2]
    rw [hok] at HM
    obtain ⟨_, p1, p2, p3, _⟩ := ed_ok hok
    have HB0 := hide (fun w2 q => blanks_any x.1.1 x.2.1.1 x.2.1.2 w2 (hx.a.q q) hc.a p1)
    have HB1 := hide (fun w2 q => blanks_any x.1.2.1 x.2.2.1.1 x.2.2.1.2 w2 (hx.b.q q) hc.b p2)
    have HB2 := hide (fun w2 q => blanks_any x.1.2.2.1 x.2.2.2.1.1 x.2.2.2.1.2 w2 (hx.c.q q) hc.c p3)
    have HJ := hide (sgJoin hok)
    have HB := hide b1
    clear hok e1 e2 hx hz hc p1 p2 p3 b1
    go_enter Tryd.func8, Tryd.ntmps8
    go_wp2_with fail
    change Calls _ _ _ (bx1' w x) _
    generalize bx1' w x = wb at *
    refine (unhide HM).mono ?_
    rintro e w1 ⟨rfl, q1⟩
    have qw1 := qb.trans q1
    have hcl : ∀ w2, Q w1 w2 → (w2.cell? ⟨w.heap.size, 0, none⟩ = some (.slice x.2.1.1 x.1.1.length x.2.1.2) ∧ w2.cell? ⟨w.heap.size, 1, none⟩ = some (.slice x.2.2.1.1 x.1.2.1.length x.2.2.1.2) ∧ w2.cell? ⟨w.heap.size, 2, none⟩ = some (.slice x.2.2.2.1.1 x.1.2.2.1.length x.2.2.2.1.2) ∧ w2.cell? ⟨w.heap.size, 5, none⟩ = some (.bool x.1.2.2.2.2.2.1) ∧ w2.cell? ⟨w.heap.size, 4, none⟩ = some (.string ⟨x.1.2.2.2.2.1.toArray⟩)) := fun w2 q => by
      have h := (unhide HB).q (q1.trans q)
      exact ⟨h.cell 0 rfl, h.cell 1 rfl, h.cell 2 rfl, h.cell 5 rfl, h.cell 4 rfl⟩
    have HCL := hide hcl
    have hS0 := hcl _ (Q.refl w1).drew
    have qd0 : Q w w1.drew := qw1.drew
    clear hcl HM HB
    go_upto_region 3 with fail
    (go_region_held3 (fun w' => w'.cell? ⟨w.heap.size, 0, none⟩ = some (.slice x.2.1.1 x.1.1.length x.2.1.2) ∧ w'.cell? ⟨w.heap.size, 1, none⟩ = some (.slice x.2.2.1.1 x.1.2.1.length x.2.2.1.2) ∧ w'.cell? ⟨w.heap.size, 2, none⟩ = some (.slice x.2.2.2.1.1 x.1.2.2.1.length x.2.2.2.1.2) ∧ w'.cell? ⟨w.heap.size, 5, none⟩ = some (.bool x.1.2.2.2.2.2.1) ∧ w'.cell? ⟨w.heap.size, 4, none⟩ = some (.string ⟨x.1.2.2.2.2.1.toArray⟩))
      (first | exact hS4 | exact hS3 | exact hS2 | exact hS1 | exact hS0 | exact (unhide HCL) _ (qe4.alloc _))
      (first
        | (go_at_call_of 15 (Value.slice x.2.1.1 x.1.1.length x.2.1.2); refine (unhide HB0 _ qd0).mono ?_; rintro e w2 ⟨rfl, q2⟩; have qe1 : Q w1 w2 := Below.trans (Q.refl w1).drew q2; have hS1 := (unhide HCL) _ qe1)
        | (go_at_call_of 15 (Value.slice x.2.2.1.1 x.1.2.1.length x.2.2.1.2); refine (unhide HB1 _ (qw1.trans qe1)).mono ?_; rintro e w3 ⟨rfl, q3⟩; have qe2 : Q w1 w3 := qe1.trans q3; have hS2 := (unhide HCL) _ qe2)
        | (go_at_call_of 15 (Value.slice x.2.2.2.1.1 x.1.2.2.1.length x.2.2.2.1.2); refine (unhide HB2 _ (qw1.trans qe2)).mono ?_; rintro e w4 ⟨rfl, q4⟩; have qe3 : Q w1 w4 := qe2.trans q4; have hS3 := (unhide HCL) _ qe3)
        | (go_at_call 16; refine (tells_any _ _).mono ?_; rintro e w5 ⟨rfl, q5⟩; have qe4 : Q w1 w5 := qe3.trans q5; have hS4 := (unhide HCL) _ qe4)))
    clear hS0 hS1 hS2 hS3 hS4 HCL HB0 HB1 HB2
    go_wp2_with fail
    refine (unhide HJ w5).mono ?_
    rintro e w6 ⟨rfl, q6⟩
    go_wp2_with fail
    go_ret2
    exact ⟨rfl, qw1.trans ((qe4.alloc _).trans q6)⟩

end Go.Proofs.YtbfhliocckkbmaaDoor
