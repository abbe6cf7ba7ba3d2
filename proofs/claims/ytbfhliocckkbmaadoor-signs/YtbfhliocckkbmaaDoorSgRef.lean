/- The document's own Sign, for every edge in memory; no conditions but that no text is longer than a string can be. -/
import Derived.Test.YtbfhliocckkbmaaDoorSgPlain
import Derived.Test.YtbfhliocckkbmaaDoorGfRef
import Derived.Test.YtbfhliocckkbmaaDoorGfZ
import Derived.BigQuiet
namespace Go.Proofs.YtbfhliocckkbmaaDoor
open Go.RowKit

theorem rowS_of {w : World} {ao : Option Addr} {ws : Ws} (h : RowT w ao ws) : RowS w ao (ws.map fun x => (⟨x.toArray⟩ : ByteArray)) := by
  rcases h with rfl | ⟨g, o, rfl, hg, hcell⟩
  · exact Or.inl rfl
  · refine Or.inr ⟨g, o, rfl, hg, fun j y hy => ?_⟩
    rw [List.getElem?_map] at hy
    cases hx : ws[j]? with
    | none => rw [hx] at hy; cases hy
    | some x =>
      rw [hx] at hy
      cases hy
      have := hcell j 0 x _ hx (by decide) rfl
      simpa using this
theorem rjb_any (ws : Ws) (ao : Option Addr) (cap : Nat) (w : World) (hr : RowT w ao ws) (h8 : ptsB ws = true) :
    Calls Tryd.prog 19 #[.slice ao ws.length cap, .string ⟨#[32]⟩] w fun e w' => e = .returned (.string ⟨(jb ws).toArray⟩) ∧ w' = w := by
  have hl : (ws.map fun x => (⟨x.toArray⟩ : ByteArray)).length = ws.length := by simp
  have hm : (ws.map fun x => (⟨x.toArray⟩ : ByteArray)).map bl = ws := by rw [List.map_map]; exact List.map_id _
  have h := rjoin_any ao cap (ws.map fun x => (⟨x.toArray⟩ : ByteArray)) ⟨#[32]⟩ w (rowS_of hr) (by rw [hl]; have := (pts_all h8).1; omega) (by decide) (by rw [hm]; have := jb_len h8; unfold jb at this; show (Lib.join ws [32]).length ≤ _; omega)
  rw [hl, hm] at h
  refine h.mono ?_
  rintro e w' ⟨t, rfl, ht, rfl⟩
  exact ⟨by rw [of_bl ht]; rfl, rfl⟩

theorem sg_text {A B C D K : ByteArray} {e : Ed} (hA : bl A = jb e.1) (hB : bl B = jb e.2.1) (hC : bl C = jb e.2.2.1) (hD : bl D = tlB e.2.2.2.2.2.1) (hK : bl K = e.2.2.2.2.1) :
    A ++ ⟨#[124]⟩ ++ B ++ ⟨#[124]⟩ ++ C ++ ⟨#[124]⟩ ++ D ++ ⟨#[124]⟩ ++ K = ⟨(sgL e).toArray⟩ := by
  refine of_bl ?_
  simp only [bl_app, hA, hB, hC, hD, hK]
  show _ = sgL e
  unfold sgL
  simp [bl]

set_option maxRecDepth 20000 in
set_option maxHeartbeats 8000000 in
theorem rsign_any (x : EdA) (w : World) (hx : EdRd w x) (hz : EdZ x.1) :
    Calls Tryd.prog 9 #[edV' x] w fun e w' => e = .returned (.tuple #[.string ⟨(sgS x.1).toArray⟩, .int .i64 (sgE x.1)]) ∧ Q w w' := by
  have b1 : Blk (bx1' w x) w.heap.size (ev x).toArray 24 := Blk.new w _ _
  have qb : Q w (bx1' w x) := (Q.refl w).alloc _
  have HM := hide (redge_any x (bx1' w x) ⟨hx.a.q qb, hx.b.q qb, hx.c.q qb, hx.d.q qb⟩ hz)
  cases hok : edOk x.1
  · obtain ⟨e1, e2⟩ := sg_no hok
    rw [e1, e2]
    rw [hok] at HM
    clear hok e1 e2 hx hz b1
    go_enter Tryd.func9, Tryd.ntmps9
    go_wp2_with fail
    change Calls _ _ _ (bx1' w x) _
    generalize bx1' w x = wb at *
    refine (unhide HM).mono ?_
    rintro e w1 ⟨rfl, q1⟩
    go_wp2_with fail
    go_ret2
    exact ⟨rfl, qb.trans q1⟩
  · obtain ⟨e1, e2⟩ := sg_yes hok
    rw [e1, e2]
    rw [hok] at HM
    obtain ⟨_, p1, p2, p3, _, p5, _⟩ := ed_ok hok
    have HB0 := hide (fun w2 q => rjb_any x.1.1 x.2.1.1 x.2.1.2 w2 (hx.a.q q) p1)
    have HB1 := hide (fun w2 q => rjb_any x.1.2.1 x.2.2.1.1 x.2.2.1.2 w2 (hx.b.q q) p2)
    have HB2 := hide (fun w2 q => rjb_any x.1.2.2.1 x.2.2.2.1.1 x.2.2.2.1.2 w2 (hx.c.q q) p3)
    have hA : (⟨(jb x.1.1).toArray⟩ : ByteArray).size ≤ 136 := by rw [mk_size']; exact jb_len p1
    have hB : (⟨(jb x.1.2.1).toArray⟩ : ByteArray).size ≤ 136 := by rw [mk_size']; exact jb_len p2
    have hC : (⟨(jb x.1.2.2.1).toArray⟩ : ByteArray).size ≤ 136 := by rw [mk_size']; exact jb_len p3
    have hK : (⟨x.1.2.2.2.2.1.toArray⟩ : ByteArray).size ≤ 256 := by rw [mk_size']; exact cm_len p5
    have HT := hide (fun D (hD : bl D = tlB x.1.2.2.2.2.2.1) => sg_text (e := x.1) (bl_mk (jb x.1.1)) (bl_mk (jb x.1.2.1)) (bl_mk (jb x.1.2.2.1)) hD (bl_mk x.1.2.2.2.2.1))
    clear hok e1 e2 hx hz p1 p2 p3 p5
    generalize (⟨(jb x.1.1).toArray⟩ : ByteArray) = tA at *
    generalize (⟨(jb x.1.2.1).toArray⟩ : ByteArray) = tB at *
    generalize (⟨(jb x.1.2.2.1).toArray⟩ : ByteArray) = tC at *
    have HB := hide b1
    clear b1
    go_enter Tryd.func9, Tryd.ntmps9
    go_wp2_with fail
    change Calls _ _ _ (bx1' w x) _
    generalize bx1' w x = wb at *
    refine (unhide HM).mono ?_
    rintro e w1 ⟨rfl, q1⟩
    have qw1 := qb.trans q1
    have h := (unhide HB).q q1
    have d0 : w1.cell? ⟨w.heap.size, 0, none⟩ = some (.slice x.2.1.1 x.1.1.length x.2.1.2) := h.cell 0 rfl
    have d1 : w1.cell? ⟨w.heap.size, 1, none⟩ = some (.slice x.2.2.1.1 x.1.2.1.length x.2.2.1.2) := h.cell 1 rfl
    have d2 : w1.cell? ⟨w.heap.size, 2, none⟩ = some (.slice x.2.2.2.1.1 x.1.2.2.1.length x.2.2.2.1.2) := h.cell 2 rfl
    have d4 : w1.cell? ⟨w.heap.size, 4, none⟩ = some (.string ⟨x.1.2.2.2.2.1.toArray⟩) := h.cell 4 rfl
    have d5 : w1.cell? ⟨w.heap.size, 5, none⟩ = some (.bool x.1.2.2.2.2.2.1) := h.cell 5 rfl
    generalize (⟨x.1.2.2.2.2.1.toArray⟩ : ByteArray) = tK at *
    have hqn : ∀ n, Q w (w1.drewN n) := fun n => qw1.drewN n
    have HQN := hide hqn
    clear h hqn HM HB q1 qb
    cases hd : x.1.2.2.2.2.2.1
    all_goals
      rw [hd] at HT d5
      first
        | have hTX := hide (unhide HT ⟨#[110]⟩ rfl)
        | have hTX := hide (unhide HT ⟨#[100]⟩ rfl)
      clear hd HT
      go_wp2_with fail
      go_quiet (first | (go_at_call_of 19 (Value.slice x.2.1.1 x.1.1.length x.2.1.2); exact Calls.quiet_of_same (unhide HB0 _ (unhide HQN _))) | (go_at_call_of 19 (Value.slice x.2.2.1.1 x.1.2.1.length x.2.2.1.2); exact Calls.quiet_of_same (unhide HB1 _ (unhide HQN _))) | (go_at_call_of 19 (Value.slice x.2.2.2.1.1 x.1.2.2.1.length x.2.2.2.1.2); exact Calls.quiet_of_same (unhide HB2 _ (unhide HQN _))))
      go_wp2_with fail
      go_ret2
      refine ⟨?_, unhide HQN _⟩
      rw [← unhide hTX]; rfl

end Go.Proofs.YtbfhliocckkbmaaDoor
