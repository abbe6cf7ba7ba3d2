/- The graph that every statement on graphs asks of first; no conditions. -/
import Derived.Test.YtfadjppokbolhaaGreatDoorGfState
namespace Go.Proofs.YtfadjppokbolhaaGreatDoor
open Go.RowKit

abbrev sLib : Tx := [108, 105, 98]
abbrev sAo : Tx := [97, 46, 111]
abbrev sBo : Tx := [98, 46, 111]
abbrev sAd : Tx := [97, 46, 100]
abbrev sAc : Tx := [97, 46, 99]
abbrev sAh : Tx := [97, 46, 104]
abbrev sBc : Tx := [98, 46, 99]
abbrev sTwo : Tx := [116, 119, 111]
def gvD0 : Ed := ([sLib], [sAo, sBo], [], [], [97, 114], false, [])
def gvD1 : Ed := ([sAo, sAd], [sAc], [sAh], [], [99, 99, 32, 97], true, sTwo)
def gvD2 : Ed := ([sBo], [sBc], [], [sAo], [99, 99, 32, 98], false, sTwo)
def gvG : Gh := ([gvD0, gvD1, gvD2], [(sTwo, 2)], [sLib])
abbrev at0 (n : Nat) : Option Addr := some ⟨n, 0, none⟩
def gvX0 (n : Nat) : EdA := (gvD0, (at0 (n + 1), 1), (at0 (n + 2), 2), (none, 0), (none, 0))
def gvX1 (n : Nat) : EdA := (gvD1, (at0 (n + 3), 2), (at0 (n + 4), 1), (at0 (n + 5), 1), (none, 0))
def gvX2 (n : Nat) : EdA := (gvD2, (at0 (n + 6), 1), (at0 (n + 7), 1), (none, 0), (at0 (n + 8), 1))
def gvEc (n : Nat) : Array Value := (ev (gvX0 n) ++ (ev (gvX1 n) ++ ev (gvX2 n))).toArray
def gvPc : Array Value := #[.string ⟨sTwo.toArray⟩, .int .i64 2]

structure Gv (w : World) (n : Nat) (ec pc : Array Value) : Prop where
  e : Blk w (n + 9) ec 41
  p : Blk w (n + 10) pc 59
  t1 : Blk w (n + 1) #[.string ⟨sLib.toArray⟩] 9
  t2 : Blk w (n + 2) #[.string ⟨sAo.toArray⟩, .string ⟨sBo.toArray⟩] 9
  t3 : Blk w (n + 3) #[.string ⟨sAo.toArray⟩, .string ⟨sAd.toArray⟩] 9
  t4 : Blk w (n + 4) #[.string ⟨sAc.toArray⟩] 9
  t5 : Blk w (n + 5) #[.string ⟨sAh.toArray⟩] 9
  t6 : Blk w (n + 6) #[.string ⟨sBo.toArray⟩] 9
  t7 : Blk w (n + 7) #[.string ⟨sBc.toArray⟩] 9
  t8 : Blk w (n + 8) #[.string ⟨sAo.toArray⟩] 9
  d : Blk w (n + 11) #[.string ⟨sLib.toArray⟩] 9
theorem Gv.q {w w' : World} {n : Nat} {ec pc : Array Value} (h : Gv w n ec pc) (q : Q w w') : Gv w' n ec pc :=
  ⟨h.e.q q, h.p.q q, h.t1.q q, h.t2.q q, h.t3.q q, h.t4.q q, h.t5.q q, h.t6.q q, h.t7.q q, h.t8.q q, h.d.q q⟩
theorem Gv.setE {w : World} {n : Nat} {ec pc : Array Value} (h : Gv w n ec pc) (i : Nat) (u : Value) : Gv (w.setCell ⟨n + 9, i, none⟩ u) n (ec.setIfInBounds i u) pc :=
  ⟨h.e.set i u, h.p.other (by omega) i u, h.t1.other (by omega) i u, h.t2.other (by omega) i u, h.t3.other (by omega) i u, h.t4.other (by omega) i u, h.t5.other (by omega) i u, h.t6.other (by omega) i u, h.t7.other (by omega) i u, h.t8.other (by omega) i u, h.d.other (by omega) i u⟩
theorem Gv.setP {w : World} {n : Nat} {ec pc : Array Value} (h : Gv w n ec pc) (i : Nat) (u : Value) : Gv (w.setCell ⟨n + 10, i, none⟩ u) n ec (pc.setIfInBounds i u) :=
  ⟨h.e.other (by omega) i u, h.p.set i u, h.t1.other (by omega) i u, h.t2.other (by omega) i u, h.t3.other (by omega) i u, h.t4.other (by omega) i u, h.t5.other (by omega) i u, h.t6.other (by omega) i u, h.t7.other (by omega) i u, h.t8.other (by omega) i u, h.d.other (by omega) i u⟩
theorem Gv.other {w : World} {n k : Nat} {ec pc : Array Value} (h : Gv w n ec pc) (hk : n + 11 < k ∨ k ≤ n) (i : Nat) (u : Value) : Gv (w.setCell ⟨k, i, none⟩ u) n ec pc :=
  ⟨h.e.other (by omega) i u, h.p.other (by omega) i u, h.t1.other (by omega) i u, h.t2.other (by omega) i u, h.t3.other (by omega) i u, h.t4.other (by omega) i u, h.t5.other (by omega) i u, h.t6.other (by omega) i u, h.t7.other (by omega) i u, h.t8.other (by omega) i u, h.d.other (by omega) i u⟩
theorem Gv.hi {w : World} {n : Nat} {ec pc : Array Value} (h : Gv w n ec pc) : n + 11 < w.heap.size := h.d.hi

theorem tvR {w : World} {g : Nat} {cs : Array Value} {t : TypeId} (h : Blk w g cs t) (ws : Ws) (he : cs = (lay tv ws).toArray) : RowT w (at0 g) ws := rowB tv_len h ws he

def gvL (n : Nat) : List (Array Value × TypeId) := [(#[.slice (at0 (n + 9)) 3 3, .slice (at0 (n + 10)) 1 1, .slice (at0 (n + 11)) 1 1], 26),
  (#[.string ⟨sLib.toArray⟩], 9), (#[.string ⟨sAo.toArray⟩, .string ⟨sBo.toArray⟩], 9), (#[.string ⟨sAo.toArray⟩, .string ⟨sAd.toArray⟩], 9),
  (#[.string ⟨sAc.toArray⟩], 9), (#[.string ⟨sAh.toArray⟩], 9), (#[.string ⟨sBo.toArray⟩], 9), (#[.string ⟨sBc.toArray⟩], 9), (#[.string ⟨sAo.toArray⟩], 9),
  (gvEc n, 41), (gvPc, 59), (#[.string ⟨sLib.toArray⟩], 9)]
theorem gvL_gv (w : World) (n : Nat) (hn : w.heap.size = n) : Gv (al w (gvL n)) n (gvEc n) gvPc := by
  subst hn
  have h := fun i x hx => al_blk (gvL w.heap.size) w i x hx
  exact ⟨h 9 _ rfl, h 10 _ rfl, h 1 _ rfl, h 2 _ rfl, h 3 _ rfl, h 4 _ rfl, h 5 _ rfl, h 6 _ rfl, h 7 _ rfl, h 8 _ rfl, h 11 _ rfl⟩

set_option maxRecDepth 20000 in
set_option maxHeartbeats 4000000 in
theorem given_any (w : World) :
    Calls Tryz.prog 21 #[] w fun e w' => e = .returned (.agg #[.slice (at0 (w.heap.size + 9)) 3 3, .slice (at0 (w.heap.size + 10)) 1 1, .slice (at0 (w.heap.size + 11)) 1 1]) ∧ Gv w' w.heap.size (gvEc w.heap.size) gvPc ∧ Q w w' := by
  go_enter Tryz.func21, Tryz.ntmps21
  go_wp2_with fail
  change bodyPost _ _ _ _ _ (al w (gvL w.heap.size))
  have hv := gvL_gv w _ rfl
  have hq := al_q (gvL w.heap.size) w
  have hb : Blk (al w (gvL w.heap.size)) w.heap.size #[.slice (at0 (w.heap.size + 9)) 3 3, .slice (at0 (w.heap.size + 10)) 1 1, .slice (at0 (w.heap.size + 11)) 1 1] 26 := al_blk (gvL w.heap.size) w 0 _ rfl
  have c0 := hb.cell 0 rfl
  have c1 := hb.cell 1 rfl
  have c2 := hb.cell 2 rfl
  generalize al w (gvL w.heap.size) = w' at *
  exact bodyPost_ret (v := .agg #[.slice (at0 (w.heap.size + 9)) 3 3, .slice (at0 (w.heap.size + 10)) 1 1, .slice (at0 (w.heap.size + 11)) 1 1]) (by simp [results, Tryz.results21, go_sem, c0, c1, c2]) rfl ⟨rfl, hv, hq⟩

theorem Q.setHi {a b : World} (q : Q a b) {k : Nat} (hk : a.heap.size ≤ k) (i : Nat) (u : Value) : Q a (b.setCell ⟨k, i, none⟩ u) :=
  ⟨q.os, q.tape, q.output, by have := q.size; simpa [World.setCell] using this, fun j hj => (Below.heap_setCell _ _ _ _ (by show j ≠ k; omega)).trans (q.block j hj)⟩

/-! small graphs -/
def wszB (ws : Ws) : Bool := decide (ws.length ≤ 4096) && ws.all fun x => decide (x.length ≤ 4096)
def edzB (e : Ed) : Bool := wszB e.1 && wszB e.2.1 && wszB e.2.2.1 && wszB e.2.2.2.1 && decide (e.2.2.2.2.1.length ≤ 4096) && decide (e.2.2.2.2.2.2.length ≤ 4096)
def ghzB (g : Gh) : Bool := g.1.all edzB && decide (g.1.length ≤ 4096) && decide (g.2.1.length ≤ 4096) && g.2.1.all (fun p => decide (p.1.length ≤ 4096)) && wszB g.2.2
theorem wsz_of {ws : Ws} (h : wszB ws = true) : WsZ ws := by
  unfold wszB at h
  simp only [Bool.and_eq_true, decide_eq_true_eq, List.all_eq_true] at h
  exact ⟨by omega, fun x hx => by have := h.2 x hx; unfold maxLen; omega⟩
theorem edz_of {e : Ed} (h : edzB e = true) : EdZ e := by
  unfold edzB at h
  simp only [Bool.and_eq_true, decide_eq_true_eq] at h
  obtain ⟨⟨⟨⟨⟨h1, h2⟩, h3⟩, h4⟩, h5⟩, h6⟩ := h
  exact ⟨wsz_of h1, wsz_of h2, wsz_of h3, wsz_of h4, by unfold maxLen; omega, by unfold maxLen; omega⟩
theorem ghz_of {g : Gh} (h : ghzB g = true) : GhZ g := by
  unfold ghzB at h
  simp only [Bool.and_eq_true, decide_eq_true_eq, List.all_eq_true] at h
  obtain ⟨⟨⟨⟨h1, h2⟩, h3⟩, h4⟩, h5⟩ := h
  exact ⟨fun x hx => edz_of (h1 x hx), by omega, by omega, fun x hx => by have := h4 x hx; unfold maxLen; omega, wsz_of h5⟩

theorem gr_three {w : World} {ge gp : Nat} {x0 x1 x2 : EdA} {ec pc : Array Value} {dd : Option Addr} {ds : Ws} (ps : List Po) (he : Blk w ge ec 41) (hec : ec = (ev x0 ++ (ev x1 ++ ev x2)).toArray) (hp : Blk w gp pc 59) (hpc : pc = (lay pov ps).toArray)
    (hd : RowT w dd ds) (h0 : EdRd w x0) (h1 : EdRd w x1) (h2 : EdRd w x2) (hz : GhZ ([x0.1, x1.1, x2.1], ps, ds)) : GfR w ([x0.1, x1.1, x2.1], ps, ds) [x0, x1, x2] (at0 ge) (at0 gp) dd := by
  refine ⟨rowB ev_len he _ ?_, rfl, rowB pov_len hp ps hpc, hd, fun x hx => ?_, hz⟩
  · rw [hec]; unfold lay; simp
  · simp only [List.mem_cons, List.not_mem_nil, or_false] at hx
    rcases hx with rfl | rfl | rfl
    · exact h0
    · exact h1
    · exact h2
theorem Gv.x0 {w : World} {n : Nat} {ec pc : Array Value} (h : Gv w n ec pc) : EdRd w (gvX0 n) := ⟨tvR h.t1 _ rfl, tvR h.t2 _ rfl, Or.inl rfl, Or.inl rfl⟩
theorem Gv.x1 {w : World} {n : Nat} {ec pc : Array Value} (h : Gv w n ec pc) : EdRd w (gvX1 n) := ⟨tvR h.t3 _ rfl, tvR h.t4 _ rfl, tvR h.t5 _ rfl, Or.inl rfl⟩
theorem Gv.x2 {w : World} {n : Nat} {ec pc : Array Value} (h : Gv w n ec pc) : EdRd w (gvX2 n) := ⟨tvR h.t6 _ rfl, tvR h.t7 _ rfl, Or.inl rfl, tvR h.t8 _ rfl⟩
theorem Gv.dd {w : World} {n : Nat} {ec pc : Array Value} (h : Gv w n ec pc) : RowT w (at0 (n + 11)) [sLib] := tvR h.d _ rfl
theorem Gv.gr {w : World} {n : Nat} (h : Gv w n (gvEc n) gvPc) : GfR w gvG [gvX0 n, gvX1 n, gvX2 n] (at0 (n + 9)) (at0 (n + 10)) (at0 (n + 11)) :=
  gr_three (x0 := gvX0 n) (x1 := gvX1 n) (x2 := gvX2 n) [(sTwo, 2)] h.e rfl h.p rfl h.dd h.x0 h.x1 h.x2 (ghz_of (show ghzB gvG = true by decide +kernel))

end Go.Proofs.YtfadjppokbolhaaGreatDoor
