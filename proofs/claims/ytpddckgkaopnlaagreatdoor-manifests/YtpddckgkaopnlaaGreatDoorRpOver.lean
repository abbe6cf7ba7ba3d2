/- The document's own parser: what is under way is over (but for a build line's); the conditions: it lies in memory. -/
import Derived.Test.YtpddckgkaopnlaaGreatDoorRpPaths
import Derived.Test.YtpddckgkaopnlaaGreatDoorBnMfOk
namespace Go.Proofs.YtpddckgkaopnlaaGreatDoor
open Go.RowKit

theorem UnP.q {B : Nat} {w w' : World} {s : Sm} {ps : List Pl} {A : RpA} {op : Int} {b0 b1 b2 b3 b4 vo : Value} (h : UnP B w s ps A op b0 b1 b2 b3 b4 vo) (q : Q w w') : UnP B w' s ps A op b0 b1 b2 b3 b4 vo := by
  unfold UnP at h ⊢
  cases hun : s.un with
  | none => rw [hun] at h; exact h
  | some u =>
    rw [hun] at h
    cases u with
    | inl r =>
      obtain ⟨h1, h2, R0, seen, so, sc, h3, h4, h5, h6, h7⟩ := h
      exact ⟨h1, h2, R0, seen, so, sc, h3, h4, own_q h5 q, h6, h7⟩
    | inr u =>
      cases u with
      | inl p => exact h
      | inr x =>
        obtain ⟨h1, h2, h3, y, no, nc, h4, h5, h6, h7, h8, h9, h10, h11, h12, h13, h14, h15⟩ := h
        exact ⟨h1, h2, h3, y, no, nc, h4, h5, h6, h7, h8, h9, h10.fr (P := fun _ => False) (Fr.of_q q) (fun _ _ h => h), h11, h12, own_q h13 q, h14, h15⟩
theorem RS.q {B : Nat} {w w' : World} {P : Nat} {s : Sm} (h : RS B w P s) (q : Q w w') : RS B w' P s := by
  obtain ⟨h1, h2, ps, A, op, b0, b1, b2, b3, b4, vo, h3, h4⟩ := h
  exact ⟨h1, h2, ps, A, op, b0, b1, b2, b3, b4, vo, h3.q q, h4.q q⟩

/-- What a step says. -/
def RL (B P : Nat) (x : Except Int Sm) (w : World) (e : Ending) (w' : World) : Prop := Below B w w' ∧ match x with
  | .error n => e = .returned (.int .i64 n)
  | .ok s => e = .returned (.int .i64 0) ∧ RS B w' P s
theorem RL.err {B P : Nat} {x : Except Int Sm} {w w' : World} {n : Int} (hx : x = .error n) (hb : Below B w w') : RL B P x w (.returned (.int .i64 n)) w' := by subst hx; exact ⟨hb, rfl⟩
theorem RL.ok {B P : Nat} {x : Except Int Sm} {w w' : World} {s : Sm} (hx : x = .ok s) (hb : Below B w w') (h : RS B w' P s) : RL B P x w (.returned (.int .i64 0)) w' := by subst hx; exact ⟨hb, rfl, h⟩

/-- The mark of what is under way is taken away. -/
theorem Rp.zero {B : Nat} {w : World} {P : Nat} {s : Sm} {ps : List Pl} {A : RpA} {op : Int} {b0 b1 b2 b3 b4 vo : Value} (h : Rp B w P s ps A op b0 b1 b2 b3 b4 vo) (n : Int) : Rp B (w.setCell ⟨P, 5, none⟩ (.int .i64 n)) P s ps A n b0 b1 b2 b3 b4 vo :=
  ⟨h.blk.set 5 _, h.lo, h.ro.set h.blk 5 _⟩
theorem Rp.below {B : Nat} {w : World} {P : Nat} {s : Sm} {ps : List Pl} {A : RpA} {op : Int} {b0 b1 b2 b3 b4 vo : Value} (h : Rp B w P s ps A op b0 b1 b2 b3 b4 vo) (hB : B ≤ w.heap.size) (i : Nat) (v : Value) : Below B w (w.setCell ⟨P, i, none⟩ v) :=
  (Fr.set w P i v).below hB (fun k hk => by rw [hk]; exact h.lo)
theorem Rp.re {B : Nat} {w : World} {P : Nat} {s s' : Sm} {ps : List Pl} {A : RpA} {op : Int} {b0 b1 b2 b3 b4 vo : Value} (h : Rp B w P s ps A op b0 b1 b2 b3 b4 vo) (h1 : s'.es = s.es) (h2 : s'.ds = s.ds) (h3 : s'.bs = s.bs) : Rp B w P s' ps A op b0 b1 b2 b3 b4 vo := by
  obtain ⟨hb, hl, hr⟩ := h
  refine ⟨?_, hl, ⟨hr.e, by rw [h1]; exact hr.em, hr.p, ?_, hr.r, ?_, hr.q, ?_⟩⟩
  · unfold rpC at hb ⊢; rw [h2, h3]; exact hb
  · have := hr.d; unfold OwnT at this ⊢; rw [h2]; exact this
  · have := hr.o; unfold OwnD at this ⊢; rw [h3]; exact this
  · rw [h2]; exact hr.nd

set_option maxRecDepth 20000 in
set_option maxHeartbeats 4000000 in
theorem rover_none (B P : Nat) (s : Sm) (ps : List Pl) (A : RpA) (op : Int) (b0 b1 b2 b3 b4 vo : Value) (w : World) (hun : s.un = none) (h : Rp B w P s ps A op b0 b1 b2 b3 b4 vo) (hu : UnP B w s ps A op b0 b1 b2 b3 b4 vo) (ok : SmOk s) (hm : SmMay s) (hB : B ≤ w.heap.size) :
    Calls Tryz.prog 15 #[.pointer (some ⟨P, 0, none⟩)] w (RL B P (ovL s) w) := by
  have HX : Hid (ovL s = .ok s) := by show _ = _; unfold ovL; rw [hun]
  unfold UnP at hu
  rw [hun] at hu
  obtain ⟨rfl, hps, hrs⟩ := hu
  have HS : Hid (RS B (w.setCell ⟨P, 5, none⟩ (.int .i64 0)) P s) := ⟨ok, hm, ps, A, 0, b0, b1, b2, b3, b4, vo, h.zero 0, by unfold UnP; rw [hun]; exact ⟨rfl, hps, hrs⟩⟩
  have HB := hide (h.below hB 5 (.int .i64 0))
  have c5 := h.cells.c5
  have f5 := h.cells.frz 5
  clear h ok hm hps hrs hun
  go_enter Tryz.func15, Tryz.ntmps15
  go_wp2_with fail
  go_ret
  exact RL.ok HX.out (unhide HB) HS.out

set_option maxRecDepth 20000 in
set_option maxHeartbeats 4000000 in
theorem rover_rule (B P : Nat) (s : Sm) (ps : List Pl) (A : RpA) (op : Int) (b0 b1 b2 b3 b4 vo : Value) (r : Rl) (w : World) (hun : s.un = some (.inl r)) (h : Rp B w P s ps A op b0 b1 b2 b3 b4 vo) (hu : UnP B w s ps A op b0 b1 b2 b3 b4 vo) (ok : SmOk s) (hm : SmMay s) (hB : B ≤ w.heap.size) :
    Calls Tryz.prog 15 #[.pointer (some ⟨P, 0, none⟩)] w (RL B P (ovL s) w) := by
  unfold UnP at hu
  rw [hun] at hu
  obtain ⟨rfl, hps, R0, seen, so, sc, hrs, hR0, _, _, _⟩ := hu
  have hz := h.zero 0
  have HB := hide (h.below hB 5 (.int .i64 0))
  have c5 := h.cells.c5
  have f5 := h.cells.frz 5
  have hlr : A.rs.length = R0.length + 1 := by rw [hrs]; simp
  have hl9 : R0.length ≤ 8 := by have := congrArg List.length hR0; rw [List.length_map] at this; have := ok.lr; omega
  have HROW := hz.ro.rowR
  have y3 := hz.cells.c3
  have HXX : Hid (if r.2.1 = [] then ovL s = .error 800 else ∃ s', ovL s = .ok s' ∧ RS B (w.setCell ⟨P, 5, none⟩ (.int .i64 0)) P s') := by
    show if r.2.1 = [] then ovL s = .error 800 else ∃ s', ovL s = .ok s' ∧ RS B (w.setCell ⟨P, 5, none⟩ (.int .i64 0)) P s'
    split
    · rename_i h0; unfold ovL; rw [hun]; simp only; rw [if_pos h0]
    · rename_i h0
      have e : ovL s = .ok ⟨s.es, s.ps, s.ds, s.rs ++ [r], s.bs, none⟩ := by unfold ovL; rw [hun]; simp only; rw [if_neg h0]
      refine ⟨_, e, ok_ov e ok, (ov_may e hm).1, ps, A, 0, b0, b1, b2, b3, b4, vo, hz.re rfl rfl rfl, ?_⟩
      exact ⟨rfl, hps, by rw [hrs, List.map_append, hR0]; rfl⟩
  rcases HROW with he | ⟨g, o, hro, hg, hcell⟩
  · rw [he] at hlr; simp at hlr
  have hx : A.rs[R0.length]? = some (r, (so, seen.length, sc)) := by rw [hrs]; simp
  have k1 : (w.setCell ⟨P, 5, none⟩ (.int .i64 0)).cell? ⟨g, o + R0.length * 5 + 1, none⟩ = some (.string ⟨r.2.1.toArray⟩) := hcell R0.length 1 _ _ hx (by decide) rfl
  rw [hro, hlr] at y3
  have HY3 := hide y3
  have HK1 := hide k1
  clear y3 k1 hcell hx hrs hR0 hz h ok hm hps hun hlr
  go_enter Tryz.func15, Tryz.ntmps15
  go_upto_region 5 with fail
  have y3 := unhide HY3
  have k1 := unhide HK1
  clear HY3 HK1 c5 f5
  generalize w.setCell ⟨P, 5, none⟩ (.int .i64 0) = w1 at *
  generalize R0.length = m at *
  by_cases h0 : r.2.1 = []
  · have HX := HXX.out
    rw [if_pos h0] at HX
    have g1 : (⟨r.2.1.toArray⟩ : ByteArray).toList.isEmpty = true := is_emp h0
    generalize (⟨r.2.1.toArray⟩ : ByteArray) = xc at *
    have HX2 := hide HX
    clear HX HXX h0
    go_region
    go_wp2_with fail
    go_ret
    exact RL.err (unhide HX2) (unhide HB).drew
  · have HX := HXX.out
    rw [if_neg h0] at HX
    have g1 : (⟨r.2.1.toArray⟩ : ByteArray).toList.isEmpty = false := no_emp h0
    generalize (⟨r.2.1.toArray⟩ : ByteArray) = xc at *
    obtain ⟨s', hx1, hx2⟩ := HX
    have HX1 := hide hx1
    have HX2 := hide hx2
    clear hx1 hx2 HXX h0
    go_region
    go_wp2_with fail
    go_ret
    exact RL.ok (unhide HX1) (unhide HB).drew ((unhide HX2).q (Q.refl _).drew)

set_option maxRecDepth 20000 in
set_option maxHeartbeats 4000000 in
theorem rover_pool (B P : Nat) (s : Sm) (ps : List Pl) (A : RpA) (op : Int) (b0 b1 b2 b3 b4 vo : Value) (p : Pl) (w : World) (hun : s.un = some (.inr (.inl p))) (h : Rp B w P s ps A op b0 b1 b2 b3 b4 vo) (hu : UnP B w s ps A op b0 b1 b2 b3 b4 vo) (ok : SmOk s) (hm : SmMay s) (hB : B ≤ w.heap.size) :
    Calls Tryz.prog 15 #[.pointer (some ⟨P, 0, none⟩)] w (RL B P (ovL s) w) := by
  unfold UnP at hu
  rw [hun] at hu
  obtain ⟨rfl, hps, hrs⟩ := hu
  have hz := h.zero 0
  have HB := hide (h.below hB 5 (.int .i64 0))
  have c5 := h.cells.c5
  have f5 := h.cells.frz 5
  have hlr : ps.length = s.ps.length + 1 := by rw [hps]; simp
  have hl9 : s.ps.length ≤ 4 := ok.lp
  have HROW := OwnPl.row hz.ro.p
  have y3 := hz.cells.c1
  have HXX : Hid (if p.2 = 0 then ovL s = .error 800 else ∃ s', ovL s = .ok s' ∧ RS B (w.setCell ⟨P, 5, none⟩ (.int .i64 0)) P s') := by
    show if p.2 = 0 then ovL s = .error 800 else ∃ s', ovL s = .ok s' ∧ RS B (w.setCell ⟨P, 5, none⟩ (.int .i64 0)) P s'
    split
    · rename_i h0; unfold ovL; rw [hun]; simp only; rw [if_pos h0]
    · rename_i h0
      have e : ovL s = .ok ⟨s.es, s.ps ++ [p], s.ds, s.rs, s.bs, none⟩ := by unfold ovL; rw [hun]; simp only; rw [if_neg h0]
      refine ⟨_, e, ok_ov e ok, (ov_may e hm).1, ps, A, 0, b0, b1, b2, b3, b4, vo, hz.re rfl rfl rfl, ?_⟩
      exact ⟨rfl, hps, hrs⟩
  rcases HROW with he | ⟨g, o, hro, hg, hcell⟩
  · rw [he] at hlr; simp at hlr
  have hx : ps[s.ps.length]? = some p := by rw [hps]; simp
  have k1 : (w.setCell ⟨P, 5, none⟩ (.int .i64 0)).cell? ⟨g, o + s.ps.length * 2 + 1, none⟩ = some (.int .i64 p.2) := hcell s.ps.length 1 _ _ hx (by decide) rfl
  rw [hro, hlr] at y3
  have HY3 := hide y3
  have HK1 := hide k1
  clear y3 k1 hcell hx hrs hz h ok hm hun hlr
  go_enter Tryz.func15, Tryz.ntmps15
  go_upto_region 8 with fail
  have y3 := unhide HY3
  have k1 := unhide HK1
  clear HY3 HK1 c5 f5
  generalize w.setCell ⟨P, 5, none⟩ (.int .i64 0) = w1 at *
  generalize s.ps.length = m at *
  by_cases h0 : p.2 = 0
  · have HX := HXX.out
    rw [if_pos h0] at HX
    have g1 : ((p.2 : Int) == 0) = true := by simp [h0]
    generalize (p.2 : Int) = xc at *
    have HX2 := hide HX
    clear HX HXX h0
    go_region
    go_wp2_with fail
    go_ret
    exact RL.err (unhide HX2) (unhide HB).drew
  · have HX := HXX.out
    rw [if_neg h0] at HX
    have g1 : ((p.2 : Int) == 0) = false := by simp; omega
    generalize (p.2 : Int) = xc at *
    obtain ⟨s', hx1, hx2⟩ := HX
    have HX1 := hide hx1
    have HX2 := hide hx2
    clear hx1 hx2 HXX h0
    go_region
    go_wp2_with fail
    go_ret
    exact RL.ok (unhide HX1) (unhide HB).drew ((unhide HX2).q (Q.refl _).drew)

end Go.Proofs.YtpddckgkaopnlaaGreatDoor
