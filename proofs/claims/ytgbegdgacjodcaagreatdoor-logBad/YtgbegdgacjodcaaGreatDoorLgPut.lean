/- May a record be, what its line is, as package logline and the document's own text answer; the conditions: the library's tables lie as they were laid, texts are no longer than a string can be. -/
import Derived.Test.YtgbegdgacjodcaaGreatDoorLgSmall
namespace Go.Proofs.YtgbegdgacjodcaaGreatDoor
open Go.RowKit

def bxR (w : World) (x : ByteArray) (t : Int) (y : ByteArray) : World := w.alloc (.cells #[.string x, .int .i64 t, .string y] 31)
theorem bxR_q (w : World) (x : ByteArray) (t : Int) (y : ByteArray) : Q w (bxR w x t y) := (Q.refl w).alloc _
theorem bxR_b (w : World) (x : ByteArray) (t : Int) (y : ByteArray) : Blk (bxR w x t y) w.heap.size #[.string x, .int .i64 t, .string y] 31 := Blk.new w _ _
theorem bxR_at {w : World} {x : ByteArray} {t : Int} {y : ByteArray} {w1 : World} (q : Q (bxR w x t y) w1) : w1.cell? ⟨w.heap.size, 0, none⟩ = some (.string x) ∧ w1.cell? ⟨w.heap.size, 1, none⟩ = some (.int .i64 t) ∧ w1.cell? ⟨w.heap.size, 2, none⟩ = some (.string y) :=
  ⟨((bxR_b w x t y).q q).cell 0 rfl, ((bxR_b w x t y).q q).cell 1 rfl, ((bxR_b w x t y).q q).cell 2 rfl⟩

set_option maxHeartbeats 1000000 in
theorem lgmay_any (r : Rc) (w : World) (hz1 : r.1.length ≤ maxLen) (hz2 : r.2.2.length ≤ maxLen) :
    Calls Tryz.prog 34 #[rcV r] w fun e w' => e = .returned (.bool (rcOk r)) ∧ Q w w' := by
  have HP := hide (fun w => pthP_any ⟨r.1.toArray⟩ w (by rw [mk_size']; exact hz1))
  rw [show bl (⟨r.1.toArray⟩ : ByteArray) = r.1 from rfl] at HP
  have HC := hide (fun w => pmay_any ⟨r.2.2.toArray⟩ 2048 w (by rw [mk_size']; exact hz2))
  rw [show bl (⟨r.2.2.toArray⟩ : ByteArray) = r.2.2 from rfl, mk_size'] at HC
  have HO : Hid (rcOk r = (pthB r.1 && (decide (1 ≤ r.2.1) && decide (r.2.1 ≤ 1048576)) && (!r.2.2.isEmpty && (decide ((r.2.2.length : Int) ≤ 2048) && plainL r.2.2)))) := by
    show _ = _
    unfold rcOk tmB1 snB
    rw [show decide (r.2.2.length ≤ 2048) = decide ((r.2.2.length : Int) ≤ 2048) by rw [decide_eq_decide]; omega]
    simp only [Bool.and_assoc]
  have hem : (⟨r.2.2.toArray⟩ : ByteArray).toList.isEmpty = r.2.2.isEmpty := by rw [bl_toList]; rfl
  generalize rcOk r = v at HO ⊢
  generalize pthB r.1 = v1 at HP HO
  generalize (decide ((r.2.2.length : Int) ≤ 2048) && plainL r.2.2) = v2 at HC HO
  obtain ⟨r1, r2, r3⟩ := r
  dsimp only at HP HC HO hem hz1 hz2 ⊢
  generalize r3.isEmpty = v3 at hem HO
  unfold rcV
  dsimp only
  generalize (⟨r1.toArray⟩ : ByteArray) = x1 at HP ⊢
  generalize (⟨r3.toArray⟩ : ByteArray) = x3 at HC hem ⊢
  clear hz1 hz2
  have HQ0 := hide (bxR_q w x1 r2 x3)
  cases v1
  · clear hem
    go_enter Tryz.func34, Tryz.ntmps34
    go_wp2_with fail
    refine (unhide HP _).mono ?_
    rintro e w1 ⟨rfl, q1⟩
    go_wp2_with fail
    go_ret
    exact ⟨ret_bool (by rw [unhide HO]; rfl), (unhide HQ0).trans q1⟩
  · obtain ⟨b1v, hb1⟩ : ∃ b, decide (1 ≤ r2) = b := ⟨_, rfl⟩
    obtain ⟨b2v, hb2⟩ : ∃ b, decide (r2 ≤ 1048576) = b := ⟨_, rfl⟩
    rw [hb1, hb2] at HO
    have H1 := hide hb1
    have H2 := hide hb2
    clear hb1 hb2
    cases b1v
    · clear hem
      go_enter Tryz.func34, Tryz.ntmps34
      go_wp2_with fail
      refine (unhide HP _).mono ?_
      rintro e w1 ⟨rfl, q1⟩
      obtain ⟨b0, b1, b2⟩ := bxR_at (x := x1) (t := r2) (y := x3) q1
      have g1 := of_decide_eq_false (unhide H1)
      go_wp2_with fail
      go_ret
      exact ⟨ret_bool (by rw [unhide HO]; rfl), (unhide HQ0).trans q1⟩
    cases b2v
    · clear hem
      go_enter Tryz.func34, Tryz.ntmps34
      go_wp2_with fail
      refine (unhide HP _).mono ?_
      rintro e w1 ⟨rfl, q1⟩
      obtain ⟨b0, b1, b2⟩ := bxR_at (x := x1) (t := r2) (y := x3) q1
      have g1 := of_decide_eq_true (unhide H1)
      have g2 := of_decide_eq_false (unhide H2)
      go_wp2_with fail
      go_ret
      exact ⟨ret_bool (by rw [unhide HO]; rfl), (unhide HQ0).trans q1⟩
    cases v3
    · go_enter Tryz.func34, Tryz.ntmps34
      go_wp2_with fail
      refine (unhide HP _).mono ?_
      rintro e w1 ⟨rfl, q1⟩
      obtain ⟨b0, b1, b2⟩ := bxR_at (x := x1) (t := r2) (y := x3) q1
      have g1 := of_decide_eq_true (unhide H1)
      have g2 := of_decide_eq_true (unhide H2)
      go_wp2_with fail
      refine (unhide HC _).mono ?_
      rintro e w2 ⟨rfl, q2⟩
      go_wp2_with fail
      go_ret
      exact ⟨ret_bool (by rw [unhide HO]; rfl), (unhide HQ0).trans (q1.trans q2)⟩
    · go_enter Tryz.func34, Tryz.ntmps34
      go_wp2_with fail
      refine (unhide HP _).mono ?_
      rintro e w1 ⟨rfl, q1⟩
      obtain ⟨b0, b1, b2⟩ := bxR_at (x := x1) (t := r2) (y := x3) q1
      have g1 := of_decide_eq_true (unhide H1)
      have g2 := of_decide_eq_true (unhide H2)
      go_wp2_with fail
      go_ret
      exact ⟨ret_bool (by rw [unhide HO]; rfl), (unhide HQ0).trans q1⟩

theorem rc_txt {r : Rc} {x1 x3 d : ByteArray} (h1 : bl x1 = r.1) (h3 : bl x3 = r.2.2) (hd : bl d = dc r.2.1) :
    x1 ++ ⟨#[9]⟩ ++ d ++ ⟨#[9]⟩ ++ x3 ++ ⟨#[10]⟩ = ⟨(rcT r).toArray⟩ := of_bl (by
  simp only [bl_app, h1, h3, hd]
  unfold rcT
  rw [show bl ⟨#[9]⟩ = [9] from rfl, show bl ⟨#[10]⟩ = [10] from rfl]
  simp)

theorem rc_sizes {r : Rc} (h : rcOk r = true) : r.1.length ≤ 16 ∧ (dc r.2.1).length ≤ 8 ∧ r.2.2.length ≤ 2048 := by
  obtain ⟨h1, h2, h3⟩ := rc_parts h
  exact ⟨(may_len (pth_may h1)).2, (dc_len r.2.1).2, (sn_parts h3).2.1⟩

set_option maxRecDepth 20000 in
set_option maxHeartbeats 2000000 in
theorem lgPut_any (r : Rc) (w : World) (hv : Vs w) (hz1 : r.1.length ≤ maxLen) (hz2 : r.2.2.length ≤ maxLen) :
    Calls Tryz.prog 23 #[rcV r] w fun e w' => e = .returned (.tuple #[.string ⟨(lgT r).toArray⟩, .int .i64 (lgE r)]) ∧ Q w w' := by
  have HM := hide (fun w => lgmay_any r w hz1 hz2)
  cases hok : rcOk r
  · obtain ⟨e1, e2⟩ := lg_no hok
    rw [e1, e2]
    rw [hok] at HM
    unfold rcV at HM ⊢
    obtain ⟨r1, r2, r3⟩ := r
    dsimp only at HM ⊢
    generalize (⟨r1.toArray⟩ : ByteArray) = x1 at HM ⊢
    generalize (⟨r3.toArray⟩ : ByteArray) = x3 at HM ⊢
    clear hok e1 e2 hz1 hz2
    have HQ0 := hide (bxR_q w x1 r2 x3)
    obtain ⟨b0, b1, b2⟩ := bxR_at (x := x1) (t := r2) (y := x3) (Q.refl (bxR w x1 r2 x3))
    unfold bxR at b0 b1 b2
    go_enter Tryz.func23, Tryz.ntmps23
    go_wp2_with fail
    clear b0 b1 b2
    refine (unhide HM _).mono ?_
    rintro e w1 ⟨rfl, q1⟩
    go_wp2_with fail
    go_ret2
    exact ⟨rfl, (unhide HQ0).trans q1⟩
  · obtain ⟨e1, e2⟩ := lg_yes hok
    rw [e1, e2]
    rw [hok] at HM
    obtain ⟨z1, z2, z3⟩ := rc_sizes hok
    have HD := hide (fun w (hv : Vs w) => itoa_any r.2.1 w hv (rc_parts hok).2.1)
    have HT := hide (rc_txt (r := r) (x1 := ⟨r.1.toArray⟩) (x3 := ⟨r.2.2.toArray⟩) (d := ⟨(dc r.2.1).toArray⟩) rfl rfl rfl)
    have y1 : (⟨r.1.toArray⟩ : ByteArray).size ≤ 16 := by rw [mk_size']; exact z1
    have y2 : (⟨(dc r.2.1).toArray⟩ : ByteArray).size ≤ 8 := by rw [mk_size']; exact z2
    have y3 : (⟨r.2.2.toArray⟩ : ByteArray).size ≤ 2048 := by rw [mk_size']; exact z3
    unfold rcV at HM ⊢
    generalize (⟨(rcT r).toArray⟩ : ByteArray) = xt at HT ⊢
    generalize (⟨(dc r.2.1).toArray⟩ : ByteArray) = d at HD HT y2
    obtain ⟨r1, r2, r3⟩ := r
    dsimp only at HM HD HT y1 y3 ⊢
    generalize (⟨r1.toArray⟩ : ByteArray) = x1 at HM HT y1 ⊢
    generalize (⟨r3.toArray⟩ : ByteArray) = x3 at HM HT y3 ⊢
    clear hok e1 e2 hz1 hz2 z1 z2 z3
    have HQ0 := hide (bxR_q w x1 r2 x3)
    have HV : Hid (Vs w) := hide hv
    obtain ⟨b0, b1, b2⟩ := bxR_at (x := x1) (t := r2) (y := x3) (Q.refl (bxR w x1 r2 x3))
    unfold bxR at b0 b1 b2
    go_enter Tryz.func23, Tryz.ntmps23
    go_wp2_with fail
    clear b0 b1 b2
    refine (unhide HM _).mono ?_
    rintro e w1 ⟨rfl, q1⟩
    have HQ1 := hide ((unhide HQ0).trans q1)
    have a0 : ∀ u : Aft w1, u.to.cell? ⟨w.heap.size, 0, none⟩ = some (.string x1) := fun u => (bxR_at (q1.trans u.q)).1
    have a1 : ∀ u : Aft w1, u.to.cell? ⟨w.heap.size, 1, none⟩ = some (.int .i64 r2) := fun u => (bxR_at (q1.trans u.q)).2.1
    have a2 : ∀ u : Aft w1, u.to.cell? ⟨w.heap.size, 2, none⟩ = some (.string x3) := fun u => (bxR_at (q1.trans u.q)).2.2
    have hne := Aft.ne w1
    clear q1
    go_wp2_with fail
    refine wp_region_aft (by kernel_rfl) (by kernel_rfl) ?_
    repeat (go_big_quiet_step ((go_at_call 36; exact Calls.aft (unhide HD _ ((unhide HV).q ((unhide HQ1).trans (Aft.q _)))))))
    refine wpQuiet_nil ?_
    intro _ hw'
    obtain ⟨u, hw''⟩ := hw'
    subst hw''
    have qu := u.q
    generalize u.to = w2 at qu ⊢
    clear a0 a1 a2 hne
    go_wp2_with fail
    go_ret2
    exact ⟨by rw [← unhide HT]; rfl, (unhide HQ1).trans qu⟩

end Go.Proofs.YtgbegdgacjodcaaGreatDoor
