/- May a record be, what its line is, as the document's own text answers; the conditions: texts are no longer than a string can be. -/
import Derived.Test.YtgbegdgacjodcaaGreatDoorLgPut
import Derived.Test.YtgbegdgacjodcaaGreatDoorLgDec
import Derived.Test.YtgbegdgacjodcaaGreatDoorGfRPth
import Derived.Test.YtgbegdgacjodcaaGreatDoorUpTo
namespace Go.Proofs.YtgbegdgacjodcaaGreatDoor
open Go.RowKit

theorem geone (s : Tx) : decide ((1 : Int) ≤ (s.length : Int)) = !s.isEmpty := by
  cases s with
  | nil => rfl
  | cons a l => simp; omega

set_option maxHeartbeats 1000000 in
theorem rrmay_any (r : Rc) (w : World) (hz1 : r.1.length ≤ maxLen) (hz2 : r.2.2.length ≤ maxLen) :
    Calls Tryz.prog 35 #[rcV r] w fun e w' => e = .returned (.bool (rcOk r)) ∧ Q w w' := by
  have HP := hide (fun w => rpth_any ⟨r.1.toArray⟩ w (by rw [mk_size']; exact hz1))
  rw [show bl (⟨r.1.toArray⟩ : ByteArray) = r.1 from rfl] at HP
  have HU := hide (fun w => upTo_any r.2.1 1 1048576 w)
  have HC := hide (fun w => rplain_any ⟨r.2.2.toArray⟩ 1 2048 w (by rw [mk_size']; exact hz2))
  rw [show bl (⟨r.2.2.toArray⟩ : ByteArray) = r.2.2 from rfl, mk_size'] at HC
  have HO : Hid (rcOk r = (pthB r.1 && ((decide (1 ≤ r.2.1) && decide (r.2.1 ≤ 1048576)) && (plainL r.2.2 && decide ((1 : Int) ≤ (r.2.2.length : Int)) && decide ((r.2.2.length : Int) ≤ 2048))))) := by
    show _ = _
    unfold rcOk tmB1 snB
    rw [show decide (r.2.2.length ≤ 2048) = decide ((r.2.2.length : Int) ≤ 2048) by rw [decide_eq_decide]; omega, geone]
    cases pthB r.1 <;> cases plainL r.2.2 <;> cases r.2.2.isEmpty <;> simp
  generalize rcOk r = v at HO ⊢
  generalize pthB r.1 = v1 at HP HO
  generalize (decide (1 ≤ r.2.1) && decide (r.2.1 ≤ 1048576)) = v2 at HU HO
  generalize (plainL r.2.2 && decide ((1 : Int) ≤ (r.2.2.length : Int)) && decide ((r.2.2.length : Int) ≤ 2048)) = v3 at HC HO
  obtain ⟨r1, r2, r3⟩ := r
  dsimp only at HP HC HO HU hz1 hz2 ⊢
  unfold rcV
  dsimp only
  generalize (⟨r1.toArray⟩ : ByteArray) = x1 at HP ⊢
  generalize (⟨r3.toArray⟩ : ByteArray) = x3 at HC ⊢
  clear hz1 hz2
  have HQ0 := hide (bxR_q w x1 r2 x3)
  cases v1
  · go_enter Tryz.func35, Tryz.ntmps35
    go_wp2_with fail
    refine (unhide HP _).mono ?_
    rintro e w1 ⟨rfl, q1⟩
    go_wp2_with fail
    go_ret
    exact ⟨ret_bool (by rw [unhide HO]; rfl), (unhide HQ0).trans q1⟩
  · cases v2
    all_goals
      go_enter Tryz.func35, Tryz.ntmps35
      go_wp2_with fail
      refine (unhide HP _).mono ?_
      rintro e w1 ⟨rfl, q1⟩
      obtain ⟨b0, b1, b2⟩ := bxR_at (x := x1) (t := r2) (y := x3) q1
      go_wp2_with (first | (go_at_call 47; refine (unhide HU _).mono ?_; rintro e w1 ⟨rfl, rfl⟩) | (go_at_call 48; refine (unhide HC _).mono ?_; rintro e w1 ⟨rfl, rfl⟩))
      go_ret
      exact ⟨ret_bool (by rw [unhide HO]; rfl), (unhide HQ0).trans q1⟩

set_option maxRecDepth 20000 in
set_option maxHeartbeats 2000000 in
theorem rPut_any (r : Rc) (w : World) (hz1 : r.1.length ≤ maxLen) (hz2 : r.2.2.length ≤ maxLen) :
    Calls Tryz.prog 26 #[rcV r] w fun e w' => e = .returned (.tuple #[.string ⟨(lgT r).toArray⟩, .int .i64 (lgE r)]) ∧ Q w w' := by
  have HM := hide (fun w => rrmay_any r w hz1 hz2)
  cases hok : rcOk r
  · obtain ⟨e1, e2⟩ := lg_no hok
    rw [e1, e2]
    rw [hok] at HM
    unfold rcV at HM ⊢
    obtain ⟨r1, r2, r3⟩ := r
    dsimp only at HM ⊢
    generalize (⟨r1.toArray⟩ : ByteArray) = x1 at HM ⊢
    generalize (⟨r3.toArray⟩ : ByteArray) = x3 at HM ⊢
    clear hok e1 e2 hz1 hz2
    have HQ0 := hide (bxR_q w x1 r2 x3)
    obtain ⟨b0, b1, b2⟩ := bxR_at (x := x1) (t := r2) (y := x3) (Q.refl (bxR w x1 r2 x3))
    unfold bxR at b0 b1 b2
    go_enter Tryz.func26, Tryz.ntmps26
    go_wp2_with fail
    clear b0 b1 b2
    refine (unhide HM _).mono ?_
    rintro e w1 ⟨rfl, q1⟩
    go_wp2_with fail
    go_ret2
    exact ⟨rfl, (unhide HQ0).trans q1⟩
  · obtain ⟨e1, e2⟩ := lg_yes hok
    rw [e1, e2]
    rw [hok] at HM
    obtain ⟨z1, z2, z3⟩ := rc_sizes hok
    have HD := hide (fun w (hv : True) => rdec_any r.2.1 w (rc_parts hok).2.1)
    have HT := hide (rc_txt (r := r) (x1 := ⟨r.1.toArray⟩) (x3 := ⟨r.2.2.toArray⟩) (d := ⟨(dc r.2.1).toArray⟩) rfl rfl rfl)
    have y1 : (⟨r.1.toArray⟩ : ByteArray).size ≤ 16 := by rw [mk_size']; exact z1
    have y2 : (⟨(dc r.2.1).toArray⟩ : ByteArray).size ≤ 8 := by rw [mk_size']; exact z2
    have y3 : (⟨r.2.2.toArray⟩ : ByteArray).size ≤ 2048 := by rw [mk_size']; exact z3
    unfold rcV at HM ⊢
    generalize (⟨(rcT r).toArray⟩ : ByteArray) = xt at HT ⊢
    generalize (⟨(dc r.2.1).toArray⟩ : ByteArray) = d at HD HT y2
    obtain ⟨r1, r2, r3⟩ := r
    dsimp only at HM HD HT y1 y3 ⊢
    generalize (⟨r1.toArray⟩ : ByteArray) = x1 at HM HT y1 ⊢
    generalize (⟨r3.toArray⟩ : ByteArray) = x3 at HM HT y3 ⊢
    clear hok e1 e2 hz1 hz2 z1 z2 z3
    have HQ0 := hide (bxR_q w x1 r2 x3)
    have HV : Hid (True) := hide trivial
    obtain ⟨b0, b1, b2⟩ := bxR_at (x := x1) (t := r2) (y := x3) (Q.refl (bxR w x1 r2 x3))
    unfold bxR at b0 b1 b2
    go_enter Tryz.func26, Tryz.ntmps26
    go_wp2_with fail
    clear b0 b1 b2
    refine (unhide HM _).mono ?_
    rintro e w1 ⟨rfl, q1⟩
    have HQ1 := hide ((unhide HQ0).trans q1)
    have a0 : ∀ u : Aft w1, u.to.cell? ⟨w.heap.size, 0, none⟩ = some (.string x1) := fun u => (bxR_at (q1.trans u.q)).1
    have a1 : ∀ u : Aft w1, u.to.cell? ⟨w.heap.size, 1, none⟩ = some (.int .i64 r2) := fun u => (bxR_at (q1.trans u.q)).2.1
    have a2 : ∀ u : Aft w1, u.to.cell? ⟨w.heap.size, 2, none⟩ = some (.string x3) := fun u => (bxR_at (q1.trans u.q)).2.2
    have hne := Aft.ne w1
    clear q1
    go_wp2_with fail
    refine wp_region_aft (by kernel_rfl) (by kernel_rfl) ?_
    repeat (go_big_quiet_step ((go_at_call 38; exact Calls.aft (unhide HD _ trivial))))
    refine wpQuiet_nil ?_
    intro _ hw'
    obtain ⟨u, hw''⟩ := hw'
    subst hw''
    have qu := u.q
    generalize u.to = w2 at qu ⊢
    clear a0 a1 a2 hne
    go_wp2_with fail
    go_ret2
    exact ⟨by rw [← unhide HT]; rfl, (unhide HQ1).trans qu⟩


end Go.Proofs.YtgbegdgacjodcaaGreatDoor
