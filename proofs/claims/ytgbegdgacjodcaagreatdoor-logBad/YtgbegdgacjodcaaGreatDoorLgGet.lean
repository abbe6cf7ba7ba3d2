/- What record a line tells, as package logline answers; the conditions: the library's tables lie as they were laid, the text is at most 2^47 bytes. -/
import Derived.Test.YtgbegdgacjodcaaGreatDoorLgPut
namespace Go.Proofs.YtgbegdgacjodcaaGreatDoor
open Go.RowKit

theorem gt_no {s : Tx} (h : (rcOk (cutG s) && (rcT (cutG s) == s)) = false) : gtR s = ([], 0, []) ∧ gtE s = 1300 := by
  have : ¬ (rcOk (cutG s) && (rcT (cutG s) == s)) = true := by rw [h]; simp
  unfold gtR gtE gtL gtF
  rw [if_neg this]; exact ⟨rfl, rfl⟩
theorem gt_yes {s : Tx} (h : (rcOk (cutG s) && (rcT (cutG s) == s)) = true) : gtR s = cutG s ∧ gtE s = 0 := by
  unfold gtR gtE gtL gtF
  rw [if_pos h]; exact ⟨rfl, rfl⟩
def zrR : Value := .agg #[.string ⟨#[]⟩, .int .i64 0, .string ⟨#[]⟩]

set_option maxRecDepth 20000 in
set_option maxHeartbeats 4000000 in
theorem lgGet_any (s : ByteArray) (w : World) (hv : Vs w) (hs : s.size ≤ 140737488355328) :
    Calls Tryz.prog 28 #[.string s] w fun e w' => e = .returned (.tuple #[rcV (gtR (bl s)), .int .i64 (gtE (bl s))]) ∧ Q w w' := by
  have hl := bl_size s
  have l1 := ctA_len (bl s)
  have l2 := ctB_len (bl s)
  have l4 := ctB_len (ctB (bl s))
  have l5 := ctS_len (ctB (ctB (bl s)))
  have HG := hide (fun w (hv : Vs w) => lgcut_any s w hv hs)
  have z1 : (cutG (bl s)).1.length ≤ 140737488355328 := by show (ctA (bl s)).length ≤ _; omega
  have z2 : (cutG (bl s)).2.2.length ≤ 140737488355328 := by show (ctS (ctB (ctB (bl s)))).length ≤ _; omega
  clear l1 l2 l4 l5 hl hs
  have HN := hide (gt_no (s := bl s))
  have HY := hide (gt_yes (s := bl s))
  generalize cutG (bl s) = r at HG z1 z2 HN HY
  have HP := hide (fun w (hv : Vs w) => lgPut_any r w hv (by unfold maxLen; omega) (by unfold maxLen; omega))
  have HX := hide (txt_beq (rcT r) s)
  have HV := hide hv
  clear hv
  have HB0 : Hid (Blk (w.alloc (.cells #[.string ⟨#[]⟩, .int .i64 0, .string ⟨#[]⟩] 31)) w.heap.size #[.string ⟨#[]⟩, .int .i64 0, .string ⟨#[]⟩] 31) := Blk.new w _ _
  have HQ0 := hide ((Q.refl w).alloc (.cells #[.string ⟨#[]⟩, .int .i64 0, .string ⟨#[]⟩] 31))
  cases hok : rcOk r
  · obtain ⟨e1, e2⟩ := lg_no hok
    rw [e1, e2] at HP
    obtain ⟨f1, f2⟩ := unhide HN (by rw [hok]; rfl)
    rw [f1, f2]
    clear HN HY HX hok e1 e2 f1 f2 z1 z2
    unfold rcV at *
    obtain ⟨r1, r2, r3⟩ := r
    dsimp only at HP HG ⊢
    generalize (⟨r1.toArray⟩ : ByteArray) = x1 at *
    generalize (⟨r3.toArray⟩ : ByteArray) = x3 at *
    go_enter Tryz.func28, Tryz.ntmps28
    go_wp2_with fail
    refine (unhide HG _ ((unhide HV).q (unhide HQ0))).mono ?_
    rintro e w1 ⟨rfl, q1⟩
    have HQ1 := hide ((unhide HQ0).trans (q1.trans ((Q.refl w1).alloc (.cells #[.string x1, .int .i64 r2, .string x3] 31))))
    have HB1 := hide ((unhide HB0).q (q1.trans ((Q.refl w1).alloc (.cells #[.string x1, .int .i64 r2, .string x3] 31))))
    obtain ⟨b0, b1, b2⟩ := bxR_at (x := x1) (t := r2) (y := x3) (Q.refl (bxR w1 x1 r2 x3))
    unfold bxR at b0 b1 b2
    clear q1
    go_wp2_with fail
    clear b0 b1 b2
    refine (unhide HP _ ((unhide HV).q (unhide HQ1))).mono ?_
    rintro e w2 ⟨rfl, q2⟩
    have hb := (unhide HB1).q q2
    have HQ2 := hide ((unhide HQ1).trans q2)
    have c0 := hb.cell 0 rfl
    have c1 := hb.cell 1 rfl
    have c2 := hb.cell 2 rfl
    have g0 := hb.frz 0
    have g1 := hb.frz 1
    have g2 := hb.frz 2
    have HB2 := hide hb
    clear hb q2
    go_wp2_with fail
    obtain ⟨hb, fr⟩ := put3 (unhide HB2) (.string ⟨#[]⟩) (.int .i64 0) (.string ⟨#[]⟩)
    have HQ3 := hide (Below.trans (unhide HQ2) (fr.below (unhide HQ2).size (fun k hk => by omega)))
    have k0 := hb.cell 0 rfl
    have k1 := hb.cell 1 rfl
    have k2 := hb.cell 2 rfl
    clear c0 c1 c2 g0 g1 g2 fr hb
    generalize ((w2.setCell ⟨w.heap.size, 0, none⟩ (.string ⟨#[]⟩)).setCell ⟨w.heap.size, 1, none⟩ (.int .i64 0)).setCell ⟨w.heap.size, 2, none⟩ (.string ⟨#[]⟩) = w3 at *
    exact bodyPost_ret (v := .tuple #[.agg #[.string ⟨#[]⟩, .int .i64 0, .string ⟨#[]⟩], .int .i64 1300]) (by simp [results, Tryz.results28, go_sem, k0, k1, k2]) rfl ⟨rfl, unhide HQ3⟩
  · obtain ⟨e1, e2⟩ := lg_yes hok
    rw [e1, e2] at HP
    have zt := rcT_len hok
    have hyt : (⟨(rcT r).toArray⟩ : ByteArray).size ≤ 2100 := by rw [mk_size']; exact zt
    cases hx : (rcT r == bl s)
    · rw [hx] at HX
      obtain ⟨f1, f2⟩ := unhide HN (by rw [hok, hx]; rfl)
      rw [f1, f2]
      clear HN HY hok e1 e2 f1 f2 z1 z2 hx zt
      unfold rcV at *
      generalize (⟨(rcT r).toArray⟩ : ByteArray) = xt at *
      obtain ⟨r1, r2, r3⟩ := r
      dsimp only at HP HG ⊢
      generalize (⟨r1.toArray⟩ : ByteArray) = x1 at *
      generalize (⟨r3.toArray⟩ : ByteArray) = x3 at *
      go_enter Tryz.func28, Tryz.ntmps28
      go_wp2_with fail
      refine (unhide HG _ ((unhide HV).q (unhide HQ0))).mono ?_
      rintro e w1 ⟨rfl, q1⟩
      have HQ1 := hide ((unhide HQ0).trans (q1.trans ((Q.refl w1).alloc (.cells #[.string x1, .int .i64 r2, .string x3] 31))))
      have HB1 := hide ((unhide HB0).q (q1.trans ((Q.refl w1).alloc (.cells #[.string x1, .int .i64 r2, .string x3] 31))))
      obtain ⟨b0, b1, b2⟩ := bxR_at (x := x1) (t := r2) (y := x3) (Q.refl (bxR w1 x1 r2 x3))
      unfold bxR at b0 b1 b2
      clear q1
      go_wp2_with fail
      clear b0 b1 b2
      refine (unhide HP _ ((unhide HV).q (unhide HQ1))).mono ?_
      rintro e w2 ⟨rfl, q2⟩
      have hb := (unhide HB1).q q2
      have HQ2 := hide ((unhide HQ1).trans q2)
      have c0 := hb.cell 0 rfl
      have c1 := hb.cell 1 rfl
      have c2 := hb.cell 2 rfl
      have g0 := hb.frz 0
      have g1 := hb.frz 1
      have g2 := hb.frz 2
      have HB2 := hide hb
      clear hb q2
      have hx := unhide HX
      go_wp2_with fail
      obtain ⟨hb, fr⟩ := put3 (unhide HB2) (.string ⟨#[]⟩) (.int .i64 0) (.string ⟨#[]⟩)
      have HQ3 := hide (Below.trans (unhide HQ2) (fr.below (unhide HQ2).size (fun k hk => by omega)))
      have k0 := hb.cell 0 rfl
      have k1 := hb.cell 1 rfl
      have k2 := hb.cell 2 rfl
      clear c0 c1 c2 g0 g1 g2 fr hb
      generalize ((w2.setCell ⟨w.heap.size, 0, none⟩ (.string ⟨#[]⟩)).setCell ⟨w.heap.size, 1, none⟩ (.int .i64 0)).setCell ⟨w.heap.size, 2, none⟩ (.string ⟨#[]⟩) = w3 at *
      exact bodyPost_ret (v := .tuple #[.agg #[.string ⟨#[]⟩, .int .i64 0, .string ⟨#[]⟩], .int .i64 1300]) (by simp [results, Tryz.results28, go_sem, k0, k1, k2]) rfl ⟨rfl, unhide HQ3⟩
    · rw [hx] at HX
      obtain ⟨f1, f2⟩ := unhide HY (by rw [hok, hx]; rfl)
      rw [f1, f2]
      have HC1 := hide (fun w => clone_any ⟨r.1.toArray⟩ w (by rw [mk_size']; omega))
      have HC3 := hide (fun w => clone_any ⟨r.2.2.toArray⟩ w (by rw [mk_size']; omega))
      clear HN HY hok e1 e2 f1 f2 z1 z2 hx zt
      unfold rcV at *
      generalize (⟨(rcT r).toArray⟩ : ByteArray) = xt at *
      obtain ⟨r1, r2, r3⟩ := r
      dsimp only at HP HG HC1 HC3 ⊢
      generalize (⟨r1.toArray⟩ : ByteArray) = x1 at *
      generalize (⟨r3.toArray⟩ : ByteArray) = x3 at *
      have HCC : Hid (∀ x, x = x1 ∨ x = x3 → ∀ w, Calls Tryz.prog 41 #[.string x] w fun e w' => e = .returned (.string x) ∧ Q w w') := fun x hx w => by
        rcases hx with rfl | rfl
        · exact unhide HC1 w
        · exact unhide HC3 w
      clear HC1 HC3
      go_enter Tryz.func28, Tryz.ntmps28
      go_wp2_with fail
      refine (unhide HG _ ((unhide HV).q (unhide HQ0))).mono ?_
      rintro e w1 ⟨rfl, q1⟩
      have HQ1 := hide ((unhide HQ0).trans (q1.trans ((Q.refl w1).alloc (.cells #[.string x1, .int .i64 r2, .string x3] 31))))
      have HB1 := hide ((unhide HB0).q (q1.trans ((Q.refl w1).alloc (.cells #[.string x1, .int .i64 r2, .string x3] 31))))
      obtain ⟨b0, b1, b2⟩ := bxR_at (x := x1) (t := r2) (y := x3) (Q.refl (bxR w1 x1 r2 x3))
      unfold bxR at b0 b1 b2
      clear q1
      go_wp2_with fail
      clear b0 b1 b2
      have HBX : Hid (Blk (w1.alloc (.cells #[.string x1, .int .i64 r2, .string x3] 31)) w1.heap.size #[.string x1, .int .i64 r2, .string x3] 31) := Blk.new w1 _ _
      refine (unhide HP _ ((unhide HV).q (unhide HQ1))).mono ?_
      rintro e w2 ⟨rfl, q2⟩
      have hb := (unhide HB1).q q2
      have HQ2 := hide ((unhide HQ1).trans q2)
      have c0 := hb.cell 0 rfl
      have c1 := hb.cell 1 rfl
      have c2 := hb.cell 2 rfl
      have g0 := hb.frz 0
      have g1 := hb.frz 1
      have g2 := hb.frz 2
      have HB2 := hide hb
      have HX2 := hide ((unhide HBX).q q2)
      clear hb q2
      have hx := unhide HX
      clear HX HBX HB1 HB0 c0 c1 c2 g0 g1 g2
      have HALL : Hid (∀ u, Q w2 u → u.cell? ⟨w1.heap.size, 0, none⟩ = some (.string x1) ∧ u.cell? ⟨w1.heap.size, 1, none⟩ = some (.int .i64 r2) ∧ u.cell? ⟨w1.heap.size, 2, none⟩ = some (.string x3) ∧ Blk u w.heap.size #[.string ⟨#[]⟩, .int .i64 0, .string ⟨#[]⟩] 31) := fun u q => by
        have h := (unhide HX2).q q
        exact ⟨h.cell 0 rfl, h.cell 1 rfl, h.cell 2 rfl, (unhide HB2).q q⟩
      clear HX2 HB2 HP HG HV HQ0 HQ1
      go_wp2_with fail
      generalize hN4 : w1.heap.size = N4 at *
      obtain ⟨p0, p1, p2, _⟩ := unhide HALL w2 (Q.refl _)
      have QU := hide ((Q.refl w2).drew)
      go_region_with (go_at_call 41; refine (unhide HCC _ (by first | exact Or.inl rfl | exact Or.inr rfl) _).mono ?_; rintro e u ⟨rfl, qu⟩; replace QU := hide ((unhide QU).trans qu); obtain ⟨a0, a1, a2, hbb⟩ := unhide HALL u (unhide QU); have d0 := hbb.cell 0 rfl; have d1 := hbb.cell 1 rfl; have d2 := hbb.cell 2 rfl; have f0 := hbb.frz 0; have f1 := hbb.frz 1; have f2 := hbb.frz 2; clear qu hbb)
      all_goals
        clear a0 a1 a2 d0 d1 d2 f0 f1 f2
        obtain ⟨_, _, _, hbb⟩ := unhide HALL u (unhide QU)
        have e0 := hbb.cell 0 rfl
        have e1 := hbb.cell 1 rfl
        have e2 := hbb.cell 2 rfl
        have f0 := hbb.frz 0
        have f1 := hbb.frz 1
        have f2 := hbb.frz 2
        obtain ⟨hb, fr⟩ := put3 hbb (.string x1) (.int .i64 r2) (.string x3)
        have HQU := hide ((unhide HQ2).trans (unhide QU))
        have HQ3 := hide (Below.trans (unhide HQU) (fr.below (unhide HQU).size (fun k hk => by omega)))
        have k0 := hb.cell 0 rfl
        have k1 := hb.cell 1 rfl
        have k2 := hb.cell 2 rfl
        clear fr hb hbb
        generalize ((u.setCell ⟨w.heap.size, 0, none⟩ (.string x1)).setCell ⟨w.heap.size, 1, none⟩ (.int .i64 r2)).setCell ⟨w.heap.size, 2, none⟩ (.string x3) = w3 at *
        go_wp2_with fail
        exact bodyPost_ret (v := .tuple #[.agg #[.string x1, .int .i64 r2, .string x3], .int .i64 0]) (by simp [results, Tryz.results28, go_sem, k0, k1, k2]) rfl ⟨rfl, unhide HQ3⟩

end Go.Proofs.YtgbegdgacjodcaaGreatDoor
