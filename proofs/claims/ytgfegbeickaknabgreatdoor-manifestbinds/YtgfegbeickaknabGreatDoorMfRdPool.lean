/- What package manifest's readPool answers; the conditions: the reader lies in memory. -/
import Derived.Test.YtgfegbeickaknabGreatDoorMfOk
namespace Go.Proofs.YtgfegbeickaknabGreatDoor
open Go.RowKit

set_option maxHeartbeats 4000000 in
theorem readPool_any (B R : Nat) (s : Sm) (A : Ad) (vT vV : Value) (n : ByteArray) (w : World) (h : Rd B w R s A vT vV) (hB : B ≤ w.heap.size) (ok : SmOk s) (hn : n.size ≤ 4096) :
    Calls Tryz.prog 25 #[.pointer (some ⟨R, 0, none⟩), .string n] w (LSays B R (poL s (bl n)) w) := by
  have HM := hide (fun w2 => may_any n w2 (by unfold maxLen; omega))
  have HLR := hide ok.lp
  have HD := hide h
  have hRs := h.blk.hi
  have HRA := hide (fun w2 (q : Q w w2) => hasPool_any s.ps n A.po A.pc w2 (h.q q).ro.rowP (by have := ok.lp; omega))
  have HOK := hide ok
  have hRlo := h.lo
  have HQB : Hid (∀ w', Q w w' → Below B w w') := fun w' q => q.mono hB
  clear h ok
  cases hm : mayB n
  · have HX : Hid (poL s (bl n) = .error 800) := by show _ = _; unfold poL; rw [if_pos (Or.inl (by rw [← mayB_bl]; exact hm))]
    rw [hm] at HM
    clear hm HRA
    go_enter Tryz.func25, Tryz.ntmps25
    go_wp2_with fail
    refine (unhide HM _).mono ?_
    rintro e w2 ⟨rfl, q2⟩
    go_wp2_with fail
    go_ret
    exact LSays.err HX.out (HQB.out _ (((Q.refl w).alloc _).trans q2))
  · rw [hm] at HM
    cases hr : plHas s.ps (bl n) with
    | true =>
      have HX : Hid (poL s (bl n) = .error 800) := by show _ = _; unfold poL; rw [if_pos (Or.inr hr)]
      rw [hr] at HRA
      clear hm hr
      go_enter Tryz.func25, Tryz.ntmps25
      go_wp2_with fail
      have hbx := Blk.new w #[.pointer (some ⟨R, 0, none⟩)] 45
      have qbx := (Q.refl w).alloc (.cells #[.pointer (some ⟨R, 0, none⟩)] 45)
      generalize w.alloc (.cells #[.pointer (some ⟨R, 0, none⟩)] 45) = w1 at *
      refine (unhide HM _).mono ?_
      rintro e w2 ⟨rfl, q2⟩
      have b2 : w2.cell? ⟨w.heap.size, 0, none⟩ = some (.pointer (some ⟨R, 0, none⟩)) := (hbx.q q2).cell 0 rfl
      have cc := ((unhide HD).q (qbx.trans q2)).cells.c1
      go_wp2_with fail
      refine (unhide HRA _ (qbx.trans q2)).mono ?_
      rintro e w3 ⟨rfl, q3⟩
      go_wp2_with fail
      go_ret
      exact LSays.err HX.out (HQB.out _ ((qbx.trans q2).trans q3))
    | false =>
      rw [hr] at HRA
      by_cases hl4 : s.ps.length = 4
      · have HX : Hid (poL s (bl n) = .error 801) := by
          show _ = _; unfold poL
          rw [if_neg (by rw [← mayB_bl, hm, hr]; simp), if_pos hl4]
        have hl4' : ((s.ps.length : Int) == 4) = true := by simp; omega
        clear hm hr hl4
        go_enter Tryz.func25, Tryz.ntmps25
        go_wp2_with fail
        have hbx := Blk.new w #[.pointer (some ⟨R, 0, none⟩)] 45
        have qbx := (Q.refl w).alloc (.cells #[.pointer (some ⟨R, 0, none⟩)] 45)
        generalize w.alloc (.cells #[.pointer (some ⟨R, 0, none⟩)] 45) = w1 at *
        refine (unhide HM _).mono ?_
        rintro e w2 ⟨rfl, q2⟩
        have b2 : w2.cell? ⟨w.heap.size, 0, none⟩ = some (.pointer (some ⟨R, 0, none⟩)) := (hbx.q q2).cell 0 rfl
        have cc := ((unhide HD).q (qbx.trans q2)).cells.c1
        go_wp2_with fail
        refine (unhide HRA _ (qbx.trans q2)).mono ?_
        rintro e w3 ⟨rfl, q3⟩
        have b3 : w3.cell? ⟨w.heap.size, 0, none⟩ = some (.pointer (some ⟨R, 0, none⟩)) := ((hbx.q q2).q q3).cell 0 rfl
        have q13 := (qbx.trans q2).trans q3
        have c1 := ((unhide HD).q q13).cells.c1
        clear hbx b2 cc
        go_wp2_with fail
        go_ret
        exact LSays.err HX.out (HQB.out _ q13)
      · have HX : Hid (poL s (bl n) = .ok (s.wU (some (.inr (.inl (bl n, 0)))))) := by
          show _ = _; unfold poL
          rw [if_neg (by rw [← mayB_bl, hm, hr]; simp), if_neg hl4]; rfl
        have hl4' : ((s.ps.length : Int) == 4) = false := by simp; omega
        have HL8 : Hid (s.ps.length < 4) := by show _ < _; have := unhide HLR; omega
        clear hm hr hl4
        go_enter Tryz.func25, Tryz.ntmps25
        go_wp2_with fail
        have hbx := Blk.new w #[.pointer (some ⟨R, 0, none⟩)] 45
        have qbx := (Q.refl w).alloc (.cells #[.pointer (some ⟨R, 0, none⟩)] 45)
        generalize w.alloc (.cells #[.pointer (some ⟨R, 0, none⟩)] 45) = w1 at *
        refine (unhide HM _).mono ?_
        rintro e w2 ⟨rfl, q2⟩
        have b2 : w2.cell? ⟨w.heap.size, 0, none⟩ = some (.pointer (some ⟨R, 0, none⟩)) := (hbx.q q2).cell 0 rfl
        have cc := ((unhide HD).q (qbx.trans q2)).cells.c1
        go_wp2_with fail
        refine (unhide HRA _ (qbx.trans q2)).mono ?_
        rintro e w3 ⟨rfl, q3⟩
        have hb3 := (hbx.q q2).q q3
        have b3 : w3.cell? ⟨w.heap.size, 0, none⟩ = some (.pointer (some ⟨R, 0, none⟩)) := hb3.cell 0 rfl
        have q13 := (qbx.trans q2).trans q3
        have c1 := ((unhide HD).q q13).cells.c1
        have HB3 := hide hb3
        clear hbx b2 cc qbx q2 q3 hb3
        go_upto_region 6 with fail
        have hbM := Blk.new w3 #[.string n, .int .i64 0] 40
        have q3M := (Q.refl w3).alloc (.cells #[.string n, .int .i64 0] 40)
        have hlo : w.heap.size ≤ w3.heap.size := q13.size
        generalize hM : w3.heap.size = M at hbM ⊢
        generalize w3.alloc (.cells #[.string n, .int .i64 0] 40) = w4 at *
        have HBB := hide ((unhide HB3).q q3M)
        have b4 : w4.cell? ⟨w.heap.size, 0, none⟩ = some (.pointer (some ⟨R, 0, none⟩)) := (unhide HBB).cell 0 rfl
        have q14 := q13.trans q3M
        have hRd := (unhide HD).q q14
        obtain ⟨c0, c1', c2, c3, c4, c5, c6, frz⟩ := hRd.cells
        have f5 := frz 5
        have f6 := frz 6
        have HRd := hide hRd
        have HbM := hide hbM
        have HRM : Hid (∀ k, (A.vP s).ownBlock = some k → k ≠ M) := fun k hk => by have := (((unhide HD).q q13).ro.p.lt k hk).2; omega
        clear c0 c1 c1' c2 c3 c4 frz hRd hbM b3 q3M
        go_wp2_with fail

        go_ret
        refine LSays.ok HX.out (set2_below (HQB.out _ q14) hRlo _ _) ⟨(unhide HOK).wU HL8.out, A, _, _, (unhide HRd).under _ _ _, ?_⟩
        refine ⟨M, w.heap.size, rfl, rfl, ?_, ?_, by omega, HRM.out⟩
        · have := (unhide HbM).set2 (R := R) (by omega) (.func (.func 50) #[] #[.pointer (some ⟨M, 0, none⟩)]) (.func (.func 52) #[] #[.pointer (some ⟨M, 0, none⟩), .pointer (some ⟨w.heap.size, 0, none⟩)])
          simpa [plv, mk_bl] using this
        · exact (unhide HBB).set2 (by omega) _ _

end Go.Proofs.YtgfegbeickaknabGreatDoor
