/- Several texts of mine in one: MfRdBuild, MfRdPool. -/
import Derived.Test.YtpddckgkaopnlaaGreatDoorBnMfOk
import Derived.Test.YtpddckgkaopnlaaGreatDoorMfEdgeGo
/- What package manifest's readBuild answers; the conditions: the reader lies in memory. -/
namespace Go.Proofs.YtpddckgkaopnlaaGreatDoor
open Go.RowKit

theorem clL_few : ∀ {xs ys : Ws}, clL xs = some ys → ∀ p ∈ ys, p.length ≤ 16
  | [], ys, h, p, hp => by simp [clL] at h; subst h; cases hp
  | x :: r, ys, h, p, hp => by
    unfold clL at h
    cases hx : cleanL x with
    | none => rw [hx] at h; cases h
    | some a =>
      cases hr : clL r with
      | none => rw [hx, hr] at h; cases h
      | some b =>
        rw [hx, hr] at h; simp at h; subst h
        rcases List.mem_cons.1 hp with rfl | hp
        · have := clean_le hx; omega
        · exact clL_few hr p hp

theorem edL_few {rs : List Rl} {l : Tx} {x : Ed × Rl} (h : edL rs l = some x) : Few x.1.1 ∧ Few x.1.2.1 ∧ Few x.1.2.2.1 ∧ Few x.1.2.2.2.1 ∧ x.2 ∈ rs := by
  unfold edL at h
  cases hb : bdR l with
  | none => rw [hb] at h; cases h
  | some b =>
    rw [hb] at h
    simp only at h
    cases hr : rlAt rs b.2.1 with
    | none => rw [hr] at h; cases h
    | some r =>
      rw [hr] at h
      simp only at h
      have fw : ∀ {a c : Ws}, Few a → clL a = some c → Few c := fun {a c} ha hc => ⟨by rw [clL_len hc]; exact ha.1, fun p hp => clL_few hc p hp⟩
      obtain ⟨fa, fb, fc, fd, _, _⟩ := bdR_few hb
      cases h1 : clL b.1 with
      | none => rw [h1] at h; cases h
      | some o =>
        cases h2 : clL b.2.2.1 with
        | none => rw [h1, h2] at h; cases h
        | some i =>
          cases h3 : clL b.2.2.2.1 with
          | none => rw [h1, h2, h3] at h; cases h
          | some m =>
            cases h4 : clL b.2.2.2.2 with
            | none => rw [h1, h2, h3, h4] at h; cases h
            | some d =>
              rw [h1, h2, h3, h4] at h
              cases h
              exact ⟨fw fa h1, fw fb h2, fw fc h3, fw fd h4, List.mem_of_find?_eq_some hr⟩

set_option maxHeartbeats 4000000 in
theorem readBuild_no (B R : Nat) (s : Sm) (A : Ad) (vT vV : Value) (n : ByteArray) (w : World) (h : Rd B w R s A vT vV) (hB : B ≤ w.heap.size) (ok : SmOk s) (hn : n.size ≤ 4096) (hx : edL s.rs (bl n) = none) :
    Calls Tryz.prog 35 #[.pointer (some ⟨R, 0, none⟩), .string n] w (LSays B R (buL s (bl n)) w) := by
  have hRs := h.blk.hi
  have HE := hide (fun w2 (q : Q w w2) => edgeOf_any R s.rs A.ro A.rc n w2 (Nat.lt_of_lt_of_le hRs q.size) (h.q q).cells.c3 (h.q q).ro.rowR (by have := ok.lr; omega) hn (fun r hr => (ok.rl r hr).2))
  rw [hx] at HE
  have HX : Hid (buL s (bl n) = .error 800) := by show _ = _; unfold buL; rw [hx]
  have HQB : Hid (∀ w', Q w w' → Below B w w') := fun w' q => q.mono hB
  clear h ok hx
  unfold EgSays at HE
  dsimp only at HE
  go_enter Tryz.func35, Tryz.ntmps35
  go_wp2_with fail
  refine (unhide HE _ ((Q.refl w).alloc _)).mono ?_
  rintro e w2 ⟨q2, rfl⟩
  go_wp2_with fail
  go_ret
  exact LSays.err HX.out (HQB.out _ (((((Q.refl w).alloc _).trans q2).alloc _).alloc _))

theorem EdR.set2 {w : World} {B R : Nat} {y : EdA} {cs : Array Value} (h : EdR w B y) (hb : Blk w R cs 49) (xT xV : Value) : EdR ((w.setCell ⟨R, 5, none⟩ xT).setCell ⟨R, 6, none⟩ xV) B y := by
  have h2 := h.fr (Fr.set w R 5 xT) (fun k hk e => h.blk hb (by decide) k hk e)
  exact h2.fr (Fr.set _ R 6 xV) (fun k hk e => h2.blk (hb.set 5 xT) (by decide) k hk e)
def wG (w : World) (y : EdA) (r : Rl) : World := (w.alloc (.cells (ev y).toArray 65)).alloc (.cells (rv r).toArray 109)
theorem wG_facts (w : World) (y : EdA) (r : Rl) : Blk (wG w y r) w.heap.size (ev y).toArray 65 ∧ Blk (wG w y r) (w.heap.size + 1) (rv r).toArray 109 ∧ Q w (wG w y r) ∧ (wG w y r).heap.size = w.heap.size + 2 := by
  refine ⟨(Blk.new w _ _).q ((Q.refl _).alloc _), ?_, ((Q.refl w).alloc _).alloc _, by unfold wG; simp⟩
  have := Blk.new (w.alloc (.cells (ev y).toArray 65)) (rv r).toArray 109
  rwa [size_alloc] at this

set_option maxHeartbeats 4000000 in
theorem readBuild_yes (B R : Nat) (s : Sm) (A : Ad) (vT vV : Value) (n : ByteArray) (w : World) (h : Rd B w R s A vT vV) (hB : B ≤ w.heap.size) (ok : SmOk s) (hn : n.size ≤ 4096) (x : Ed × Rl) (hx : edL s.rs (bl n) = some x) :
    Calls Tryz.prog 35 #[.pointer (some ⟨R, 0, none⟩), .string n] w (LSays B R (buL s (bl n)) w) := by
  have hRs := h.blk.hi
  have HE := hide (fun w2 (q : Q w w2) => edgeOf_any R s.rs A.ro A.rc n w2 (Nat.lt_of_lt_of_le hRs q.size) (h.q q).cells.c3 (h.q q).ro.rowR (by have := ok.lr; omega) hn (fun r hr => (ok.rl r hr).2))
  rw [hx] at HE
  have hle := ok.le
  have hel : A.es.length = s.es.length := by rw [← h.ro.em, List.length_map]
  obtain ⟨fa, fb, fc, fd, hrm⟩ := edL_few hx
  have HFW : Hid (Few x.1.1 ∧ Few x.1.2.1 ∧ x.2.2.1.length ≤ 4096) := ⟨fa, fb, (ok.rl _ hrm).1⟩
  have HQB : Hid (∀ w', Q w w' → Below B w w') := fun w' q => q.mono hB
  have HD := hide h
  have hRlo := h.lo
  have HOK := hide ok
  have HXX := hide hx
  clear h ok hx fa fb fc fd hrm
  unfold EgSays at HE
  dsimp only at HE
  go_enter Tryz.func35, Tryz.ntmps35
  go_wp2_with fail
  have hbx := Blk.new w #[.pointer (some ⟨R, 0, none⟩)] 40
  have qbx := (Q.refl w).alloc (.cells #[.pointer (some ⟨R, 0, none⟩)] 40)
  generalize hRB : w.heap.size = RB at hbx ⊢
  generalize w.alloc (.cells #[.pointer (some ⟨R, 0, none⟩)] 40) = w1 at *
  refine (unhide HE _ qbx).mono ?_
  rintro e w2 ⟨q2, y, hy, he, her, hnd⟩
  have HY := hide hy
  have HER := hide her
  have HND := hide hnd
  clear hy her hnd HE
  rw [show (ev y).toArray = #[.slice y.2.1.1 y.1.1.length y.2.1.2, .slice y.2.2.1.1 y.1.2.1.length y.2.2.1.2, .slice y.2.2.2.1.1 y.1.2.2.1.length y.2.2.2.1.2, .slice y.2.2.2.2.1 y.1.2.2.2.1.length y.2.2.2.2.2, .string ⟨y.1.2.2.2.2.1.toArray⟩, .bool y.1.2.2.2.2.2.1, .string ⟨y.1.2.2.2.2.2.2.toArray⟩] from rfl,
    show (rv x.2).toArray = #[.string ⟨x.2.1.toArray⟩, .string ⟨x.2.2.1.toArray⟩, .bool x.2.2.2.1, .string ⟨x.2.2.2.2.toArray⟩] from rfl] at he
  subst he
  go_upto_region 4 with fail
  obtain ⟨g1, g2, g3, g4⟩ := wG_facts w2 y x.2
  change Code.wp _ _ _ _ (wG w2 y x.2)
  generalize hG : w2.heap.size = G at g1 g2 g4 ⊢
  have hq2G : w.heap.size ≤ G := by rw [← hG]; exact Nat.le_trans qbx.size q2.size
  have hRBG : RB < G := by rw [← hG]; exact Nat.lt_of_lt_of_le hbx.hi q2.size
  have HER3 := hide ((unhide HER).fr (P := fun _ => False) (Fr.of_q g3) (fun _ _ h => h))
  have HMEM : Hid (∀ k ∈ edB y, w.heap.size ≤ k ∧ k < G) := fun k hk => by
    have := (unhide HER).lt k hk
    rw [hG] at this
    exact ⟨Nat.le_trans qbx.size this.1, this.2⟩
  have HLOW := hide (Nat.le_trans hB qbx.size)
  generalize wG w2 y x.2 = w3 at *
  have q3 := (qbx.trans q2).trans g3
  have hb3 := (hbx.q q2).q g3
  have b3 : w3.cell? ⟨RB, 0, none⟩ = some (.pointer (some ⟨R, 0, none⟩)) := hb3.cell 0 rfl
  have hD3 := (unhide HD).q q3
  have c0 := hD3.cells.c0
  have HB3 := hide hb3
  have HD3 := hide hD3
  have HG1 := hide g1
  have HG2 := hide g2
  have HG4 := hide g4
  have HEL := hide hel
  clear hb3 hD3 g1 g2 g3 g4 hbx q2 qbx hG hel
  by_cases h16 : A.es.length = 16
  · have HX : Hid (buL s (bl n) = .error 801) := by show _ = _; unfold buL; rw [unhide HXX]; simp only; rw [if_pos (by rw [← unhide HEL]; exact h16)]
    have g16 : ((A.es.length : Int) == 16) = true := by simp; omega
    clear h16
    go_wp2_with fail
    go_ret
    exact LSays.err HX.out (HQB.out _ q3)
  · have HX : Hid (buL s (bl n) = .ok (s.wU (some (.inr (.inr (x.1, x.2, [])))))) := by show _ = _; unfold buL; rw [unhide HXX]; simp only; rw [if_neg (by rw [← unhide HEL]; exact h16)]; rfl
    have g16 : ((A.es.length : Int) == 16) = false := by simp; omega
    have H16 : Hid (s.es.length < 16) := by show _ < _; have := unhide HEL; omega
    clear h16
    go_upto_region 7 with fail
    have hO := Blk.new w3 #[.slice none 0 0] 47
    have qO := (Q.refl w3).alloc (.cells #[.slice none 0 0] 47)
    generalize hOn : w3.heap.size = O at hO ⊢
    obtain rfl : O = G + 2 := by rw [← hOn]; exact unhide HG4
    clear hOn
    generalize w3.alloc (.cells #[.slice none 0 0] 47) = w4 at *
    have HBB := hide ((unhide HB3).q qO)
    have b4 : w4.cell? ⟨RB, 0, none⟩ = some (.pointer (some ⟨R, 0, none⟩)) := (unhide HBB).cell 0 rfl
    have q4 := q3.trans qO
    have hRd := (unhide HD3).q qO
    obtain ⟨d0, d1, d2, d3, d4, d5, d6, frz⟩ := hRd.cells
    have f5 := frz 5
    have f6 := frz 6
    have HRd := hide hRd
    have HO4 := hide hO
    have HG14 := hide ((unhide HG1).q qO)
    have HG24 := hide ((unhide HG2).q qO)
    have HER4 := hide ((unhide HER3).fr (P := fun _ => False) (Fr.of_q qO) (fun _ _ h => h))
    have HEG : Hid (∀ k, A.vE.ownBlock = some k → k ≠ G) := fun k hk => by have := ((unhide HD).ro.e.lt k hk).2; omega
    have HRK : Hid (∀ k ∈ adB A s, k < w.heap.size) := fun k hk => ((unhide HD).ro.mem k hk).2
    have HNA := hide (unhide HD).ro.nd
    clear d0 d1 d2 d3 d4 frz hRd b3 c0 hO qO q3
    go_wp2_with fail
    go_ret
    obtain ⟨fa, fb, fl⟩ := HFW.out
    refine LSays.ok HX.out (set2_below (HQB.out _ q4) hRlo _ _) ⟨(unhide HOK).wU ⟨H16.out, fa, fb, fl, rfl⟩, A, _, _, (unhide HRd).under _ _ _, ?_⟩
    have hGR : G ≠ R := by omega
    have hG1R : G + 1 ≠ R := by omega
    have hOR : G + 2 ≠ R := by omega
    have hRBR : RB ≠ R := by omega
    refine ⟨G, G + 1, G + 2, RB, y, none, 0, rfl, rfl, unhide HY, (unhide HG14).set2 hGR _ _, (unhide HG24).set2 hG1R _ _, (unhide HO4).set2 hOR _ _, (unhide HBB).set2 hRBR _ _, World.ownsRow_nil _ _ _ _, ?_, ?_, by omega, by omega, HEG.out⟩
    · exact ((unhide HER4).low (unhide HLOW)).set2 (unhide HRd).blk _ _
    · refine List.nodup_append.2 ⟨unhide HNA, unhide HND, ?_⟩
      intro a ha b hb e
      subst e
      have h1 := HRK.out a ha
      have h2 := (HMEM.out a hb).1
      omega

theorem readBuild_any (B R : Nat) (s : Sm) (A : Ad) (vT vV : Value) (n : ByteArray) (w : World) (h : Rd B w R s A vT vV) (hB : B ≤ w.heap.size) (ok : SmOk s) (hn : n.size ≤ 4096) :
    Calls Tryz.prog 35 #[.pointer (some ⟨R, 0, none⟩), .string n] w (LSays B R (buL s (bl n)) w) := by
  cases hx : edL s.rs (bl n) with
  | none => exact readBuild_no B R s A vT vV n w h hB ok hn hx
  | some x => exact readBuild_yes B R s A vT vV n w h hB ok hn x hx

end Go.Proofs.YtpddckgkaopnlaaGreatDoor

/- What package manifest's readPool answers; the conditions: the reader lies in memory. -/
namespace Go.Proofs.YtpddckgkaopnlaaGreatDoor
open Go.RowKit

set_option maxHeartbeats 4000000 in
theorem readPool_any (B R : Nat) (s : Sm) (A : Ad) (vT vV : Value) (n : ByteArray) (w : World) (h : Rd B w R s A vT vV) (hB : B ≤ w.heap.size) (ok : SmOk s) (hn : n.size ≤ 4096) :
    Calls Tryz.prog 34 #[.pointer (some ⟨R, 0, none⟩), .string n] w (LSays B R (poL s (bl n)) w) := by
  have HM := hide (fun w2 => may_any n w2 (by unfold maxLen; omega))
  have HLR := hide ok.lp
  have HD := hide h
  have hRs := h.blk.hi
  have HRA := hide (fun w2 (q : Q w w2) => hasPool_any s.ps n A.po A.pc w2 (h.q q).ro.rowP (by have := ok.lp; omega))
  have HOK := hide ok
  have hRlo := h.lo
  have HQB : Hid (∀ w', Q w w' → Below B w w') := fun w' q => q.mono hB
  clear h ok
  cases hm : mayB n
  · have HX : Hid (poL s (bl n) = .error 800) := by show _ = _; unfold poL; rw [if_pos (Or.inl (by rw [← mayB_bl]; exact hm))]
    rw [hm] at HM
    clear hm HRA
    go_enter Tryz.func34, Tryz.ntmps34
    go_wp2_with fail
    refine (unhide HM _).mono ?_
    rintro e w2 ⟨rfl, q2⟩
    go_wp2_with fail
    go_ret
    exact LSays.err HX.out (HQB.out _ (((Q.refl w).alloc _).trans q2))
  · rw [hm] at HM
    cases hr : plHas s.ps (bl n) with
    | true =>
      have HX : Hid (poL s (bl n) = .error 800) := by show _ = _; unfold poL; rw [if_pos (Or.inr hr)]
      rw [hr] at HRA
      clear hm hr
      go_enter Tryz.func34, Tryz.ntmps34
      go_wp2_with fail
      have hbx := Blk.new w #[.pointer (some ⟨R, 0, none⟩)] 40
      have qbx := (Q.refl w).alloc (.cells #[.pointer (some ⟨R, 0, none⟩)] 40)
      generalize w.alloc (.cells #[.pointer (some ⟨R, 0, none⟩)] 40) = w1 at *
      refine (unhide HM _).mono ?_
      rintro e w2 ⟨rfl, q2⟩
      have b2 : w2.cell? ⟨w.heap.size, 0, none⟩ = some (.pointer (some ⟨R, 0, none⟩)) := (hbx.q q2).cell 0 rfl
      have cc := ((unhide HD).q (qbx.trans q2)).cells.c1
      go_wp2_with fail
      refine (unhide HRA _ (qbx.trans q2)).mono ?_
      rintro e w3 ⟨rfl, q3⟩
      go_wp2_with fail
      go_ret
      exact LSays.err HX.out (HQB.out _ ((qbx.trans q2).trans q3))
    | false =>
      rw [hr] at HRA
      by_cases hl4 : s.ps.length = 4
      · have HX : Hid (poL s (bl n) = .error 801) := by
          show _ = _; unfold poL
          rw [if_neg (by rw [← mayB_bl, hm, hr]; simp), if_pos hl4]
        have hl4' : ((s.ps.length : Int) == 4) = true := by simp; omega
        clear hm hr hl4
        go_enter Tryz.func34, Tryz.ntmps34
        go_wp2_with fail
        have hbx := Blk.new w #[.pointer (some ⟨R, 0, none⟩)] 40
        have qbx := (Q.refl w).alloc (.cells #[.pointer (some ⟨R, 0, none⟩)] 40)
        generalize w.alloc (.cells #[.pointer (some ⟨R, 0, none⟩)] 40) = w1 at *
        refine (unhide HM _).mono ?_
        rintro e w2 ⟨rfl, q2⟩
        have b2 : w2.cell? ⟨w.heap.size, 0, none⟩ = some (.pointer (some ⟨R, 0, none⟩)) := (hbx.q q2).cell 0 rfl
        have cc := ((unhide HD).q (qbx.trans q2)).cells.c1
        go_wp2_with fail
        refine (unhide HRA _ (qbx.trans q2)).mono ?_
        rintro e w3 ⟨rfl, q3⟩
        have b3 : w3.cell? ⟨w.heap.size, 0, none⟩ = some (.pointer (some ⟨R, 0, none⟩)) := ((hbx.q q2).q q3).cell 0 rfl
        have q13 := (qbx.trans q2).trans q3
        have c1 := ((unhide HD).q q13).cells.c1
        clear hbx b2 cc
        go_wp2_with fail
        go_ret
        exact LSays.err HX.out (HQB.out _ q13)
      · have HX : Hid (poL s (bl n) = .ok (s.wU (some (.inr (.inl (bl n, 0)))))) := by
          show _ = _; unfold poL
          rw [if_neg (by rw [← mayB_bl, hm, hr]; simp), if_neg hl4]; rfl
        have hl4' : ((s.ps.length : Int) == 4) = false := by simp; omega
        have HL8 : Hid (s.ps.length < 4) := by show _ < _; have := unhide HLR; omega
        clear hm hr hl4
        go_enter Tryz.func34, Tryz.ntmps34
        go_wp2_with fail
        have hbx := Blk.new w #[.pointer (some ⟨R, 0, none⟩)] 40
        have qbx := (Q.refl w).alloc (.cells #[.pointer (some ⟨R, 0, none⟩)] 40)
        generalize w.alloc (.cells #[.pointer (some ⟨R, 0, none⟩)] 40) = w1 at *
        refine (unhide HM _).mono ?_
        rintro e w2 ⟨rfl, q2⟩
        have b2 : w2.cell? ⟨w.heap.size, 0, none⟩ = some (.pointer (some ⟨R, 0, none⟩)) := (hbx.q q2).cell 0 rfl
        have cc := ((unhide HD).q (qbx.trans q2)).cells.c1
        go_wp2_with fail
        refine (unhide HRA _ (qbx.trans q2)).mono ?_
        rintro e w3 ⟨rfl, q3⟩
        have hb3 := (hbx.q q2).q q3
        have b3 : w3.cell? ⟨w.heap.size, 0, none⟩ = some (.pointer (some ⟨R, 0, none⟩)) := hb3.cell 0 rfl
        have q13 := (qbx.trans q2).trans q3
        have c1 := ((unhide HD).q q13).cells.c1
        have HB3 := hide hb3
        clear hbx b2 cc qbx q2 q3 hb3
        go_upto_region 6 with fail
        have hbM := Blk.new w3 #[.string n, .int .i64 0] 73
        have q3M := (Q.refl w3).alloc (.cells #[.string n, .int .i64 0] 73)
        have hlo : w.heap.size ≤ w3.heap.size := q13.size
        generalize hM : w3.heap.size = M at hbM ⊢
        generalize w3.alloc (.cells #[.string n, .int .i64 0] 73) = w4 at *
        have HBB := hide ((unhide HB3).q q3M)
        have b4 : w4.cell? ⟨w.heap.size, 0, none⟩ = some (.pointer (some ⟨R, 0, none⟩)) := (unhide HBB).cell 0 rfl
        have q14 := q13.trans q3M
        have hRd := (unhide HD).q q14
        obtain ⟨c0, c1', c2, c3, c4, c5, c6, frz⟩ := hRd.cells
        have f5 := frz 5
        have f6 := frz 6
        have HRd := hide hRd
        have HbM := hide hbM
        have HRM : Hid (∀ k, (A.vP s).ownBlock = some k → k ≠ M) := fun k hk => by have := (((unhide HD).q q13).ro.p.lt k hk).2; omega
        clear c0 c1 c1' c2 c3 c4 frz hRd hbM b3 q3M
        go_wp2_with fail

        go_ret
        refine LSays.ok HX.out (set2_below (HQB.out _ q14) hRlo _ _) ⟨(unhide HOK).wU HL8.out, A, _, _, (unhide HRd).under _ _ _, ?_⟩
        refine ⟨M, w.heap.size, rfl, rfl, ?_, ?_, by omega, HRM.out⟩
        · have := (unhide HbM).set2 (R := R) (by omega) (.func (.func 76) #[] #[.pointer (some ⟨M, 0, none⟩)]) (.func (.func 78) #[] #[.pointer (some ⟨M, 0, none⟩), .pointer (some ⟨w.heap.size, 0, none⟩)])
          simpa [plv, mk_bl] using this
        · exact (unhide HBB).set2 (by omega) _ _

end Go.Proofs.YtpddckgkaopnlaaGreatDoor
