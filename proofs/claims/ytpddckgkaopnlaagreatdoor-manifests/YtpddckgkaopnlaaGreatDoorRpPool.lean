/- The document's own parser: a line that begins with a pool's word; the conditions: the parser lies in memory. -/
import Derived.Test.YtpddckgkaopnlaaGreatDoorRpRule
namespace Go.Proofs.YtpddckgkaopnlaaGreatDoor
open Go.RowKit

theorem fw_pool {s : Sm} {l : Tx} (h : (hdL l).1 = kPool) : fwL s l = poL s (trL (hdL l).2) := by unfold fwL; rw [h, if_neg (by decide), if_pos rfl]
theorem po_form {s : Sm} {n : Tx} (h : mayL n = false) : poL s n = .error 800 := by unfold poL; rw [if_pos (Or.inl h)]
theorem po_found {s : Sm} {n : Tx} (h : plHas s.ps n = true) : poL s n = .error 800 := by unfold poL; rw [if_pos (Or.inr h)]
theorem po_full {s : Sm} {n : Tx} (h1 : mayL n = true) (h2 : plHas s.ps n = false) (h4 : s.ps.length = 4) : poL s n = .error 801 := by
  unfold poL; rw [if_neg (by rw [h1, h2]; simp), if_pos h4]
theorem po_ok {s : Sm} {n : Tx} (h1 : mayL n = true) (h2 : plHas s.ps n = false) (h4 : s.ps.length ≠ 4) : poL s n = .ok (s.wU (some (.inr (.inl (n, 0))))) := by
  unfold poL; rw [if_neg (by rw [h1, h2]; simp), if_neg h4]; rfl

/-- A pool is under way. -/
theorem pool_rs {B P : Nat} {w3 w5 : World} {s : Sm} {ps : List Pl} {A : RpA} {b0 b1 b2 b3 b4 vo : Value} {n : Tx} {ao' : Option Addr} {cap' : Nat} (h : Rp B w3 P s ps A 0 b0 b1 b2 b3 b4 vo) (hps : ps = s.ps) (hrs : A.rs.map Prod.fst = s.rs) (hg : Fr (fun k => (Value.slice A.po ps.length A.pc).ownBlock = some k) w3 w5)
    (ho : w5.ownsRow B 73 2 (.slice ao' (ps.length + 1) cap') (ps.length + 1) (lay plv ps ++ plv (n, 0))) (ok : SmOk (s.wU (some (.inr (.inl (n, 0)))))) (hm : SmMay (s.wU (some (.inr (.inl (n, 0)))))) :
    RS B ((w5.setCell ⟨P, 1, none⟩ (.slice ao' (ps.length + 1) cap')).setCell ⟨P, 5, none⟩ (.int .i64 2)) P (s.wU (some (.inr (.inl (n, 0))))) := by
  have hb5 : Blk w5 P (rpC A s ps 0 b0 b1 b2 b3 b4 vo) 60 := h.blk.fr hg (fun hk => h.blk.row h.ro.p (by decide) P hk rfl)
  have hf : Fr (fun k => k = P ∨ (Value.slice A.po ps.length A.pc).ownBlock = some k) w3 ((w5.setCell ⟨P, 1, none⟩ (.slice ao' (ps.length + 1) cap')).setCell ⟨P, 5, none⟩ (.int .i64 2)) :=
    ((hg.mono (fun k hk => Or.inr hk)).trans ((Fr.set _ P 1 _).mono (fun k hk => Or.inl hk))).trans ((Fr.set _ P 5 _).mono (fun k hk => Or.inl hk))
  have hb6 := hb5.set 1 (.slice ao' (ps.length + 1) cap')
  have hb7 := hb6.set 5 (.int .i64 2)
  have ho7 := own_setP (own_setP ho hb5 (by decide) 1 (.slice ao' (ps.length + 1) cap')) hb6 (by decide) 5 (.int .i64 2)
  refine ⟨ok, hm, ps ++ [(n, 0)], ⟨A.es, A.eo, A.ec, ao', cap', A.dd, A.dc, A.rs, A.ro, A.rc, A.oo, A.oc⟩, 2, b0, b1, b2, b3, b4, vo, ⟨?_, h.lo, ?_⟩, ?_⟩
  · unfold rpC
    dsimp only
    rw [List.length_append]
    exact hb7
  · refine ⟨own_fr h.ro.e hf (fr_no h.blk h.ro.p h.ro.e (by decide) (by decide)), h.ro.em, ?_, own_fr h.ro.d hf (fr_no h.blk h.ro.p h.ro.d (by decide) (by decide)), own_fr h.ro.r hf (fr_no h.blk h.ro.p h.ro.r (by decide) (by decide)), own_fr h.ro.o hf (fr_no h.blk h.ro.p h.ro.o (by decide) (by decide)), fun x hx => (h.ro.q x hx).fr hf (fr_noE h.blk h.ro.p (h.ro.q x hx) (by decide)), h.ro.nd⟩
    show World.ownsRow _ _ _ _ (.slice _ (ps ++ [(n, 0)]).length _) (ps ++ [(n, 0)]).length (lay plv (ps ++ [(n, 0)]))
    rw [lay_snoc, List.length_append]
    exact ho7
  · exact ⟨rfl, by rw [hps]; rfl, hrs⟩

set_option maxRecDepth 20000 in
set_option maxHeartbeats 8000000 in
theorem rflat_pool (B P : Nat) (s : Sm) (ps : List Pl) (A : RpA) (b0 b1 b2 b3 b4 vo : Value) (l : ByteArray) (w : World) (h : Rp B w P s ps A 0 b0 b1 b2 b3 b4 vo) (hps : ps = s.ps) (hrs : A.rs.map Prod.fst = s.rs) (ok : SmOk s) (hm : SmMay s) (hB : B ≤ w.heap.size) (hl : l.size ≤ 2049) (hk : (hdL (bl l)).1 = kPool) :
    Calls Tryz.prog 16 #[.pointer (some ⟨P, 0, none⟩), .string l] w (RL B P (fwL s (bl l)) w) := by
  obtain ⟨i0, hi, hz0, hz1, hz2⟩ := info_parts Tryz.infoPl
  have HH := hide (head_any l w (by unfold maxLen; omega))
  have hr1 : (hdL (bl l)).2.length ≤ 2049 := by have := (@hd_len (bl l)).2; rw [bl_size] at this; omega
  have HW := hide (fun w2 => rwords_any ⟨(hdL (bl l)).2.toArray⟩ w2 (by rw [← bl_size]; show (hdL (bl l)).2.length ≤ _; omega))
  rw [show bl ⟨(hdL (bl l)).2.toArray⟩ = (hdL (bl l)).2 from rfl] at HW
  have g0 : (⟨(hdL (bl l)).1.toArray⟩ : ByteArray).toList == [112, 111, 111, 108] := is_key hk
  have HFW : Hid (fwL s (bl l) = poL s (trL (hdL (bl l)).2)) := fw_pool hk
  have hlr : ps.length = s.ps.length := by rw [hps]
  have hlA : ps.length ≤ 4 := by have := ok.lp; omega
  have HLR := hide hlr
  have HPS := hide hps
  clear hlr hps
  rw [HFW.out]
  clear hk HFW
  generalize (hdL (bl l)).2 = rest at *
  generalize (⟨(hdL (bl l)).1.toArray⟩ : ByteArray) = wd at *
  have g0' : (wd.toList == [112, 111, 111, 108]) = true := g0
  have g0n : (wd.toList == [114, 117, 108, 101]) = false := by
    cases hx : (wd.toList == [114, 117, 108, 101]) with
    | false => rfl
    | true =>
      have e1 := eq_of_beq g0'
      have e2 := eq_of_beq hx
      rw [e1] at e2; simp at e2
  have HP := hide h
  have HBW : Hid (∀ w', Q w w' → Below B w w') := fun w' q => q.mono hB
  clear g0 h
  generalize hRES : poL s (trL rest) = RES
  have HRES := hide hRES
  clear hRES
  go_enter Tryz.func16, Tryz.ntmps16
  go_wp2_with fail
  refine (unhide HH).mono ?_
  rintro e w1 ⟨rfl, q1⟩
  go_wp2_with fail
  refine (unhide HW w1).mono ?_
  rintro e w2 ⟨ao, cap, rfl, hown, hwl, q2⟩
  have qw := q1.trans q2
  have HRW := hide (show RowT w2 ao (wdL rest) from OwnT.row hown)
  clear hown q1 q2 HH HW
  go_upto_region 6 with fail
  by_cases h1 : (wdL rest).length = 1
  case neg =>
    have HX : Hid (RES = .error 800) := by
      rw [← unhide HRES]
      exact po_form (no_wd (fun n hn => absurd (by rw [hn]; rfl) h1))
    have hg : (((wdL rest).length : Int) != 1) = true := by simp; omega
    have hg' : (((wdL rest).length : Int) == 1) = false := by simp; omega
    clear h1
    have hne := Aft.ne w2
    refine wp_region_aft (by kernel_rfl) (by kernel_rfl) ?_
    repeat (go_big_quiet_step (fail))
    refine wpQuiet_nil ?_
    intro _ hw'
    obtain ⟨u, hw''⟩ := hw'
    subst hw''
    have qu := qw.trans u.q
    generalize u.to = w3 at qu ⊢
    clear hne
    go_wp2_with fail
    go_ret
    exact RL.err HX.out (HBW.out _ qu)
  case pos =>
    obtain ⟨n, hn⟩ : ∃ n, wdL rest = [n] := by
      match hwd : wdL rest, h1 with
      | [n], _ => exact ⟨n, rfl⟩
    have htr := wd_one hn
    rcases (unhide HRW) with he | ⟨gg, oo, rfl, hcg, hcc⟩
    · rw [hn] at he; cases he
    rw [hn] at hcc
    have c0 : ∀ u : Aft w2, u.to.cell? ⟨gg, oo, none⟩ = some (.string ⟨n.toArray⟩) := Aft.cell (by have := hcc 0 0 n _ rfl (by decide) rfl; simpa using this) hcg
    have hne := Aft.ne w2
    have hnl : n.length ≤ 2049 := by
      rw [← htr]
      exact Nat.le_trans (trL_sub rest).length_le hr1
    have hnz : (⟨n.toArray⟩ : ByteArray).size ≤ maxLen := by rw [← bl_size]; show n.length ≤ maxLen; unfold maxLen; omega
    have HC1 : Hid (∀ u : Aft w2, Calls Tryz.prog 51 #[.string ⟨n.toArray⟩] u.to fun e w' => e = .returned (.bool (mayL n)) ∧ Q u.to w') := by
      intro u
      have := nameMay_any ⟨n.toArray⟩ u.to hnz
      rw [mayB_mayL] at this
      exact this.mono (fun e w' ⟨h1, h2⟩ => ⟨h1, h2 ▸ Q.refl _⟩)
    have HC2 : Hid (∀ u : Aft w2, Calls Tryz.prog 47 #[.slice A.po ps.length A.pc, .string ⟨n.toArray⟩] u.to fun e w' => e = .returned (.int .i64 (ixB (fun r : Pl => r.1 == n) ps)) ∧ Q u.to w') := by
      intro u
      have hh := (unhide HP).q (qw.trans u.q)
      exact (poolAt_any ps ⟨n.toArray⟩ A.po A.pc u.to (OwnPl.row hh.ro.p) (by omega)).mono (fun e w' ⟨h1, h2⟩ => ⟨h1, h2 ▸ Q.refl _⟩)
    have y1 : ∀ u : Aft w2, u.to.cell? ⟨P, 1, none⟩ = some (.slice A.po ps.length A.pc) := fun u => ((unhide HP).q (qw.trans u.q)).cells.c1
    have HRX := hide htr
    rw [hn]
    clear hcc htr h1 hnz
    have hl1 : ([n] : List Tx).length = 1 := rfl
    rw [hl1]
    cases hmay : mayL n with
    | false =>
      have HX : Hid (RES = .error 800) := by
        rw [← unhide HRES, unhide HRX]
        exact po_form hmay
      rw [hmay] at HC1
      clear hmay HC2
      generalize (⟨n.toArray⟩ : ByteArray) = nB at *
      refine wp_region_aft (by kernel_rfl) (by kernel_rfl) ?_
      repeat (go_big_quiet_step ((go_at_call 51; exact Calls.aft (unhide HC1 _))))
      refine wpQuiet_nil ?_
      intro _ hw'
      obtain ⟨u, hw''⟩ := hw'
      subst hw''
      have qu := qw.trans u.q
      generalize u.to = w3 at qu ⊢
      clear hne c0
      go_wp2_with fail
      go_ret
      exact RL.err HX.out (HBW.out _ qu)
    | true =>
      rw [hmay] at HC1
      cases hfd : plHas ps n with
      | true =>
        have HX : Hid (RES = .error 800) := by
          rw [← unhide HRES, unhide HRX]
          exact po_found (by rw [← unhide HPS]; exact hfd)
        have hge : decide (0 ≤ ixB (fun r : Pl => r.1 == n) ps) = true := by rw [ixB_dec]; exact hfd
        clear hmay hfd
        generalize (⟨n.toArray⟩ : ByteArray) = nB at *
        generalize ixB (fun r : Pl => r.1 == n) ps = ix at *
        refine wp_region_aft (by kernel_rfl) (by kernel_rfl) ?_
        repeat (go_big_quiet_step (first | (go_at_call 51; exact Calls.aft (unhide HC1 _)) | (go_at_call 47; exact Calls.aft (unhide HC2 _))))
        refine wpQuiet_nil ?_
        intro _ hw'
        obtain ⟨u, hw''⟩ := hw'
        subst hw''
        have qu := qw.trans u.q
        generalize u.to = w3 at qu ⊢
        clear hne c0
        go_wp2_with fail
        go_ret
        exact RL.err HX.out (HBW.out _ qu)
      | false =>
        have hge : decide (0 ≤ ixB (fun r : Pl => r.1 == n) ps) = false := by rw [ixB_dec]; exact hfd
        have HFD : Hid (plHas s.ps n = false) := by rw [← unhide HPS]; exact hfd
        have HMAY := hide hmay
        clear hmay hfd
        generalize hnB : (⟨n.toArray⟩ : ByteArray) = nB at *
        have HNB := hide hnB
        clear hnB
        generalize ixB (fun r : Pl => r.1 == n) ps = ix at *
        have HC0 := hide c0
        refine wp_region_aft (by kernel_rfl) (by kernel_rfl) ?_
        repeat (go_big_quiet_step (first | (go_at_call 51; exact Calls.aft (unhide HC1 _)) | (go_at_call 47; exact Calls.aft (unhide HC2 _))))
        refine wpQuiet_nil ?_
        intro _ hw'
        obtain ⟨u, hw''⟩ := hw'
        subst hw''
        have qu := qw.trans u.q
        have k0 := unhide HC0 u
        generalize u.to = w3 at qu k0 ⊢
        clear hne c0 HC0 HC1 HC2
        have hp3 := (unhide HP).q qu
        have y3 := hp3.cells.c1
        by_cases h8 : s.ps.length = 4
        · have HX : Hid (RES = .error 801) := by
            rw [← unhide HRES, unhide HRX]
            exact po_full (unhide HMAY) HFD.out h8
          have hl8 : ((ps.length : Int) == 4) = true := by rw [unhide HLR, h8]; rfl
          clear h8 hp3
          go_wp2_with fail
          go_ret
          exact RL.err HX.out (HBW.out _ qu)
        · have hx := po_ok (s := s) (unhide HMAY) HFD.out h8
          have HX : Hid (RES = .ok (s.wU (some (.inr (.inl (n, 0)))))) := by
            rw [← unhide HRES, unhide HRX]
            exact hx
          have HOK := hide (ok.wU (u := some (.inr (.inl (n, 0)))) (by show s.ps.length < 4; have := ok.lp; omega))
          have HMM : Hid (SmMay (s.wU (some (.inr (.inl (n, 0)))))) := ⟨hm.p, hm.le, hm.e, hm.d, hm.r, ⟨unhide HMAY, Nat.zero_le _, HFD.out, h8⟩⟩
          have hl8 : ((ps.length : Int) == 4) = false := by rw [unhide HLR]; simp; omega
          have HP3 := hide hp3
          have hB3 : B ≤ w3.heap.size := Nat.le_trans hB qu.size
          have HNR : Hid (∀ k, (Value.slice A.po ps.length A.pc).ownBlock = some k → k ≠ P) := hp3.blk.row hp3.ro.p (by decide)
          have a3 : ∀ ob, (w3.alloc ob).cell? ⟨P, 1, none⟩ = some (.slice A.po ps.length A.pc) := fun ob => (hp3.q ((Q.refl w3).alloc ob)).cells.c1
          clear h8 hp3 hx
          go_wp2_with fail
          go_region_law (refine step_row rfl (.tmp 108) (.tmp 113) 23 rfl B 73 i0 _ 2 24 Tryz.underlying23 hi hz0 hz1 hz2 rfl (by decide) A.po ps.length A.pc (lay plv ps) (by rfl) (own_q (unhide HP3).ro.p ((Q.refl w3).drew.alloc _)) (some ⟨w3.drew.heap.size, 0, none⟩) 1 1 [.string nB, .int .i64 0] (by rfl) (SrcRow.new w3.drew #[.string nB, .int .i64 0] _ 2 rfl) (by intro u hu; simp at hu; rcases hu with rfl | rfl <;> rfl) (by unfold maxLen; omega) (by omega) (le_alloc hB3 _) ?_; intro ao' cap' w5 ho5 hg5; have hb5 := hide ((unhide HP3).blk.grown ((Q.refl w3).drew.alloc _) hg5 HNR.out); have e3 : w5.cell? ⟨P, 1, none⟩ = some (.slice A.po ps.length A.pc) := (unhide hb5).cell 1 rfl; have f3 := (unhide hb5).frz 1; have e5 : w5.cell? ⟨P, 5, none⟩ = some (.int .i64 0) := (unhide hb5).cell 5 rfl; have f5 := (unhide hb5).frz 5)
          all_goals
            have HF5 : Hid (Fr (fun k => (Value.slice A.po ps.length A.pc).ownBlock = some k) w3 w5) := (Fr.of_q ((Q.refl w3).drew.alloc _)).trans (Fr.grown hg5)
            have HO5 : Hid (w5.ownsRow B 73 2 (.slice ao' (ps.length + 1) cap') (ps.length + 1) (lay plv ps ++ plv (n, 0))) := by
              have e : plv (n, 0) = [.string nB, .int .i64 0] := by rw [← unhide HNB]; rfl
              rw [e]; exact ho5
            clear ho5 hg5
            go_wp2_with fail
            go_ret
            refine RL.ok HX.out ?_ (pool_rs (unhide HP3) (unhide HPS) hrs HF5.out HO5.out (unhide HOK) HMM.out)
            have hfz := ((HF5.out.mono (fun k hk => Or.inr hk : ∀ k, _ → k = P ∨ (Value.slice A.po ps.length A.pc).ownBlock = some k)).trans ((Fr.set w5 P 1 (.slice ao' (ps.length + 1) cap')).mono (fun k hk => Or.inl hk))).trans ((Fr.set _ P 5 (.int .i64 2)).mono (fun k hk => Or.inl hk))
            exact Below.trans (HBW.out _ qu) (hfz.below hB3 (fun k hk => hk.elim (fun e => by rw [e]; exact (unhide HP3).lo) (fun e => ((unhide HP3).ro.p.lt k e).1)))

end Go.Proofs.YtpddckgkaopnlaaGreatDoor
