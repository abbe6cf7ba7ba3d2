/- Several texts of mine in one: RpFlatBind, RpDefault. -/
import Derived.Test.YtpddckgkaopnlaaGreatDoorRpPool
import Derived.Test.YtpddckgkaopnlaaGreatDoorBnMfFields
import Derived.Test.YtpddckgkaopnlaaGreatDoorWdWords
/- The document's own parser: a line that is a bind; the conditions: the parser lies in memory. -/
namespace Go.Proofs.YtpddckgkaopnlaaGreatDoor
open Go.RowKit

theorem fw_bind {s : Sm} {l : Tx} (h1 : (hdL l).1 ≠ kRule) (h2 : (hdL l).1 ≠ kPool) (h3 : (hdL l).1 ≠ kBuild) (h4 : (hdL l).1 ≠ kDefault) : fwL s l = biL s l := by
  unfold fwL; rw [if_neg h1, if_neg h2, if_neg h3, if_neg h4]

theorem bind_rs {B P : Nat} {w2 : World} {s : Sm} {ps : List Pl} {A : RpA} {b0 b1 b2 b3 b4 vo : Value} {bs : List Bd} {ao : Option Addr} {cap : Nat} (h : Rp B w2 P s ps A 0 b0 b1 b2 b3 b4 vo) (hps : ps = s.ps) (hrs : A.rs.map Prod.fst = s.rs) (ho : OwnD w2 B ao cap bs) (ok : SmOk ⟨s.es, s.ps, s.ds, s.rs, bs, none⟩) (hm : SmMay ⟨s.es, s.ps, s.ds, s.rs, bs, none⟩) :
    RS B (w2.setCell ⟨P, 4, none⟩ (.slice ao bs.length cap)) P ⟨s.es, s.ps, s.ds, s.rs, bs, none⟩ := by
  have hr := h.ro.set h.blk 4 (.slice ao bs.length cap)
  refine ⟨ok, hm, ps, ⟨A.es, A.eo, A.ec, A.po, A.pc, A.dd, A.dc, A.rs, A.ro, A.rc, ao, cap⟩, 0, b0, b1, b2, b3, b4, vo, ⟨h.blk.set 4 _, h.lo, ⟨hr.e, hr.em, hr.p, hr.d, hr.r, own_setP ho h.blk (by decide) 4 _, hr.q, hr.nd⟩⟩, ⟨rfl, hps, hrs⟩⟩

set_option maxRecDepth 20000 in
set_option maxHeartbeats 4000000 in
theorem rflat_bind (B P : Nat) (s : Sm) (ps : List Pl) (A : RpA) (b0 b1 b2 b3 b4 vo : Value) (l : ByteArray) (w : World) (h : Rp B w P s ps A 0 b0 b1 b2 b3 b4 vo) (hps : ps = s.ps) (hrs : A.rs.map Prod.fst = s.rs) (ok : SmOk s) (hm : SmMay s) (hB : B ≤ w.heap.size) (hl : l.size ≤ 2049) (h1 : (hdL (bl l)).1 ≠ kRule) (h2 : (hdL (bl l)).1 ≠ kPool) (h3 : (hdL (bl l)).1 ≠ kBuild) (h4 : (hdL (bl l)).1 ≠ kDefault) :
    Calls Tryz.prog 16 #[.pointer (some ⟨P, 0, none⟩), .string l] w (RL B P (fwL s (bl l)) w) := by
  have HH := hide (head_any l w (by unfold maxLen; omega))
  have hr1 : (hdL (bl l)).2.length ≤ 2049 := by have := (@hd_len (bl l)).2; rw [bl_size] at this; omega
  have HW := hide (fun w2 => rwords_any ⟨(hdL (bl l)).2.toArray⟩ w2 (by rw [← bl_size]; show (hdL (bl l)).2.length ≤ _; omega))
  rw [show bl ⟨(hdL (bl l)).2.toArray⟩ = (hdL (bl l)).2 from rfl] at HW
  have k1 : ((⟨(hdL (bl l)).1.toArray⟩ : ByteArray).toList == [114, 117, 108, 101]) = false := no_key h1
  have k2 : ((⟨(hdL (bl l)).1.toArray⟩ : ByteArray).toList == [112, 111, 111, 108]) = false := no_key h2
  have k3 : ((⟨(hdL (bl l)).1.toArray⟩ : ByteArray).toList == [98, 117, 105, 108, 100]) = false := no_key h3
  have k4 : ((⟨(hdL (bl l)).1.toArray⟩ : ByteArray).toList == [100, 101, 102, 97, 117, 108, 116]) = false := no_key h4
  have hfw := fw_bind (s := s) h1 h2 h3 h4
  have HC := hide (fun w2 (q : Q w w2) => rbind_out P l s.bs A.oo A.oc (vo := vo) w2 (h.q q).blk rfl rfl (read_own (h.q q).ro.o ok.bs) (by omega))
  have HFIN : Hid (∀ w2, Q w w2 → ∀ e w', BdSays P 4 s.bs s.bs (bl l) w2 e w' → RL B P (fwL s (bl l)) w e w') := by
    intro w2 q e w' hb
    have hBw : Below B w w2 := q.mono hB
    have hB2 : B ≤ w2.heap.size := Nat.le_trans hB q.size
    unfold BdSays at hb
    have hx : fwL s (bl l) = biL s (bl l) := hfw
    unfold biL at hx
    cases hbn : bnL (bl l) with
    | none =>
      rw [hbn] at hb hx
      simp only at hx
      obtain ⟨rfl, q'⟩ := hb
      exact RL.err hx (Below.trans hBw (q'.mono hB2))
    | some x =>
      rw [hbn] at hb hx
      simp only at hb hx
      cases hst : stL s.bs s.bs x.1 x.2 with
      | error n =>
        rw [hst] at hb hx
        simp only at hx
        obtain ⟨rfl, q'⟩ := hb
        exact RL.err hx (Below.trans hBw (q'.mono hB2))
      | ok bs =>
        rw [hst] at hb hx
        simp only at hx
        obtain ⟨rfl, w3, ao, cap, q3, ho, rfl⟩ := hb
        have hp3 := (h.q q).q q3
        refine RL.ok hx ?_ (bind_rs hp3 hps hrs (own_low ho hB2) (ok_fw hx ok) (fw_may hx hm))
        exact Below.trans (Below.trans hBw (q3.mono hB2)) (hp3.below (Nat.le_trans hB2 q3.size) 4 _)
  generalize fwL s (bl l) = RES at *
  clear h h1 h2 h3 h4 hfw hps hrs ok hm
  generalize (hdL (bl l)).2 = rest at *
  generalize (⟨(hdL (bl l)).1.toArray⟩ : ByteArray) = wd at *
  go_enter Tryz.func16, Tryz.ntmps16
  go_wp2_with fail
  refine (unhide HH).mono ?_
  rintro e w1 ⟨rfl, q1⟩
  go_wp2_with fail
  refine (unhide HW w1).mono ?_
  rintro e w2 ⟨ao, cap, rfl, hown, hwl, q2⟩
  have qw := q1.trans q2
  clear hown q1 q2 HH HW
  go_wp2_with fail
  refine (unhide HC w2 qw).mono ?_
  intro e w3 hb
  have hR := HFIN.out w2 qw e w3 hb
  have he : ∃ n, e = .returned (.int .i64 n) := by
    unfold RL at hR
    obtain ⟨_, h⟩ := hR
    split at h
    · exact ⟨_, h⟩
    · exact ⟨_, h.1⟩
  obtain ⟨n, rfl⟩ := he
  have HR := hide hR
  clear hR hb
  go_wp2_with fail
  go_ret
  exact unhide HR

end Go.Proofs.YtpddckgkaopnlaaGreatDoor

/- The document's own parser: a line that begins with default; the conditions: the parser lies in memory. -/
namespace Go.Proofs.YtpddckgkaopnlaaGreatDoor
open Go.RowKit

theorem fw_default {s : Sm} {l : Tx} (h : (hdL l).1 = kDefault) : fwL s l = deL s (wdL (hdL l).2) := by
  unfold fwL; rw [h, if_neg (by decide), if_neg (by decide), if_neg (by decide), if_pos rfl]

theorem default_rs {B P : Nat} {w2 w5 : World} {s : Sm} {ps : List Pl} {A : RpA} {b0 b1 b2 b3 b4 vo : Value} {ds : Ws} {m : Nat} {ao' : Option Addr} {cap' : Nat} (h : Rp B w2 P s ps A 0 b0 b1 b2 b3 b4 vo) (hps : ps = s.ps) (hrs : A.rs.map Prod.fst = s.rs) (hm1 : m = ds.length)
    (hg : w2.grownBy w5 (Value.slice A.dd s.ds.length A.dc).ownBlock) (ho : w5.ownsRow B 9 1 (.slice ao' (s.ds.length + m) cap') (s.ds.length + m) (lay tv s.ds ++ lay tv ds)) (hn : (Value.slice ao' (s.ds.length + m) cap').ownBlock = (Value.slice A.dd s.ds.length A.dc).ownBlock ∨ ∀ k, (Value.slice ao' (s.ds.length + m) cap').ownBlock = some k → w2.heap.size ≤ k)
    (ok : SmOk ⟨s.es, s.ps, s.ds ++ ds, s.rs, s.bs, none⟩) (hm : SmMay ⟨s.es, s.ps, s.ds ++ ds, s.rs, s.bs, none⟩) :
    RS B (w5.setCell ⟨P, 2, none⟩ (.slice ao' (s.ds.length + m) cap')) P ⟨s.es, s.ps, s.ds ++ ds, s.rs, s.bs, none⟩ := by
  subst hm1
  have hb5 : Blk w5 P (rpC A s ps 0 b0 b1 b2 b3 b4 vo) 60 := h.blk.fr (Fr.grown hg) (fun hk => h.blk.row h.ro.d (by decide) P hk rfl)
  have hf : Fr (fun k => k = P ∨ (Value.slice A.dd s.ds.length A.dc).ownBlock = some k) w2 (w5.setCell ⟨P, 2, none⟩ (.slice ao' (s.ds.length + ds.length) cap')) :=
    ((Fr.grown hg).mono (fun k hk => Or.inr hk)).trans ((Fr.set _ P 2 _).mono (fun k hk => Or.inl hk))
  have hb6 := hb5.set 2 (.slice ao' (s.ds.length + ds.length) cap')
  have ho7 := own_setP ho hb5 (by decide) 2 (.slice ao' (s.ds.length + ds.length) cap')
  refine ⟨ok, hm, ps, ⟨A.es, A.eo, A.ec, A.po, A.pc, ao', cap', A.rs, A.ro, A.rc, A.oo, A.oc⟩, 0, b0, b1, b2, b3, b4, vo, ⟨?_, h.lo, ?_⟩, ⟨rfl, hps, hrs⟩⟩
  · unfold rpC
    dsimp only
    rw [List.length_append]
    exact hb6
  · refine ⟨own_fr h.ro.e hf (fr_no h.blk h.ro.d h.ro.e (by decide) (by decide)), h.ro.em, own_fr h.ro.p hf (fr_no h.blk h.ro.d h.ro.p (by decide) (by decide)), ?_, own_fr h.ro.r hf (fr_no h.blk h.ro.d h.ro.r (by decide) (by decide)), own_fr h.ro.o hf (fr_no h.blk h.ro.d h.ro.o (by decide) (by decide)), fun x hx => (h.ro.q x hx).fr hf (fun k hk hh => hh.elim (fun e => (h.ro.q x hx).blk h.blk (by decide) k hk e) (fun e => h.ro.nd x hx k hk e)), ?_⟩
    · show World.ownsRow _ _ _ _ (.slice _ (s.ds ++ ds).length _) (s.ds ++ ds).length (lay tv (s.ds ++ ds))
      rw [lay_app, List.length_append]
      exact ho7
    · intro x hx k hk
      show (Value.slice ao' (s.ds ++ ds).length cap').ownBlock ≠ some k
      rw [List.length_append]
      rcases hn with hn | hn
      · rw [hn]; exact h.ro.nd x hx k hk
      · intro e
        have h1 := hn k e
        have h2 := ((h.ro.q x hx).lt k hk).2
        omega

set_option maxRecDepth 20000 in
set_option maxHeartbeats 4000000 in
theorem rflat_default (B P : Nat) (s : Sm) (ps : List Pl) (A : RpA) (b0 b1 b2 b3 b4 vo : Value) (l : ByteArray) (w : World) (h : Rp B w P s ps A 0 b0 b1 b2 b3 b4 vo) (hps : ps = s.ps) (hrs : A.rs.map Prod.fst = s.rs) (ok : SmOk s) (hm : SmMay s) (hB : B ≤ w.heap.size) (hl : l.size ≤ 2049) (hk : (hdL (bl l)).1 = kDefault) :
    Calls Tryz.prog 16 #[.pointer (some ⟨P, 0, none⟩), .string l] w (RL B P (fwL s (bl l)) w) := by
  obtain ⟨i0, hi, hz0, hz1, hz2⟩ := info_parts Tryz.infoS
  have HH := hide (head_any l w (by unfold maxLen; omega))
  have hr1 : (hdL (bl l)).2.length ≤ 2049 := by have := (@hd_len (bl l)).2; rw [bl_size] at this; omega
  have hrz : (⟨(hdL (bl l)).2.toArray⟩ : ByteArray).size ≤ 2049 := by rw [← bl_size]; exact hr1
  have HW := hide (fun w2 => rwords_any ⟨(hdL (bl l)).2.toArray⟩ w2 (by omega))
  rw [show bl ⟨(hdL (bl l)).2.toArray⟩ = (hdL (bl l)).2 from rfl] at HW
  have k4 : ((⟨(hdL (bl l)).1.toArray⟩ : ByteArray).toList == [100, 101, 102, 97, 117, 108, 116]) = true := is_key hk
  have k1 : ((⟨(hdL (bl l)).1.toArray⟩ : ByteArray).toList == [114, 117, 108, 101]) = false := no_key (by show (hdL (bl l)).1 ≠ _; rw [hk]; decide)
  have k2 : ((⟨(hdL (bl l)).1.toArray⟩ : ByteArray).toList == [112, 111, 111, 108]) = false := no_key (by show (hdL (bl l)).1 ≠ _; rw [hk]; decide)
  have k3 : ((⟨(hdL (bl l)).1.toArray⟩ : ByteArray).toList == [98, 117, 105, 108, 100]) = false := no_key (by show (hdL (bl l)).1 ≠ _; rw [hk]; decide)
  have HFW := hide (fw_default (s := s) hk)
  have HWL : Hid (∀ x ∈ wdL (hdL (bl l)).2, x.length ≤ 4096) := fun x hx => by
    have := wd_len x hx
    omega
  have HP := hide h
  have HOK : Hid (∀ s', deL s (wdL (hdL (bl l)).2) = .ok s' → SmOk s' ∧ SmMay s') := fun s' hs' => by
    have e : fwL s (bl l) = .ok s' := by rw [unhide HFW]; exact hs'
    exact ⟨ok_fw e ok, fw_may e hm⟩
  have HPS := hide hps
  have HRS := hide hrs
  have hld := ok.ld
  rw [unhide HFW]
  clear hk h hps hrs ok hm HFW
  generalize (hdL (bl l)).2 = rest at *
  generalize (⟨(hdL (bl l)).1.toArray⟩ : ByteArray) = wd at *
  go_enter Tryz.func16, Tryz.ntmps16
  go_wp2_with fail
  refine (unhide HH).mono ?_
  rintro e w1 ⟨rfl, q1⟩
  go_wp2_with fail
  refine (unhide HW w1).mono ?_
  rintro e w2 ⟨ao, cap, rfl, hown, hwl, q2⟩
  have qw := q1.trans q2
  have HC := hide (cleaned_any (wdL rest) ao cap w2 (OwnT.row hown) (by omega) HWL.out)
  clear hown q1 q2 HH HW
  go_wp2_with fail
  refine (unhide HC).mono ?_
  rintro e w3 ⟨xo, xc, rfl, hox, q3⟩
  have qz := qw.trans q3
  have HBZ := hide (qz.mono hB)
  have hB3 : B ≤ w3.heap.size := Nat.le_trans hB qz.size
  clear HC
  cases hcl : clL (wdL rest) with
  | none =>
    have HX : Hid (deL s (wdL rest) = .error 800) := by show _ = _; unfold deL; rw [hcl]
    clear hox hcl
    go_wp2_with fail
    go_ret
    exact RL.err HX.out (unhide HBZ)
  | some ds =>
    rw [hcl] at hox
    have hdl : ds.length ≤ 4096 := by have := (cl_facts _ _ hcl).1; omega
    have HOX : Hid (OwnT w3 w2.heap.size xo xc ds) := hox
    by_cases h0 : wdL rest = []
    · have HX : Hid (deL s (wdL rest) = .error 800) := by show _ = _; unfold deL; rw [hcl]; simp only; rw [if_pos h0]
      have hl0 : (wdL rest).length = 0 := by rw [h0]; rfl
      rw [hl0]
      clear hox hcl h0 hdl hl0 hwl HWL
      go_wp2_with fail
      go_ret
      exact RL.err HX.out (unhide HBZ)
    · have hl0 : 0 < (wdL rest).length := List.length_pos_iff.2 h0
      have hp3 := (unhide HP).q qz
      have c2 := hp3.cells.c2
      by_cases h8 : 8 < s.ds.length + ds.length
      · have HX : Hid (deL s (wdL rest) = .error 801) := by show _ = _; unfold deL; rw [hcl]; simp only; rw [if_neg h0, if_pos h8]
        have hge : (((wdL rest).length : Int) == 0) = false := by simp; omega
        have g8 : (8 : Int) < (s.ds.length : Int) + (ds.length : Int) := by omega
        clear hox hcl h0 hp3
        go_wp2_with fail
        go_ret
        exact RL.err HX.out (unhide HBZ)
      · have HX : Hid (deL s (wdL rest) = .ok ⟨s.es, s.ps, s.ds ++ ds, s.rs, s.bs, none⟩) := by show _ = _; unfold deL; rw [hcl]; simp only; rw [if_neg h0, if_neg h8]
        have hge : (((wdL rest).length : Int) == 0) = false := by simp; omega
        have g8 : (s.ds.length : Int) + (ds.length : Int) ≤ 8 := by omega
        have HP3 := hide hp3
        have HDR : Hid (SrcRow w3 1 xo ds.length (lay tv ds)) := SrcRow.row tv_len (by decide) (OwnT.row hox)
        have HDO : Hid (w3.ownsRow B 9 1 (.slice A.dd s.ds.length A.dc) s.ds.length (lay tv s.ds)) := hp3.ro.d
        clear hox hcl h0 hp3
        go_wp2_with (at_builtin; refine wpList_append_row2 rfl _ _ 24 rfl B 9 i0 (.string ByteArray.empty) 1 16 Tryz.underlying24 hi hz0 hz1 hz2 rfl (by decide) A.dd s.ds.length A.dc (lay tv s.ds) rfl (unhide HDO) xo ds.length xc (lay tv ds) rfl (unhide HDR) (one_layT ds) (by unfold maxLen; omega) (by omega) hB3 ?_)
        intro ao' cap' w5 ho5 hg5 hn5
        have hb5 := (unhide HP3).blk.grown (Q.refl w3) hg5 ((unhide HP3).blk.row (unhide HDO) (by decide))
        have b5 : w5.cell? ⟨P, 2, none⟩ = some (.slice A.dd s.ds.length A.dc) := hb5.cell 2 rfl
        have f5 := hb5.frz 2
        have HRS2 := hide (default_rs (unhide HP3) (unhide HPS) (unhide HRS) rfl hg5 ho5 hn5 (HOK.out _ HX.out).1 (HOK.out _ HX.out).2)
        have HBF : Hid (Below B w (w5.setCell ⟨P, 2, none⟩ (.slice ao' (s.ds.length + ds.length) cap'))) :=
          (Below.trans (unhide HBZ) ((Fr.grown hg5).below hB3 (fun k hk => ((unhide HDO).lt k hk).1))).setCell (unhide HP3).lo _
        clear ho5 hg5 hn5 hb5 HDO HDR
        go_wp2_with fail
        go_ret
        exact RL.ok HX.out HBF.out (unhide HRS2)

end Go.Proofs.YtpddckgkaopnlaaGreatDoor
