/- The document's own parser: a line that begins with a rule's word; the conditions: the parser lies in memory. -/
import Derived.Test.YtpddckgkaopnlaaGreatDoorRpBind
import Derived.Test.YtpddckgkaopnlaaGreatDoorBnRpWdPlain
import Derived.Test.YtpddckgkaopnlaaGreatDoorBnMfMayWalk
namespace Go.Proofs.YtpddckgkaopnlaaGreatDoor
open Go.RowKit

theorem Tryz.infoRR : (Tryz.prog.info? 92).map (fun i => (i.zero, i.size, i.bytes)) = some (some (.agg #[.string ByteArray.empty, .string ByteArray.empty, .bool false, .string ByteArray.empty, .slice none 0 0]), 5, 80) := by kernel_rfl

theorem fr_no {w : World} {P B er sr nr : Nat} {vr : Value} {xr : List Value} {cs : Array Value} (hP : Blk w P cs 60) (hr : w.ownsRow B er sr vr nr xr) {B' e size n : Nat} {v : Value} {xs : List Value} (h : w.ownsRow B' e size v n xs) (h1 : 60 ≠ e) (h2 : e ≠ er) : ∀ k, v.ownBlock = some k → ¬ (k = P ∨ vr.ownBlock = some k) :=
  fun k hk hh => hh.elim (fun e => hP.row h h1 k hk e) (fun e => own_ne h hr h2 k hk e)
theorem fr_noE {w : World} {P B er sr nr : Nat} {vr : Value} {xr : List Value} {cs : Array Value} (hP : Blk w P cs 60) (hr : w.ownsRow B er sr vr nr xr) {B' : Nat} {x : EdA} (h : EdR w B' x) (h2 : er ≠ 9) : ∀ k ∈ edB x, ¬ (k = P ∨ vr.ownBlock = some k) :=
  fun k hk hh => hh.elim (fun e => h.blk hP (by decide) k hk e) (fun e => h.row hr h2 k hk e)

theorem ix_some {rs : List (Rl × Sl)} {n : Tx} (h : (rlAt (rs.map Prod.fst) n).isSome = true) : decide (0 ≤ ixB (fun r : Rl × Sl => r.1.1 == n) rs) = true := by
  rw [ixB_dec]
  unfold rlAt at h
  rw [List.find?_isSome] at h
  obtain ⟨x, hx, hp⟩ := h
  obtain ⟨y, hy, rfl⟩ := List.mem_map.1 hx
  exact List.any_eq_true.2 ⟨y, hy, hp⟩
theorem ix_none {rs : List (Rl × Sl)} {n : Tx} (h : (rlAt (rs.map Prod.fst) n).isSome = false) : decide (0 ≤ ixB (fun r : Rl × Sl => r.1.1 == n) rs) = false := by
  rw [ixB_dec]
  cases hb : rs.any (fun r : Rl × Sl => r.1.1 == n) with
  | false => rfl
  | true =>
    obtain ⟨y, hy, hp⟩ := List.any_eq_true.1 hb
    have : (rlAt (rs.map Prod.fst) n).isSome = true := by
      unfold rlAt
      rw [List.find?_isSome]
      exact ⟨y.1, List.mem_map_of_mem hy, hp⟩
    rw [h] at this; cases this

def rule0 (n : Tx) : Rl := (n, [], false, [])

/-- A rule is under way. -/
theorem rule_rs {B P : Nat} {w3 w5 : World} {s : Sm} {ps : List Pl} {A : RpA} {b0 b1 b2 b3 b4 vo : Value} {n : Tx} {ao' : Option Addr} {cap' : Nat} (h : Rp B w3 P s ps A 0 b0 b1 b2 b3 b4 vo) (hps : ps = s.ps) (hrs : A.rs.map Prod.fst = s.rs) (hg : Fr (fun k => (Value.slice A.ro A.rs.length A.rc).ownBlock = some k) w3 w5)
    (ho : w5.ownsRow B 92 5 (.slice ao' (A.rs.length + 1) cap') (A.rs.length + 1) (lay rrv A.rs ++ rrv (rule0 n, (none, 0, 0)))) (ok : SmOk (s.wU (some (.inl (rule0 n))))) (hm : SmMay (s.wU (some (.inl (rule0 n))))) :
    RS B ((w5.setCell ⟨P, 3, none⟩ (.slice ao' (A.rs.length + 1) cap')).setCell ⟨P, 5, none⟩ (.int .i64 1)) P (s.wU (some (.inl (rule0 n)))) := by
  have hb5 : Blk w5 P (rpC A s ps 0 b0 b1 b2 b3 b4 vo) 60 := h.blk.fr hg (fun hk => h.blk.row h.ro.r (by decide) P hk rfl)
  have hf : Fr (fun k => k = P ∨ (Value.slice A.ro A.rs.length A.rc).ownBlock = some k) w3 ((w5.setCell ⟨P, 3, none⟩ (.slice ao' (A.rs.length + 1) cap')).setCell ⟨P, 5, none⟩ (.int .i64 1)) :=
    ((hg.mono (fun k hk => Or.inr hk)).trans ((Fr.set _ P 3 _).mono (fun k hk => Or.inl hk))).trans ((Fr.set _ P 5 _).mono (fun k hk => Or.inl hk))
  have hb6 := hb5.set 3 (.slice ao' (A.rs.length + 1) cap')
  have hb7 := hb6.set 5 (.int .i64 1)
  have ho7 := own_setP (own_setP ho hb5 (by decide) 3 (.slice ao' (A.rs.length + 1) cap')) hb6 (by decide) 5 (.int .i64 1)
  refine ⟨ok, hm, ps, ⟨A.es, A.eo, A.ec, A.po, A.pc, A.dd, A.dc, A.rs ++ [(rule0 n, (none, 0, 0))], ao', cap', A.oo, A.oc⟩, 1, b0, b1, b2, b3, b4, vo, ⟨?_, h.lo, ?_⟩, ?_⟩
  · unfold rpC
    dsimp only
    rw [List.length_append]
    exact hb7
  · refine ⟨own_fr h.ro.e hf (fr_no h.blk h.ro.r h.ro.e (by decide) (by decide)), h.ro.em, own_fr h.ro.p hf (fr_no h.blk h.ro.r h.ro.p (by decide) (by decide)), own_fr h.ro.d hf (fr_no h.blk h.ro.r h.ro.d (by decide) (by decide)), ?_, own_fr h.ro.o hf (fr_no h.blk h.ro.r h.ro.o (by decide) (by decide)), fun x hx => (h.ro.q x hx).fr hf (fr_noE h.blk h.ro.r (h.ro.q x hx) (by decide)), h.ro.nd⟩
    dsimp only
    rw [lay_snoc, List.length_append]
    exact ho7
  · exact ⟨rfl, hps, A.rs, [], none, 0, rfl, hrs, World.ownsRow_nil _ _ _ _, ⟨by simp [rule0], by simp [rule0], by simp [rule0], (fun x hx => by cases hx), Nat.zero_le _, List.nodup_nil⟩, fun k hk => by cases hk⟩

theorem hd_len {l : Tx} : (hdL l).1.length ≤ l.length ∧ (hdL l).2.length ≤ l.length := by
  unfold hdL
  cases h : ctL 32 l with
  | none => exact ⟨Nat.le_refl _, Nat.zero_le _⟩
  | some x =>
    obtain ⟨h1, h2⟩ := ct_sub h
    exact ⟨h1.length_le, h2.length_le⟩
theorem fw_rule {s : Sm} {l : Tx} (h : (hdL l).1 = kRule) : fwL s l = ruL s (trL (hdL l).2) := by unfold fwL; rw [if_pos h]
theorem ru_form {s : Sm} {n : Tx} (h : mayL n = false) : ruL s n = .error 800 := by unfold ruL; rw [if_pos (Or.inl h)]
theorem ru_found {s : Sm} {n : Tx} (h : (rlAt s.rs n).isSome = true) : ruL s n = .error 800 := by unfold ruL; rw [if_pos (Or.inr h)]
theorem ru_full {s : Sm} {n : Tx} (h1 : mayL n = true) (h2 : (rlAt s.rs n).isSome = false) (h8 : s.rs.length = 8) : ruL s n = .error 801 := by
  unfold ruL; rw [if_neg (by rw [h1, h2]; simp), if_pos h8]
theorem ru_ok {s : Sm} {n : Tx} (h1 : mayL n = true) (h2 : (rlAt s.rs n).isSome = false) (h8 : s.rs.length ≠ 8) : ruL s n = .ok (s.wU (some (.inl (rule0 n)))) := by
  unfold ruL; rw [if_neg (by rw [h1, h2]; simp), if_neg h8]; rfl

set_option maxRecDepth 20000 in
set_option maxHeartbeats 8000000 in
theorem rflat_rule (B P : Nat) (s : Sm) (ps : List Pl) (A : RpA) (b0 b1 b2 b3 b4 vo : Value) (l : ByteArray) (w : World) (h : Rp B w P s ps A 0 b0 b1 b2 b3 b4 vo) (hps : ps = s.ps) (hrs : A.rs.map Prod.fst = s.rs) (ok : SmOk s) (hm : SmMay s) (hB : B ≤ w.heap.size) (hl : l.size ≤ 2049) (hk : (hdL (bl l)).1 = kRule) :
    Calls Tryz.prog 16 #[.pointer (some ⟨P, 0, none⟩), .string l] w (RL B P (fwL s (bl l)) w) := by
  obtain ⟨i0, hi, hz0, hz1, hz2⟩ := info_parts Tryz.infoRR
  have HH := hide (head_any l w (by unfold maxLen; omega))
  have hr1 : (hdL (bl l)).2.length ≤ 2049 := by have := (@hd_len (bl l)).2; rw [bl_size] at this; omega
  have HW := hide (fun w2 => rwords_any ⟨(hdL (bl l)).2.toArray⟩ w2 (by rw [← bl_size]; show (hdL (bl l)).2.length ≤ _; omega))
  rw [show bl ⟨(hdL (bl l)).2.toArray⟩ = (hdL (bl l)).2 from rfl] at HW
  have g0 : (⟨(hdL (bl l)).1.toArray⟩ : ByteArray).toList == [114, 117, 108, 101] := is_key hk
  have HFW : Hid (fwL s (bl l) = ruL s (trL (hdL (bl l)).2)) := fw_rule hk
  have hlr : A.rs.length = s.rs.length := by rw [← hrs, List.length_map]
  have hlA : A.rs.length ≤ 8 := by have := ok.lr; omega
  have HLR := hide hlr
  clear hlr
  rw [HFW.out]
  clear hk HFW
  generalize (hdL (bl l)).2 = rest at *
  generalize (⟨(hdL (bl l)).1.toArray⟩ : ByteArray) = wd at *
  have g0' : (wd.toList == [114, 117, 108, 101]) = true := g0
  have g0n : (wd.toList == [112, 111, 111, 108]) = false := by
    cases hx : (wd.toList == [112, 111, 111, 108]) with
    | false => rfl
    | true =>
      have e1 := eq_of_beq g0'
      have e2 := eq_of_beq hx
      rw [e1] at e2; simp at e2
  have HP := hide h
  have HBW : Hid (∀ w', Q w w' → Below B w w') := fun w' q => q.mono hB
  clear g0 h
  generalize hRES : ruL s (trL rest) = RES
  have HRES := hide hRES
  clear hRES
  go_enter Tryz.func16, Tryz.ntmps16
  go_wp2_with fail
  refine (unhide HH).mono ?_
  rintro e w1 ⟨rfl, q1⟩
  go_wp2_with fail
  refine (unhide HW w1).mono ?_
  rintro e w2 ⟨ao, cap, rfl, hown, hwl, q2⟩
  have qw := q1.trans q2
  have HRW := hide (show RowT w2 ao (wdL rest) from OwnT.row hown)
  clear hown q1 q2 HH HW
  go_upto_region 6 with fail
  by_cases h1 : (wdL rest).length = 1
  case neg =>
    have HX : Hid (RES = .error 800) := by
      rw [← unhide HRES]
      exact ru_form (no_wd (fun n hn => absurd (by rw [hn]; rfl) h1))
    have hg : (((wdL rest).length : Int) != 1) = true := by simp; omega
    have hg' : (((wdL rest).length : Int) == 1) = false := by simp; omega
    clear h1
    have hne := Aft.ne w2
    refine wp_region_aft (by kernel_rfl) (by kernel_rfl) ?_
    repeat (go_big_quiet_step (fail))
    refine wpQuiet_nil ?_
    intro _ hw'
    obtain ⟨u, hw''⟩ := hw'
    subst hw''
    have qu := qw.trans u.q
    generalize u.to = w3 at qu ⊢
    clear hne
    go_wp2_with fail
    go_ret
    exact RL.err HX.out (HBW.out _ qu)
  case pos =>
    obtain ⟨n, hn⟩ : ∃ n, wdL rest = [n] := by
      match hwd : wdL rest, h1 with
      | [n], _ => exact ⟨n, rfl⟩
    have htr := wd_one hn
    rcases (unhide HRW) with he | ⟨gg, oo, rfl, hcg, hcc⟩
    · rw [hn] at he; cases he
    rw [hn] at hcc
    have c0 : ∀ u : Aft w2, u.to.cell? ⟨gg, oo, none⟩ = some (.string ⟨n.toArray⟩) := Aft.cell (by have := hcc 0 0 n _ rfl (by decide) rfl; simpa using this) hcg
    have hne := Aft.ne w2
    have hnl : n.length ≤ 2049 := by
      rw [← htr]
      exact Nat.le_trans (trL_sub rest).length_le hr1
    have hnz : (⟨n.toArray⟩ : ByteArray).size ≤ maxLen := by rw [← bl_size]; show n.length ≤ maxLen; unfold maxLen; omega
    have HC1 : Hid (∀ u : Aft w2, Calls Tryz.prog 51 #[.string ⟨n.toArray⟩] u.to fun e w' => e = .returned (.bool (mayL n)) ∧ Q u.to w') := by
      intro u
      have := nameMay_any ⟨n.toArray⟩ u.to hnz
      rw [mayB_mayL] at this
      exact this.mono (fun e w' ⟨h1, h2⟩ => ⟨h1, h2 ▸ Q.refl _⟩)
    have HC2 : Hid (∀ u : Aft w2, Calls Tryz.prog 52 #[.pointer (some ⟨P, 0, none⟩), .string ⟨n.toArray⟩] u.to fun e w' => e = .returned (.int .i64 (ixB (fun r : Rl × Sl => r.1.1 == n) A.rs)) ∧ Q u.to w') := by
      intro u
      have hh := (unhide HP).q (qw.trans u.q)
      exact (find_any P A.rs ⟨n.toArray⟩ A.ro A.rc u.to hh.cells.c3 hh.ro.rowR (by omega)).mono (fun e w' ⟨h1, h2⟩ => ⟨h1, h2 ▸ Q.refl _⟩)
    have HRX := hide htr
    rw [hn]
    clear hcc htr h1 hnz
    have hl1 : ([n] : List Tx).length = 1 := rfl
    rw [hl1]
    cases hmay : mayL n with
    | false =>
      have HX : Hid (RES = .error 800) := by
        rw [← unhide HRES, unhide HRX]
        exact ru_form hmay
      rw [hmay] at HC1
      clear hmay HC2
      generalize (⟨n.toArray⟩ : ByteArray) = nB at *
      refine wp_region_aft (by kernel_rfl) (by kernel_rfl) ?_
      repeat (go_big_quiet_step ((go_at_call 51; exact Calls.aft (unhide HC1 _))))
      refine wpQuiet_nil ?_
      intro _ hw'
      obtain ⟨u, hw''⟩ := hw'
      subst hw''
      have qu := qw.trans u.q
      generalize u.to = w3 at qu ⊢
      clear hne c0
      go_wp2_with fail
      go_ret
      exact RL.err HX.out (HBW.out _ qu)
    | true =>
      rw [hmay] at HC1
      cases hfd : (rlAt s.rs n).isSome with
      | true =>
        have HX : Hid (RES = .error 800) := by
          rw [← unhide HRES, unhide HRX]
          exact ru_found hfd
        have hge := ix_some (rs := A.rs) (n := n) (by rw [hrs]; exact hfd)
        clear hmay hfd
        generalize (⟨n.toArray⟩ : ByteArray) = nB at *
        generalize ixB (fun r : Rl × Sl => r.1.1 == n) A.rs = ix at *
        refine wp_region_aft (by kernel_rfl) (by kernel_rfl) ?_
        repeat (go_big_quiet_step (first | (go_at_call 51; exact Calls.aft (unhide HC1 _)) | (go_at_call 52; exact Calls.aft (unhide HC2 _))))
        refine wpQuiet_nil ?_
        intro _ hw'
        obtain ⟨u, hw''⟩ := hw'
        subst hw''
        have qu := qw.trans u.q
        generalize u.to = w3 at qu ⊢
        clear hne c0
        go_wp2_with fail
        go_ret
        exact RL.err HX.out (HBW.out _ qu)
      | false =>
        have hge := ix_none (rs := A.rs) (n := n) (by rw [hrs]; exact hfd)
        have HFD := hide hfd
        have HMAY := hide hmay
        clear hmay hfd
        generalize hnB : (⟨n.toArray⟩ : ByteArray) = nB at *
        have HNB := hide hnB
        clear hnB
        generalize ixB (fun r : Rl × Sl => r.1.1 == n) A.rs = ix at *
        have HC0 := hide c0
        refine wp_region_aft (by kernel_rfl) (by kernel_rfl) ?_
        repeat (go_big_quiet_step (first | (go_at_call 51; exact Calls.aft (unhide HC1 _)) | (go_at_call 52; exact Calls.aft (unhide HC2 _))))
        refine wpQuiet_nil ?_
        intro _ hw'
        obtain ⟨u, hw''⟩ := hw'
        subst hw''
        have qu := qw.trans u.q
        have k0 := unhide HC0 u
        generalize u.to = w3 at qu k0 ⊢
        clear hne c0 HC0 HC1 HC2
        have hp3 := (unhide HP).q qu
        have y3 := hp3.cells.c3
        by_cases h8 : s.rs.length = 8
        · have HX : Hid (RES = .error 801) := by
            rw [← unhide HRES, unhide HRX]
            exact ru_full (unhide HMAY) (unhide HFD) h8
          have hl8 : ((A.rs.length : Int) == 8) = true := by rw [unhide HLR, h8]; rfl
          clear h8 hp3
          go_wp2_with fail
          go_ret
          exact RL.err HX.out (HBW.out _ qu)
        · have hx := ru_ok (s := s) (unhide HMAY) (unhide HFD) h8
          have HX : Hid (RES = .ok (s.wU (some (.inl (rule0 n))))) := by
            rw [← unhide HRES, unhide HRX]
            exact hx
          have HOK := hide (ok.wU (u := some (.inl (rule0 n))) ⟨Nat.zero_le _, Nat.zero_le _, by show s.rs.length < 8; have := ok.lr; omega⟩)
          have HMM : Hid (SmMay (s.wU (some (.inl (rule0 n))))) := ⟨hm.p, hm.le, hm.e, hm.d, hm.r, ⟨rfl, Or.inl rfl⟩⟩
          have hl8 : ((A.rs.length : Int) == 8) = false := by rw [unhide HLR]; simp; omega
          have HP3 := hide hp3
          have hB3 : B ≤ w3.heap.size := Nat.le_trans hB qu.size
          have HNR : Hid (∀ k, (Value.slice A.ro A.rs.length A.rc).ownBlock = some k → k ≠ P) := hp3.blk.row hp3.ro.r (by decide)
          have a3 : ∀ ob, (w3.alloc ob).cell? ⟨P, 3, none⟩ = some (.slice A.ro A.rs.length A.rc) := fun ob => (hp3.q ((Q.refl w3).alloc ob)).cells.c3
          clear h8 hp3 hx
          go_wp2_with fail
          go_region_law (refine step_row rfl (.tmp 91) (.tmp 96) 56 rfl B 92 i0 _ 5 80 Tryz.underlying56 hi hz0 hz1 hz2 rfl (by decide) A.ro A.rs.length A.rc (lay rrv A.rs) (by rfl) (own_q (unhide HP3).ro.r ((Q.refl w3).drew.alloc _)) (some ⟨w3.drew.heap.size, 0, none⟩) 1 1 [.string nB, .string ⟨#[]⟩, .bool false, .string ⟨#[]⟩, .slice none 0 0] (by rfl) (SrcRow.new w3.drew #[.string nB, .string ⟨#[]⟩, .bool false, .string ⟨#[]⟩, .slice none 0 0] _ 5 rfl) (by intro u hu; simp at hu; rcases hu with rfl | rfl | rfl | rfl | rfl <;> rfl) (by unfold maxLen; omega) (by omega) (le_alloc hB3 _) ?_; intro ao' cap' w5 ho5 hg5; have hb5 := hide ((unhide HP3).blk.grown ((Q.refl w3).drew.alloc _) hg5 HNR.out); have e3 : w5.cell? ⟨P, 3, none⟩ = some (.slice A.ro A.rs.length A.rc) := (unhide hb5).cell 3 rfl; have f3 := (unhide hb5).frz 3; have e5 : w5.cell? ⟨P, 5, none⟩ = some (.int .i64 0) := (unhide hb5).cell 5 rfl; have f5 := (unhide hb5).frz 5)
          all_goals
            have HF5 : Hid (Fr (fun k => (Value.slice A.ro A.rs.length A.rc).ownBlock = some k) w3 w5) := (Fr.of_q ((Q.refl w3).drew.alloc _)).trans (Fr.grown hg5)
            have HO5 : Hid (w5.ownsRow B 92 5 (.slice ao' (A.rs.length + 1) cap') (A.rs.length + 1) (lay rrv A.rs ++ rrv (rule0 n, (none, 0, 0)))) := by
              have e : rrv (rule0 n, (none, 0, 0)) = [.string nB, .string ⟨#[]⟩, .bool false, .string ⟨#[]⟩, .slice none 0 0] := by rw [← unhide HNB]; rfl
              rw [e]; exact ho5
            clear ho5 hg5
            go_wp2_with fail
            go_ret
            refine RL.ok HX.out ?_ (rule_rs (unhide HP3) hps hrs HF5.out HO5.out (unhide HOK) HMM.out)
            have hfz := ((HF5.out.mono (fun k hk => Or.inr hk : ∀ k, _ → k = P ∨ (Value.slice A.ro A.rs.length A.rc).ownBlock = some k)).trans ((Fr.set w5 P 3 (.slice ao' (A.rs.length + 1) cap')).mono (fun k hk => Or.inl hk))).trans ((Fr.set _ P 5 (.int .i64 1)).mono (fun k hk => Or.inl hk))
            exact Below.trans (HBW.out _ qu) (hfz.below hB3 (fun k hk => hk.elim (fun e => by rw [e]; exact (unhide HP3).lo) (fun e => ((unhide HP3).ro.r.lt k e).1)))

end Go.Proofs.YtpddckgkaopnlaaGreatDoor
