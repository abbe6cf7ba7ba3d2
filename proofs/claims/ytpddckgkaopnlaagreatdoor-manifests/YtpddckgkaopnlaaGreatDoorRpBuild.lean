/- The document's own parser: a build line; the conditions: the parser lies in memory. -/
import Derived.Test.YtpddckgkaopnlaaGreatDoorBnRpDefault
namespace Go.Proofs.YtpddckgkaopnlaaGreatDoor
open Go.RowKit

theorem fw_build {s : Sm} {l : Tx} (h : (hdL l).1 = kBuild) : fwL s l = buL s (hdL l).2 := by
  unfold fwL; rw [h, if_neg (by decide), if_neg (by decide), if_pos rfl]

theorem prW_ok (x : Tx) (ws : Ws) : ∀ y ∈ (prW x ws).1, y.length ≤ 16 := by
  unfold prW
  split
  · intro y hy; exact (okN_len (tk_ok y hy)).2.1
  · intro y hy; cases hy
theorem bdR_short {l : Tx} {b : Bt} (h : bdR l = some b) : (∀ y ∈ b.1, y.length ≤ 16) ∧ (∀ y ∈ b.2.2.1, y.length ≤ 16) ∧ (∀ y ∈ b.2.2.2.1, y.length ≤ 16) ∧ (∀ y ∈ b.2.2.2.2, y.length ≤ 16) := by
  unfold bdR bdW at h
  dsimp only at h
  split at h
  · cases h
  · split at h
    · cases h
    · split at h
      · cases h
        exact ⟨fun y hy => (okN_len (tk_ok y hy)).2.1, fun y hy => (okN_len (tk_ok y hy)).2.1, prW_ok _ _, prW_ok _ _⟩
      · cases h

/-- The edge of a build line, by what the document's own parser asks. -/
theorem ed_of {rs : List Rl} {l : Tx} {b : Bt} {r : Rl} (h : bdR l = some b) (hr : rlAt rs b.2.1 = some r) (hc : clO b = true) : edL rs l = some ((clG b.1, clG b.2.2.1, clG b.2.2.2.1, clG b.2.2.2.2, [], r.2.2.1, r.2.2.2), r) := by
  unfold edL
  rw [h]
  simp only
  rw [hr]
  simp only
  unfold clO at hc
  simp only [Bool.and_eq_true, Option.isSome_iff_exists] at hc
  obtain ⟨⟨⟨⟨o, h1⟩, ⟨i, h2⟩⟩, ⟨m, h3⟩⟩, ⟨d, h4⟩⟩ := hc
  unfold clG
  rw [h1, h2, h3, h4]; rfl
theorem ed_none {rs : List Rl} {l : Tx} (h : bdR l = none) : edL rs l = none := by unfold edL; rw [h]
theorem ed_rule {rs : List Rl} {l : Tx} {b : Bt} (h : bdR l = some b) (hr : rlAt rs b.2.1 = none) : edL rs l = none := by unfold edL; rw [h]; simp only; rw [hr]
theorem ed_path {rs : List Rl} {l : Tx} {b : Bt} (h : bdR l = some b) (hc : clO b = false) : edL rs l = none := by
  unfold edL
  rw [h]
  simp only
  cases hr : rlAt rs b.2.1 with
  | none => rfl
  | some r =>
    simp only
    unfold clO at hc
    cases h1 : clL b.1 <;> cases h2 : clL b.2.2.1 <;> cases h3 : clL b.2.2.2.1 <;> cases h4 : clL b.2.2.2.2 <;> first | rfl | (rw [h1, h2, h3, h4] at hc; cases hc)

/-- A build line is written into the parser. -/
def bS (w : World) (P : Nat) (v0 v1 v2 v3 v4 : Value) : World := ((((((w.setCell ⟨P, 6, none⟩ v0).setCell ⟨P, 7, none⟩ v1).setCell ⟨P, 8, none⟩ v2).setCell ⟨P, 9, none⟩ v3).setCell ⟨P, 10, none⟩ v4).setCell ⟨P, 11, none⟩ (.slice none 0 0)).setCell ⟨P, 5, none⟩ (.int .i64 3)

theorem bS_fr (w : World) (P : Nat) (v0 v1 v2 v3 v4 : Value) : Fr (fun k => k = P) w (bS w P v0 v1 v2 v3 v4) := by
  unfold bS
  refine Fr.trans ?_ (Fr.set _ P 5 _)
  refine Fr.trans ?_ (Fr.set _ P 11 _)
  refine Fr.trans ?_ (Fr.set _ P 10 _)
  refine Fr.trans ?_ (Fr.set _ P 9 _)
  refine Fr.trans ?_ (Fr.set _ P 8 _)
  refine Fr.trans ?_ (Fr.set _ P 7 _)
  exact Fr.set w P 6 v0

set_option maxHeartbeats 4000000 in
theorem build_rs {B P : Nat} {w : World} {s : Sm} {ps : List Pl} {A : RpA} {b0 b1 b2 b3 b4 vo : Value} {y : EdA} {r : Rl} (h : Rp B w P s ps A 0 b0 b1 b2 b3 b4 vo) (hps : ps = s.ps) (hrs : A.rs.map Prod.fst = s.rs) (hy : EdR w B y) (hnd : ∀ k ∈ edB y, (Value.slice A.dd s.ds.length A.dc).ownBlock ≠ some k)
    (hr : rlAt s.rs r.1 = some r) (he : y.1.2.2.2.2 = ([], r.2.2.1, r.2.2.2)) (ok : SmOk (s.wU (some (.inr (.inr (y.1, r, [])))))) (hm : SmMay (s.wU (some (.inr (.inr (y.1, r, [])))))) :
    RS B (bS w P y.v1 (.string ⟨r.1.toArray⟩) y.v2 y.v3 y.v4) P (s.wU (some (.inr (.inr (y.1, r, []))))) := by
  have hf := bS_fr w P y.v1 (.string ⟨r.1.toArray⟩) y.v2 y.v3 y.v4
  have hP : ∀ k, k = P → ∃ cs, Blk w k cs 60 := fun k hk => by subst hk; exact ⟨_, h.blk⟩
  have hb := ((((((h.blk.set 6 y.v1).set 7 (.string ⟨r.1.toArray⟩)).set 8 y.v2).set 9 y.v3).set 10 y.v4).set 11 (.slice none 0 0)).set 5 (.int .i64 3)
  have hro := h.ro.ty hf hP (by decide) (by decide) (by decide) (by decide) (by decide)
  have hb2 : Blk (bS w P y.v1 (.string ⟨r.1.toArray⟩) y.v2 y.v3 y.v4) P (rpC A (s.wU (some (.inr (.inr (y.1, r, []))))) ps 3 y.v1 (.string ⟨r.1.toArray⟩) y.v2 y.v3 y.v4 (.slice none 0 0)) 60 := by
    unfold bS
    generalize y.v1 = g1 at *
    generalize y.v2 = g2 at *
    generalize y.v3 = g3 at *
    generalize y.v4 = g4 at *
    exact hb
  refine ⟨ok, hm, ps, A, 3, y.v1, .string ⟨r.1.toArray⟩, y.v2, y.v3, y.v4, .slice none 0 0, ⟨hb2, h.lo, ⟨hro.e, hro.em, hro.p, hro.d, hro.r, hro.o, hro.q, hro.nd⟩⟩, ?_⟩
  exact ⟨rfl, hps, hrs, y, none, 0, rfl, rfl, rfl, rfl, rfl, rfl, hy.ty hf hP (by decide), hnd, rfl, World.ownsRow_nil _ _ _ _, hr, he⟩

set_option maxRecDepth 20000 in
set_option maxHeartbeats 4000000 in
theorem rflat_build (B P : Nat) (s : Sm) (ps : List Pl) (A : RpA) (b0 b1 b2 b3 b4 vo : Value) (l : ByteArray) (w : World) (h : Rp B w P s ps A 0 b0 b1 b2 b3 b4 vo) (hps : ps = s.ps) (hrs : A.rs.map Prod.fst = s.rs) (ok : SmOk s) (hm : SmMay s) (hB : B ≤ w.heap.size) (hl : l.size ≤ 2049) (hk : (hdL (bl l)).1 = kBuild) :
    Calls Tryz.prog 16 #[.pointer (some ⟨P, 0, none⟩), .string l] w (RL B P (fwL s (bl l)) w) := by
  have HH := hide (head_any l w (by unfold maxLen; omega))
  have hr1 : (hdL (bl l)).2.length ≤ 2049 := by have := (@hd_len (bl l)).2; rw [bl_size] at this; omega
  have hrz : (⟨(hdL (bl l)).2.toArray⟩ : ByteArray).size ≤ 2049 := by rw [← bl_size]; exact hr1
  have HW := hide (fun w2 => rwords_any ⟨(hdL (bl l)).2.toArray⟩ w2 (by omega))
  have HWW := hide (fun w2 => rWords_any ⟨(hdL (bl l)).2.toArray⟩ w2 (by omega))
  rw [show bl ⟨(hdL (bl l)).2.toArray⟩ = (hdL (bl l)).2 from rfl] at HW HWW
  have k3 : ((⟨(hdL (bl l)).1.toArray⟩ : ByteArray).toList == [98, 117, 105, 108, 100]) = true := is_key hk
  have k1 : ((⟨(hdL (bl l)).1.toArray⟩ : ByteArray).toList == [114, 117, 108, 101]) = false := no_key (by show (hdL (bl l)).1 ≠ _; rw [hk]; decide)
  have k2 : ((⟨(hdL (bl l)).1.toArray⟩ : ByteArray).toList == [112, 111, 111, 108]) = false := no_key (by show (hdL (bl l)).1 ≠ _; rw [hk]; decide)
  have HFW := hide (fw_build (s := s) hk)
  have HP := hide h
  have HOK : Hid (∀ s', buL s (hdL (bl l)).2 = .ok s' → SmOk s' ∧ SmMay s') := fun s' hs' => by
    have e : fwL s (bl l) = .ok s' := by rw [unhide HFW]; exact hs'
    exact ⟨ok_fw e ok, fw_may e hm⟩
  have HPS := hide hps
  have HRS := hide hrs
  have hlA : A.rs.length ≤ 8 := by have := ok.lr; rw [← hrs, List.length_map] at this; exact this
  rw [unhide HFW]
  clear hk h hps hrs ok hm HFW
  have HSH : Hid (∀ x, bdR (hdL (bl l)).2 = x → ((btS x).1.length ≤ 4096 ∧ ∀ y ∈ (btS x).1, y.length ≤ 4096) ∧ ((btS x).2.2.1.length ≤ 4096 ∧ ∀ y ∈ (btS x).2.2.1, y.length ≤ 4096) ∧ ((btS x).2.2.2.1.length ≤ 4096 ∧ ∀ y ∈ (btS x).2.2.2.1, y.length ≤ 4096) ∧ ((btS x).2.2.2.2.length ≤ 4096 ∧ ∀ y ∈ (btS x).2.2.2.2, y.length ≤ 4096)) := by
    intro x hx
    cases x with
    | none => exact ⟨⟨by decide, (fun y hy => by cases hy)⟩, ⟨by decide, (fun y hy => by cases hy)⟩, ⟨by decide, (fun y hy => by cases hy)⟩, ⟨by decide, (fun y hy => by cases hy)⟩⟩
    | some b =>
      obtain ⟨_, l1, l2, l3, l4⟩ := bdR_len hx
      obtain ⟨s1, s2, s3, s4⟩ := bdR_short hx
      exact ⟨⟨by show b.1.length ≤ 4096; omega, fun y hy => Nat.le_trans (s1 y hy) (by decide)⟩, ⟨by show b.2.2.1.length ≤ 4096; omega, fun y hy => Nat.le_trans (s2 y hy) (by decide)⟩, ⟨by show b.2.2.2.1.length ≤ 4096; omega, fun y hy => Nat.le_trans (s3 y hy) (by decide)⟩, ⟨by show b.2.2.2.2.length ≤ 4096; omega, fun y hy => Nat.le_trans (s4 y hy) (by decide)⟩⟩
  generalize (hdL (bl l)).2 = rest at *
  generalize (⟨(hdL (bl l)).1.toArray⟩ : ByteArray) = wd at *
  go_enter Tryz.func16, Tryz.ntmps16
  go_wp2_with fail
  refine (unhide HH).mono ?_
  rintro e w1 ⟨rfl, q1⟩
  go_wp2_with fail
  refine (unhide HW w1).mono ?_
  rintro e w2 ⟨ao, cap, rfl, _, _, q2⟩
  have qw := q1.trans q2
  clear q1 q2 HH HW
  go_wp2_with fail
  refine (unhide HWW w2).mono ?_
  rintro e w3 ⟨a0, a2, a3, a4, c0, c2, c3, c4, rfl, hf4, q3⟩
  have q03 := qw.trans q3
  clear HWW
  obtain ⟨sl0, sl2, sl3, sl4⟩ := HSH.out _ rfl
  have HPT := hide (fun w4 (q : Q w3 w4) => paths_any (btS (bdR rest)) a0 a2 a3 a4 c0 c2 c3 c4 w4 (hf4.q q) sl0 sl2 sl3 sl4)
  clear sl0 sl2 sl3 sl4 HSH hf4 qw q3
  have HBX : Hid (∀ b, bdR rest = some b → btS (bdR rest) = b ∧ btE (bdR rest) = 0) := fun b hb => by rw [hb]; exact ⟨rfl, rfl⟩
  have HBN : Hid (bdR rest = none → btE (bdR rest) = 700) := fun hb => by rw [hb]; rfl
  generalize hbt : btS (bdR rest) = bt at *
  generalize hbe : btE (bdR rest) = be at *
  generalize hrn : (⟨bt.2.1.toArray⟩ : ByteArray) = rn at *
  have HRN := hide hrn
  clear hrn hbt hbe
  go_wp2_with fail
  refine (unhide HPT _ ((Q.refl w3).alloc _)).mono ?_
  rintro e w5 ⟨d0, d2, d3, d4, e0, e2, e3, e4, rfl, p0, p2, p3, p4, hfr, q5⟩
  rw [show (btV (clB bt) d0 d2 d3 d4 e0 e2 e3 e4).toArray = #[.slice d0 (clG bt.1).length e0, .string rn, .slice d2 (clG bt.2.2.1).length e2, .slice d3 (clG bt.2.2.2.1).length e3, .slice d4 (clG bt.2.2.2.2).length e4] from by rw [← unhide HRN]; rfl]
  have HD := hide ((Blk.new w3 #[.slice a0 bt.1.length c0, .string rn, .slice a2 bt.2.2.1.length c2, .slice a3 bt.2.2.2.1.length c3, .slice a4 bt.2.2.2.2.length c4] 58).q q5)
  have q35 := ((Q.refl w3).alloc (.cells #[.slice a0 bt.1.length c0, .string rn, .slice a2 bt.2.2.1.length c2, .slice a3 bt.2.2.2.1.length c3, .slice a4 bt.2.2.2.2.length c4] 58)).trans q5
  have hDlo : w.heap.size ≤ w3.heap.size := q03.size
  have q05 := q03.trans q35
  have hle : w.heap.size ≤ (w3.alloc (.cells #[.slice a0 bt.1.length c0, .string rn, .slice a2 bt.2.2.1.length c2, .slice a3 bt.2.2.2.1.length c3, .slice a4 bt.2.2.2.2.length c4] 58)).heap.size := by rw [size_alloc]; omega
  have HP0 := hide (own_low p0 hle)
  have HP2 := hide (own_low p2 hle)
  have HP3 := hide (own_low p3 hle)
  have HP4 := hide (own_low p4 hle)
  clear p0 p2 p3 p4 hfr q5 HPT q35 hle
  generalize w3.heap.size = D at *
  have z0 : w5.cell? ⟨D, 0, none⟩ = some (.slice a0 bt.1.length c0) := (unhide HD).cell 0 rfl
  have z1 : w5.cell? ⟨D, 1, none⟩ = some (.string rn) := (unhide HD).cell 1 rfl
  have z2 : w5.cell? ⟨D, 2, none⟩ = some (.slice a2 bt.2.2.1.length c2) := (unhide HD).cell 2 rfl
  have z3 : w5.cell? ⟨D, 3, none⟩ = some (.slice a3 bt.2.2.2.1.length c3) := (unhide HD).cell 3 rfl
  have z4 : w5.cell? ⟨D, 4, none⟩ = some (.slice a4 bt.2.2.2.2.length c4) := (unhide HD).cell 4 rfl
  have f0 := (unhide HD).frz 0
  have f1 := (unhide HD).frz 1
  have f2 := (unhide HD).frz 2
  have f3 := (unhide HD).frz 3
  have f4 := (unhide HD).frz 4
  go_upto_region 19 with fail
  change Code.wp _ _ _ _ (pS w5 D (.slice d0 (clG bt.1).length e0) (.string rn) (.slice d2 (clG bt.2.2.1).length e2) (.slice d3 (clG bt.2.2.2.1).length e3) (.slice d4 (clG bt.2.2.2.2).length e4))
  obtain ⟨hb6, hf6⟩ := pS_facts (unhide HD) (.slice d0 (clG bt.1).length e0) (.string rn) (.slice d2 (clG bt.2.2.1).length e2) (.slice d3 (clG bt.2.2.2.1).length e3) (.slice d4 (clG bt.2.2.2.2).length e4)
  have hPX : ∀ k, k = D → ∃ cs, Blk w5 k cs 58 := fun k hk => by subst hk; exact ⟨_, unhide HD⟩
  have q06 : Q w (pS w5 D (.slice d0 (clG bt.1).length e0) (.string rn) (.slice d2 (clG bt.2.2.1).length e2) (.slice d3 (clG bt.2.2.2.1).length e3) (.slice d4 (clG bt.2.2.2.2).length e4)) := Below.trans q05 (hf6.below q05.size (fun k hk => by rw [hk]; exact hDlo))
  have HO0 := hide (own_ty (unhide HP0) hf6 hPX (by decide))
  have HO2 := hide (own_ty (unhide HP2) hf6 hPX (by decide))
  have HO3 := hide (own_ty (unhide HP3) hf6 hPX (by decide))
  have HO4 := hide (own_ty (unhide HP4) hf6 hPX (by decide))
  clear z0 z1 z2 z3 z4 f0 f1 f2 f3 f4 HP0 HP2 HP3 HP4 hPX hf6 q05 HD
  generalize pS w5 D (.slice d0 (clG bt.1).length e0) (.string rn) (.slice d2 (clG bt.2.2.1).length e2) (.slice d3 (clG bt.2.2.2.1).length e3) (.slice d4 (clG bt.2.2.2.2).length e4) = w6 at *
  have hp6 := (unhide HP).q q06
  have x0 : w6.cell? ⟨D, 0, none⟩ = some (.slice d0 (clG bt.1).length e0) := hb6.cell 0 rfl
  have x1 : w6.cell? ⟨D, 1, none⟩ = some (.string rn) := hb6.cell 1 rfl
  have x2 : w6.cell? ⟨D, 2, none⟩ = some (.slice d2 (clG bt.2.2.1).length e2) := hb6.cell 2 rfl
  have x3 : w6.cell? ⟨D, 3, none⟩ = some (.slice d3 (clG bt.2.2.2.1).length e3) := hb6.cell 3 rfl
  have x4 : w6.cell? ⟨D, 4, none⟩ = some (.slice d4 (clG bt.2.2.2.2).length e4) := hb6.cell 4 rfl
  have HBZ := hide (q06.mono hB)
  have HFD := hide (find_any P A.rs rn A.ro A.rc w6 hp6.cells.c3 hp6.ro.rowR (by omega))
  cases hbd : bdR rest with
  | none =>
    have HX : Hid (buL s rest = .error 800) := by show _ = _; unfold buL; rw [ed_none hbd]
    have hbe := HBN.out hbd
    subst hbe
    clear hbd hp6
    go_wp2_with fail
    go_ret
    exact RL.err HX.out (unhide HBZ)
  | some b =>
    obtain ⟨rfl, rfl⟩ := HBX.out b hbd
    cases hco : clO bt with
    | false =>
      have HX : Hid (buL s rest = .error 800) := by show _ = _; unfold buL; rw [ed_path hbd hco]
      clear hbd hp6 hco
      go_wp2_with fail
      go_ret
      exact RL.err HX.out (unhide HBZ)
    | true =>
      cases hrl : rlAt s.rs bt.2.1 with
      | none =>
        have HX : Hid (buL s rest = .error 800) := by show _ = _; unfold buL; rw [ed_rule hbd hrl]
        have hge := ix_none (rs := A.rs) (n := bt.2.1) (by rw [unhide HRS, hrl]; rfl)
        rw [show (fun r : Rl × Sl => r.1.1 == bl rn) = fun r : Rl × Sl => r.1.1 == bt.2.1 from by rw [← unhide HRN]; rfl] at HFD
        generalize ixB (fun r : Rl × Sl => r.1.1 == bt.2.1) A.rs = ix at *
        have hlt0 : ix < 0 := by simpa using hge
        clear hbd hp6 hco hrl hge
        go_wp2_with fail
        refine (unhide HFD).mono ?_
        rintro e w7 ⟨rfl, rfl⟩
        go_wp2_with fail
        go_ret
        exact RL.err HX.out (unhide HBZ)
      | some r =>
        have hed := ed_of hbd hrl hco
        have hge := ix_some (rs := A.rs) (n := bt.2.1) (by rw [unhide HRS, hrl]; rfl)
        rw [show (fun r : Rl × Sl => r.1.1 == bl rn) = fun r : Rl × Sl => r.1.1 == bt.2.1 from by rw [← unhide HRN]; rfl] at HFD
        generalize ixB (fun r : Rl × Sl => r.1.1 == bt.2.1) A.rs = ix at *
        have hlt0 : 0 ≤ ix := by simpa using hge
        have hnm : r.1 = bt.2.1 := by
          have := List.find?_some hrl
          exact eq_of_beq this
        have hle : A.es.length = s.es.length := by rw [← hp6.ro.em, List.length_map]
        have y0 := hp6.cells.c0
        by_cases h16 : s.es.length = 16
        · have HX : Hid (buL s rest = .error 801) := by show _ = _; unfold buL; rw [hed]; simp only; rw [if_pos h16]
          have hl16 : ((A.es.length : Int) == 16) = true := by rw [hle, h16]; rfl
          clear hbd hp6 hco hrl hge hed hle h16 hnm
          go_wp2_with fail
          refine (unhide HFD).mono ?_
          rintro e w7 ⟨rfl, rfl⟩
          go_wp2_with fail
          go_ret
          exact RL.err HX.out (unhide HBZ)
        · have HX : Hid (buL s rest = .ok (s.wU (some (.inr (.inr (((clG bt.1, clG bt.2.2.1, clG bt.2.2.2.1, clG bt.2.2.2.2, [], r.2.2.1, r.2.2.2) : Ed), r, [])))))) := by show _ = _; unfold buL; rw [hed]; simp only; rw [if_neg h16]; rfl
          have hl16 : ((A.es.length : Int) == 16) = false := by rw [hle]; simp; omega
          have HRL : Hid (rlAt s.rs r.1 = some r) := by rw [hnm]; exact hrl
          have HRV : Hid (rn = ⟨r.1.toArray⟩) := by rw [hnm]; exact (unhide HRN).symm
          have hER : EdR w6 B (((clG bt.1, clG bt.2.2.1, clG bt.2.2.2.1, clG bt.2.2.2.2, [], r.2.2.1, r.2.2.2), (d0, e0), (d2, e2), (d3, e3), (d4, e4)) : EdA) := ⟨own_low (unhide HO0) hB, own_low (unhide HO2) hB, own_low (unhide HO3) hB, own_low (unhide HO4) hB⟩
          have hND : ∀ k ∈ edB (((clG bt.1, clG bt.2.2.1, clG bt.2.2.2.1, clG bt.2.2.2.2, [], r.2.2.1, r.2.2.2), (d0, e0), (d2, e2), (d3, e3), (d4, e4)) : EdA), (Value.slice A.dd s.ds.length A.dc).ownBlock ≠ some k := by
            intro k hk e
            have h1 := ((unhide HP).ro.d.lt k e).2
            rcases mem_edB.1 hk with hk | hk | hk | hk
            · have := ((unhide HO0).lt k hk).1; omega
            · have := ((unhide HO2).lt k hk).1; omega
            · have := ((unhide HO3).lt k hk).1; omega
            · have := ((unhide HO4).lt k hk).1; omega
          have HRSF := hide (build_rs hp6 (unhide HPS) (unhide HRS) hER hND HRL.out rfl (HOK.out _ HX.out).1 (HOK.out _ HX.out).2)
          have HBF := hide (Below.trans (unhide HBZ) ((bS_fr w6 P (EdA.v1 ((clG bt.1, clG bt.2.2.1, clG bt.2.2.2.1, clG bt.2.2.2.2, [], r.2.2.1, r.2.2.2), (d0, e0), (d2, e2), (d3, e3), (d4, e4))) (.string ⟨r.1.toArray⟩) (EdA.v2 ((clG bt.1, clG bt.2.2.1, clG bt.2.2.2.1, clG bt.2.2.2.2, [], r.2.2.1, r.2.2.2), (d0, e0), (d2, e2), (d3, e3), (d4, e4))) (EdA.v3 ((clG bt.1, clG bt.2.2.1, clG bt.2.2.2.1, clG bt.2.2.2.2, [], r.2.2.1, r.2.2.2), (d0, e0), (d2, e2), (d3, e3), (d4, e4))) (EdA.v4 ((clG bt.1, clG bt.2.2.1, clG bt.2.2.2.1, clG bt.2.2.2.2, [], r.2.2.1, r.2.2.2), (d0, e0), (d2, e2), (d3, e3), (d4, e4)))).below (Nat.le_trans hB q06.size) (fun k hk => by rw [hk]; exact hp6.lo)))
          rw [← HRV.out] at HRSF HBF
          have y6 := hp6.cells.c6
          have y7 := hp6.cells.c7
          have y8 := hp6.cells.c8
          have y9 := hp6.cells.c9
          have y10 := hp6.cells.c10
          have y11 := hp6.cells.c11
          have y5 := hp6.cells.c5
          have f5 := hp6.cells.frz 5
          have f6 := hp6.cells.frz 6
          have f7 := hp6.cells.frz 7
          have f8 := hp6.cells.frz 8
          have f9 := hp6.cells.frz 9
          have f10 := hp6.cells.frz 10
          have f11 := hp6.cells.frz 11
          have hDP : D ≠ P := hb6.ne hp6.blk (by decide)
          have hPD : P ≠ D := hDP.symm
          clear hbd hp6 hco hrl hge hed hle h16 hnm hER hND
          go_wp2_with fail
          refine (unhide HFD).mono ?_
          rintro e w7 ⟨rfl, rfl⟩
          go_wp2_with fail
          go_ret
          exact RL.ok HX.out (unhide HBF) (unhide HRSF)

end Go.Proofs.YtpddckgkaopnlaaGreatDoor
