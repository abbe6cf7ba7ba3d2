/- The document's own parser, whole; the conditions: the text is no longer than a string can be. -/
import Derived.Test.YtpddckgkaopnlaaGreatDoorRpEdge
import Derived.Test.YtpddckgkaopnlaaGreatDoorRpDpRule
import Derived.Test.YtpddckgkaopnlaaGreatDoorBnMfMayWalk
import Derived.Test.YtpddckgkaopnlaaGreatDoorLnRef
namespace Go.Proofs.YtpddckgkaopnlaaGreatDoor
open Go.RowKit

theorem RS.same {B P : Nat} {w : World} {s s' : Sm} (h : RS B w P s) (e : s = s') : RS B w P s' := e ▸ h

set_option maxRecDepth 20000 in
set_option maxHeartbeats 8000000 in
theorem rover_edge (B P : Nat) (s : Sm) (x : Ed × Rl × List Bd) (w : World) (h : RS B w P s) (hun : s.un = some (.inr (.inr x))) (hB : B ≤ w.heap.size) :
    Calls Tryz.prog 15 #[.pointer (some ⟨P, 0, none⟩)] w (RL B P (ovL s) w) := by
  obtain ⟨ok, hm, ps, A, op, b0, b1, b2, b3, b4, vo, h, hu⟩ := h
  unfold UnP at hu
  rw [hun] at hu
  obtain ⟨rfl, hps, hrs, y, no, nc, h4, rfl, rfl, rfl, rfl, rfl, h10, h11, rfl, h13, h14, h15⟩ := hu
  have hun2 : s.un = some (.inr (.inr (y.1, x.2.1, x.2.2))) := by rw [hun, h4]
  have hz := h.zero 0
  have hE := hide (redge_any B P s ps A y x.2.1 x.2.2 no nc (w.setCell ⟨P, 5, none⟩ (.int .i64 0)) hun2 hz hps hrs ⟨h10.set h.blk 5 _, h11, own_setP h13 h.blk (by decide) 5 _, h14, by rw [h4]; exact h15⟩ ok hm (by simpa [World.setCell] using hB))
  have HB := hide (h.below hB 5 (.int .i64 0))
  have c5 := h.cells.c5
  have f5 := h.cells.frz 5
  clear h ok hm hps hrs hun hun2 h4 h10 h11 h13 h14 h15 hz
  generalize ovL s = X at *
  go_enter Tryz.func15, Tryz.ntmps15
  go_wp2_with fail
  clear c5 f5
  generalize w.setCell ⟨P, 5, none⟩ (.int .i64 0) = w1 at *
  refine (unhide hE).mono ?_
  intro e w2 hb
  have he : ∃ n, e = .returned (.int .i64 n) := by
    obtain ⟨_, h⟩ := hb
    cases X with
    | error n => exact ⟨n, h⟩
    | ok s' => exact ⟨0, h.1⟩
  obtain ⟨n, rfl⟩ := he
  have HR : Hid (RL B P X w (.returned (.int .i64 n)) w2) := ⟨Below.trans (unhide HB) hb.1, hb.2⟩
  clear hb HB hE
  go_wp2_with fail
  go_ret
  exact HR.out

theorem rover_any (B P : Nat) (s : Sm) (w : World) (h : RS B w P s) (hB : B ≤ w.heap.size) :
    Calls Tryz.prog 15 #[.pointer (some ⟨P, 0, none⟩)] w (RL B P (ovL s) w) := by
  cases hun : s.un with
  | none =>
    obtain ⟨ok, hm, ps, A, op, b0, b1, b2, b3, b4, vo, h, hu⟩ := h
    exact rover_none B P s ps A op b0 b1 b2 b3 b4 vo w hun h hu ok hm hB
  | some u =>
    match u with
    | .inl r =>
      obtain ⟨ok, hm, ps, A, op, b0, b1, b2, b3, b4, vo, h, hu⟩ := h
      exact rover_rule B P s ps A op b0 b1 b2 b3 b4 vo r w hun h hu ok hm hB
    | .inr (.inl p) =>
      obtain ⟨ok, hm, ps, A, op, b0, b1, b2, b3, b4, vo, h, hu⟩ := h
      exact rover_pool B P s ps A op b0 b1 b2 b3 b4 vo p w hun h hu ok hm hB
    | .inr (.inr x) => exact rover_edge B P s x w h hun hB
theorem rdeep_any (B P : Nat) (s : Sm) (l : ByteArray) (w : World) (h : RS B w P s) (hB : B ≤ w.heap.size) (hl : l.size ≤ 2049) (hpl : plainL (bl l) = true) :
    Calls Tryz.prog 14 #[.pointer (some ⟨P, 0, none⟩), .string l] w (RL B P (dpL s (bl l)) w) := by
  cases hun : s.un with
  | none => exact rdeep_none B P s l w h hun hB hl
  | some u =>
    match u with
    | .inl r => exact rdeep_rule B P s r l w h hun hB hl hpl
    | .inr (.inl p) => exact rdeep_pool B P s p l w h hun hB hl hpl
    | .inr (.inr x) => exact rdeep_build B P s l x w h hun hB hl hpl

/-- What the document's own Parse answers. -/
def RPSays (l : Tx) (w : World) (e : Ending) (w' : World) : Prop :=
  ∃ (es : List EdA) (eo po dd : Option Addr) (ec pc dc : Nat), e = .returned (.tuple #[.agg #[.slice eo es.length ec, .slice po (mfG l).2.1.length pc, .slice dd (mfG l).2.2.length dc], .int .i64 (mfE l)]) ∧ GrR w' (mfG l) es eo po dd ∧ Q w w'
theorem RPSays.err {l : Tx} {w w' : World} {n : Int} (h : mfG l = gr0 ∧ mfE l = n) (q : Q w w') : RPSays l w (.returned (.tuple #[.agg #[.slice none 0 0, .slice none 0 0, .slice none 0 0], .int .i64 n])) w' := by
  refine ⟨[], none, none, none, 0, 0, 0, by rw [h.1, h.2]; rfl, ?_, q⟩
  rw [h.1]; exact GrR.zero _
theorem sm0_ok : SmOk sm0 := ⟨by decide, by decide, by decide, by decide, rfl, (fun r h => by cases h), trivial⟩
def rpZ : RpA := ⟨[], none, 0, none, 0, none, 0, [], none, 0, none, 0⟩
theorem zero_rs (w : World) : RS w.heap.size (w.alloc (.cells #[.slice none 0 0, .slice none 0 0, .slice none 0 0, .slice none 0 0, .slice none 0 0, .int .i64 0, .slice none 0 0, .string ⟨#[]⟩, .slice none 0 0, .slice none 0 0, .slice none 0 0, .slice none 0 0] 60)) w.heap.size sm0 :=
  ⟨sm0_ok, sm0_may, [], rpZ, 0, .slice none 0 0, .string ⟨#[]⟩, .slice none 0 0, .slice none 0 0, .slice none 0 0, .slice none 0 0, ⟨Blk.new w _ _, Nat.le_refl _, ⟨World.ownsRow_nil _ _ _ _, rfl, World.ownsRow_nil _ _ _ _, World.ownsRow_nil _ _ _ _, World.ownsRow_nil _ _ _ _, World.ownsRow_nil _ _ _ _, (fun x hx => by cases hx), (fun x hx => by cases hx)⟩⟩, ⟨rfl, rfl, rfl⟩⟩
theorem fl_err {s : Sm} {l : Tx} {n : Int} (h : ovL s = .error n) : liL s (false, l) = .error n := by show flL s l = _; unfold flL; rw [h]
theorem fl_ok {s s1 : Sm} {l : Tx} (h : ovL s = .ok s1) : liL s (false, l) = fwL s1 l := by show flL s l = _; unfold flL; rw [h]

set_option maxRecDepth 20000 in
set_option maxHeartbeats 8000000 in
theorem rparse_any (s : ByteArray) (w : World) (hs : s.size ≤ maxLen) :
    Calls Tryz.prog 5 #[.string s] w (RPSays (bl s) w) := by
  have HCut := hide (fun w => rlines_any s w hs)
  go_enter Tryz.func5, Tryz.ntmps5
  go_wp2_with fail
  have hg0 := Blk.new w #[.slice none 0 0, .slice none 0 0, .slice none 0 0] 26
  have qg0 := (Q.refl w).alloc (.cells #[.slice none 0 0, .slice none 0 0, .slice none 0 0] 26)
  generalize hG0 : w.heap.size = G0 at hg0 ⊢
  have HG0 := hide hG0
  generalize w.alloc (.cells #[.slice none 0 0, .slice none 0 0, .slice none 0 0] 26) = w1 at *
  clear hG0
  refine (unhide HCut w1).mono ?_
  rintro e w2 ⟨ao, cap, rfl, hol, q2⟩
  have hg2 := hg0.q q2
  have q02 := qg0.trans q2
  cases hln : lnC (bl s) with
  | none =>
    have HX := hide (mf_none hln)
    rw [(ln_bad hln).1, (ln_bad hln).2]
    have HGW := hide hg2
    have HQW := hide q02
    have e0 : w2.cell? ⟨G0, 0, none⟩ = some (.slice none 0 0) := hg2.cell 0 rfl
    have e1 : w2.cell? ⟨G0, 1, none⟩ = some (.slice none 0 0) := hg2.cell 1 rfl
    have e2 : w2.cell? ⟨G0, 2, none⟩ = some (.slice none 0 0) := hg2.cell 2 rfl
    have f0 := hg2.frz 0
    have f1 := hg2.frz 1
    have f2 := hg2.frz 2
    clear hln hol hg0 hg2 q2 qg0
    go_wp2_with fail
    change bodyPost _ _ _ _ _ (gS w2 G0 (.slice none 0 0) (.slice none 0 0) (.slice none 0 0))
    obtain ⟨g0, g1, g2, gf⟩ := gS_facts (unhide HGW) (.slice none 0 0) (.slice none 0 0) (.slice none 0 0)
    generalize gS w2 G0 (.slice none 0 0) (.slice none 0 0) (.slice none 0 0) = wf at *
    refine bodyPost_ret (v := .tuple #[.agg #[.slice none 0 0, .slice none 0 0, .slice none 0 0], .int .i64 800]) (by simp [results, Tryz.results5, go_sem, g0, g1, g2]) rfl ?_
    exact RPSays.err (unhide HX) (Below.trans (unhide HQW) (gf.below (unhide HQW).size (fun k hk => by rw [unhide HG0, hk]; exact Nat.le_refl _)))
  | some ls =>
    obtain ⟨hlen, hlf⟩ := lnC_facts hln
    rw [(ln_good hln).1] at hol
    rw [(ln_good hln).1, (ln_good hln).2]
    have HLN := hide hln
    have HLF := hide hlf
    have hms := zero_rs w2
    have qr := (Q.refl w2).alloc (.cells #[.slice none 0 0, .slice none 0 0, .slice none 0 0, .slice none 0 0, .slice none 0 0, .int .i64 0, .slice none 0 0, .string ⟨#[]⟩, .slice none 0 0, .slice none 0 0, .slice none 0 0, .slice none 0 0] 60)
    have hrow := ownL_row hol
    have hg3s := hg2.hi
    go_wp2_with fail
    change Code.wp _ (Code.loop _) _ _ (w2.alloc (.cells #[.slice none 0 0, .slice none 0 0, .slice none 0 0, .slice none 0 0, .slice none 0 0, .int .i64 0, .slice none 0 0, .string ⟨#[]⟩, .slice none 0 0, .slice none 0 0, .slice none 0 0, .slice none 0 0] 60)) at *
    have HRW : Hid (ls = [] ∨ ∃ g o, ao = some ⟨g, o, none⟩ ∧ g < w2.heap.size ∧ ∀ (j i : Nat) x v, ls[j]? = some x → i < 2 → (lv x)[i]? = some v → (w2.alloc (.cells #[.slice none 0 0, .slice none 0 0, .slice none 0 0, .slice none 0 0, .slice none 0 0, .int .i64 0, .slice none 0 0, .string ⟨#[]⟩, .slice none 0 0, .slice none 0 0, .slice none 0 0, .slice none 0 0] 60)).cell? ⟨g, o + (j * 2 + i), none⟩ = some v) := by
      rcases hrow with e | ⟨g, o, e, hg, hc⟩
      · exact Or.inl e
      · exact Or.inr ⟨g, o, e, hg, fun j i x v h1 h2 h3 => (qr.cell (p := ⟨g, o + (j * 2 + i), none⟩) hg).trans (hc j i x v h1 h2 h3)⟩
    have HMS := hide hms
    have HG4 := hide (hg2.q qr)
    have HQ4 := hide (q02.trans qr)
    have hR4 : w2.heap.size ≤ (w2.alloc (.cells #[.slice none 0 0, .slice none 0 0, .slice none 0 0, .slice none 0 0, .slice none 0 0, .int .i64 0, .slice none 0 0, .string ⟨#[]⟩, .slice none 0 0, .slice none 0 0, .slice none 0 0, .slice none 0 0] 60)).heap.size := qr.size
    have HWR : Hid (w.heap.size ≤ w2.heap.size) := q02.size
    clear hms hrow hg0 hg2 qr q02 q2 qg0 hol hln hlf
    generalize hRn : w2.heap.size = R at *
    generalize w2.alloc (.cells #[.slice none 0 0, .slice none 0 0, .slice none 0 0, .slice none 0 0, .slice none 0 0, .int .i64 0, .slice none 0 0, .string ⟨#[]⟩, .slice none 0 0, .slice none 0 0, .slice none 0 0, .slice none 0 0] 60) = w4 at *
    clear hRn
    go_loopw [7, 8] (fun i _ wr => ∃ (k : Nat) (st : Sm), k ≤ ls.length ∧ i = .int .i64 k ∧ Hid (lsL sm0 (ls.take k) = .ok st) ∧ Hid (RS R wr R st) ∧ Hid (Below R w4 wr)) (fun i _ _ => ls.length - (intOf i).toNat)
    case atStart => exact ⟨0, sm0, Nat.zero_le _, rfl, rfl, HMS, Below.refl _ _⟩
    case round =>
      obtain ⟨k, st, hk, rfl, HLS, HMr, HBr⟩ := hrel
      have hRr : R ≤ wr.heap.size := Nat.le_trans hR4 (unhide HBr).size
      by_cases hlt : k < ls.length
      · rcases (unhide HRW) with he | ⟨g, o, rfl, hg, hcell⟩
        · rw [he] at hlt; simp at hlt
        obtain ⟨x, hx⟩ : ∃ x, ls[k]? = some x := ⟨ls[k], List.getElem?_eq_getElem hlt⟩
        obtain ⟨xd, xl⟩ := x
        have c1 : wr.cell? ⟨g, o + k * 2, none⟩ = some (.bool xd) := ((unhide HBr).cell (p := ⟨g, o + (k * 2 + 0), none⟩) hg).trans (hcell k 0 _ _ hx (by decide) rfl)
        have c2 : wr.cell? ⟨g, o + k * 2 + 1, none⟩ = some (.string ⟨xl.toArray⟩) := ((unhide HBr).cell (p := ⟨g, o + (k * 2 + 1), none⟩) hg).trans (hcell k 1 _ _ hx (by decide) rfl)
        obtain ⟨hx1, hx2⟩ := HLF.out (xd, xl) (List.mem_of_getElem? hx)
        have hxz : (⟨xl.toArray⟩ : ByteArray).size ≤ 2049 := by rw [← bl_size]; exact hx1
        have HXK := hide hx
        have hcr : ∀ w6, Below R wr w6 → w6.cell? ⟨g, o + k * 2 + 1, none⟩ = some (.string ⟨xl.toArray⟩) := fun w6 hb => (hb.cell (p := ⟨g, o + k * 2 + 1, none⟩) hg).trans c2
        have HCR := hide hcr
        clear hcell hx hcr
        cases xd with
        | true =>
          have HC := hide (rdeep_any R R st ⟨xl.toArray⟩ wr (unhide HMr) hRr hxz hx2)
          rw [show bl (⟨xl.toArray⟩ : ByteArray) = xl from rfl, show dpL st xl = liL st (true, xl) from rfl] at HC
          clear hx1 hx2 hxz HCR
          generalize (⟨xl.toArray⟩ : ByteArray) = xt at *
          go_wp2_with fail
          refine (unhide HC).mono ?_
          intro e w6 h6
          have hB6 : Below R w4 w6 := Below.trans (unhide HBr) h6.1
          cases hli : liL st (true, xl) with
          | error n =>
            rw [hli] at h6
            obtain ⟨_, rfl⟩ := h6
            have HX := hide (mf_line (unhide HLN) (lsL_stop HLS.out (unhide HXK) hli))
            have hn := liL_err hli
            have g00 : (n == 0) = false := by simpa using hn
            have g01 : (n != 0) = true := by simpa using hn
            have HGW : Hid (Blk w6 G0 #[.slice none 0 0, .slice none 0 0, .slice none 0 0] 26) := ((hB6).block G0 hg3s).trans (unhide HG4)
            have HQW : Hid (Q w w6) := Below.trans (unhide HQ4) ((hB6).mono (unhide HWR))
            have e0 : w6.cell? ⟨G0, 0, none⟩ = some (.slice none 0 0) := (unhide HGW).cell 0 rfl
            have e1 : w6.cell? ⟨G0, 1, none⟩ = some (.slice none 0 0) := (unhide HGW).cell 1 rfl
            have e2 : w6.cell? ⟨G0, 2, none⟩ = some (.slice none 0 0) := (unhide HGW).cell 2 rfl
            have f0 := (unhide HGW).frz 0
            have f1 := (unhide HGW).frz 1
            have f2 := (unhide HGW).frz 2
            clear hli hn
            go_wp2_with fail
            change bodyPost _ _ _ _ _ (gS w6 G0 (.slice none 0 0) (.slice none 0 0) (.slice none 0 0))
            obtain ⟨g0, g1, g2, gf⟩ := gS_facts (unhide HGW) (.slice none 0 0) (.slice none 0 0) (.slice none 0 0)
            generalize gS w6 G0 (.slice none 0 0) (.slice none 0 0) (.slice none 0 0) = wf at *
            refine bodyPost_ret (v := .tuple #[.agg #[.slice none 0 0, .slice none 0 0, .slice none 0 0], .int .i64 n]) (by simp [results, Tryz.results5, go_sem, g0, g1, g2]) rfl ?_
            exact RPSays.err (unhide HX) (Below.trans (unhide HQW) (gf.below (unhide HQW).size (fun k hk => by rw [unhide HG0, hk]; exact Nat.le_refl _)))
          | ok st2 =>
            rw [hli] at h6
            obtain ⟨_, rfl, hm6⟩ := h6
            have HLS2 := hide (lsL_take HLS.out (unhide HXK) hli)
            have HM6 := hide hm6
            have HB6 := hide (hB6)
            clear hli HLS HMr HBr
            go_wp2_with fail
            go_roundw
            case rel => exact ⟨k + 1, st2, by omega, by go_num, HLS2, HM6, HB6⟩
            case measure => simp [intOf]; omega
        | false =>
          have HC := hide (rover_any R R st wr (unhide HMr) hRr)
          go_wp2_with fail
          refine (unhide HC).mono ?_
          intro e w6 h6
          have hB6 : Below R w4 w6 := Below.trans (unhide HBr) h6.1
          cases hov : ovL st with
          | error n =>
            rw [hov] at h6
            obtain ⟨_, rfl⟩ := h6
            have hli := fl_err (l := xl) hov
            clear hov c1 c2 HCR
            have HX := hide (mf_line (unhide HLN) (lsL_stop HLS.out (unhide HXK) hli))
            have hn := liL_err hli
            have g00 : (n == 0) = false := by simpa using hn
            have g01 : (n != 0) = true := by simpa using hn
            have HGW : Hid (Blk w6 G0 #[.slice none 0 0, .slice none 0 0, .slice none 0 0] 26) := ((hB6).block G0 hg3s).trans (unhide HG4)
            have HQW : Hid (Q w w6) := Below.trans (unhide HQ4) ((hB6).mono (unhide HWR))
            have e0 : w6.cell? ⟨G0, 0, none⟩ = some (.slice none 0 0) := (unhide HGW).cell 0 rfl
            have e1 : w6.cell? ⟨G0, 1, none⟩ = some (.slice none 0 0) := (unhide HGW).cell 1 rfl
            have e2 : w6.cell? ⟨G0, 2, none⟩ = some (.slice none 0 0) := (unhide HGW).cell 2 rfl
            have f0 := (unhide HGW).frz 0
            have f1 := (unhide HGW).frz 1
            have f2 := (unhide HGW).frz 2
            clear hli hn
            go_wp2_with fail
            change bodyPost _ _ _ _ _ (gS w6 G0 (.slice none 0 0) (.slice none 0 0) (.slice none 0 0))
            obtain ⟨g0, g1, g2, gf⟩ := gS_facts (unhide HGW) (.slice none 0 0) (.slice none 0 0) (.slice none 0 0)
            generalize gS w6 G0 (.slice none 0 0) (.slice none 0 0) (.slice none 0 0) = wf at *
            refine bodyPost_ret (v := .tuple #[.agg #[.slice none 0 0, .slice none 0 0, .slice none 0 0], .int .i64 n]) (by simp [results, Tryz.results5, go_sem, g0, g1, g2]) rfl ?_
            exact RPSays.err (unhide HX) (Below.trans (unhide HQW) (gf.below (unhide HQW).size (fun k hk => by rw [unhide HG0, hk]; exact Nat.le_refl _)))
          | ok s1 =>
            rw [hov] at h6
            obtain ⟨hb6, rfl, hm6⟩ := h6
            have hun1 : s1.un = none := (ov_may hov (unhide HMr).2.1).2
            have d2 := unhide HCR w6 hb6
            have HC2 := hide (rflat_any R R s1 ⟨xl.toArray⟩ w6 hm6 hun1 (Nat.le_trans hRr hb6.size) hxz)
            rw [show bl (⟨xl.toArray⟩ : ByteArray) = xl from rfl, ← fl_ok (l := xl) hov] at HC2
            have HB6' := hide hB6
            clear hov hm6 hun1 HCR hx1 hx2 hxz c1 c2 HC hb6 hB6
            generalize (⟨xl.toArray⟩ : ByteArray) = xt at *
            go_wp2_with fail
            refine (unhide HC2).mono ?_
            intro e w7 h7
            have hB7 : Below R w4 w7 := Below.trans (unhide HB6') h7.1
            cases hli : liL st (false, xl) with
            | error n =>
              rw [hli] at h7
              obtain ⟨_, rfl⟩ := h7
              have HX := hide (mf_line (unhide HLN) (lsL_stop HLS.out (unhide HXK) hli))
              have hn := liL_err hli
              have g00 : (n == 0) = false := by simpa using hn
              have g01 : (n != 0) = true := by simpa using hn
              have HGW : Hid (Blk w7 G0 #[.slice none 0 0, .slice none 0 0, .slice none 0 0] 26) := ((hB7).block G0 hg3s).trans (unhide HG4)
              have HQW : Hid (Q w w7) := Below.trans (unhide HQ4) ((hB7).mono (unhide HWR))
              have e0 : w7.cell? ⟨G0, 0, none⟩ = some (.slice none 0 0) := (unhide HGW).cell 0 rfl
              have e1 : w7.cell? ⟨G0, 1, none⟩ = some (.slice none 0 0) := (unhide HGW).cell 1 rfl
              have e2 : w7.cell? ⟨G0, 2, none⟩ = some (.slice none 0 0) := (unhide HGW).cell 2 rfl
              have f0 := (unhide HGW).frz 0
              have f1 := (unhide HGW).frz 1
              have f2 := (unhide HGW).frz 2
              clear hli hn
              go_wp2_with fail
              change bodyPost _ _ _ _ _ (gS w7 G0 (.slice none 0 0) (.slice none 0 0) (.slice none 0 0))
              obtain ⟨g0, g1, g2, gf⟩ := gS_facts (unhide HGW) (.slice none 0 0) (.slice none 0 0) (.slice none 0 0)
              generalize gS w7 G0 (.slice none 0 0) (.slice none 0 0) (.slice none 0 0) = wf at *
              refine bodyPost_ret (v := .tuple #[.agg #[.slice none 0 0, .slice none 0 0, .slice none 0 0], .int .i64 n]) (by simp [results, Tryz.results5, go_sem, g0, g1, g2]) rfl ?_
              exact RPSays.err (unhide HX) (Below.trans (unhide HQW) (gf.below (unhide HQW).size (fun k hk => by rw [unhide HG0, hk]; exact Nat.le_refl _)))
            | ok st2 =>
              rw [hli] at h7
              obtain ⟨_, rfl, hm7⟩ := h7
              have HLS2 := hide (lsL_take HLS.out (unhide HXK) hli)
              have HM6 := hide hm7
              have HB6 := hide (hB7)
              clear hli HLS HMr HBr
              go_wp2_with fail
              go_roundw
              case rel => exact ⟨k + 1, st2, by omega, by go_num, HLS2, HM6, HB6⟩
              case measure => simp [intOf]; omega
      · have HLE : Hid (lsL sm0 ls = .ok st) := by
          have := HLS.out
          rw [List.take_of_length_le (by omega)] at this
          exact this
        have HC := hide (rover_any R R st wr (unhide HMr) hRr)
        go_wp2_with fail
        refine (unhide HC).mono ?_
        intro e w6 h6
        have hB6 : Below R w4 w6 := Below.trans (unhide HBr) h6.1
        cases hov : ovL st with
        | error n =>
          rw [hov] at h6
          obtain ⟨_, rfl⟩ := h6
          have HX := hide (mf_over (unhide HLN) HLE.out hov)
          have hn : n ≠ 0 := by rcases ovL_err hov with e | e <;> omega
          have g00 : (n == 0) = false := by simpa using hn
          have g01 : (n != 0) = true := by simpa using hn
          have HGW : Hid (Blk w6 G0 #[.slice none 0 0, .slice none 0 0, .slice none 0 0] 26) := ((hB6).block G0 hg3s).trans (unhide HG4)
          have HQW : Hid (Q w w6) := Below.trans (unhide HQ4) ((hB6).mono (unhide HWR))
          have e0 : w6.cell? ⟨G0, 0, none⟩ = some (.slice none 0 0) := (unhide HGW).cell 0 rfl
          have e1 : w6.cell? ⟨G0, 1, none⟩ = some (.slice none 0 0) := (unhide HGW).cell 1 rfl
          have e2 : w6.cell? ⟨G0, 2, none⟩ = some (.slice none 0 0) := (unhide HGW).cell 2 rfl
          have f0 := (unhide HGW).frz 0
          have f1 := (unhide HGW).frz 1
          have f2 := (unhide HGW).frz 2
          clear hov hn
          go_wp2_with fail
          change bodyPost _ _ _ _ _ (gS w6 G0 (.slice none 0 0) (.slice none 0 0) (.slice none 0 0))
          obtain ⟨g0, g1, g2, gf⟩ := gS_facts (unhide HGW) (.slice none 0 0) (.slice none 0 0) (.slice none 0 0)
          generalize gS w6 G0 (.slice none 0 0) (.slice none 0 0) (.slice none 0 0) = wf at *
          refine bodyPost_ret (v := .tuple #[.agg #[.slice none 0 0, .slice none 0 0, .slice none 0 0], .int .i64 n]) (by simp [results, Tryz.results5, go_sem, g0, g1, g2]) rfl ?_
          exact RPSays.err (unhide HX) (Below.trans (unhide HQW) (gf.below (unhide HQW).size (fun k hk => by rw [unhide HG0, hk]; exact Nat.le_refl _)))
        | ok s1 =>
          rw [hov] at h6
          obtain ⟨_, rfl, ok1, hm1, ps1, A1, op1, b0, b1, b2, b3, b4, vo, hp1, hu1⟩ := h6
          have HX := hide (mf_ok (unhide HLN) HLE.out hov)
          have hun1 : s1.un = none := (ov_may hov (unhide HMr).2.1).2
          unfold UnP at hu1
          rw [hun1] at hu1
          obtain ⟨_, hps1, _⟩ := hu1
          have d0 := hp1.cells.c0
          have d1 := hp1.cells.c1
          have d2 := hp1.cells.c2
          have HP1 := hide hp1
          have HPS1 := hide hps1
          have HGW : Hid (Blk w6 G0 #[.slice none 0 0, .slice none 0 0, .slice none 0 0] 26) := ((hB6).block G0 hg3s).trans (unhide HG4)
          have HQW : Hid (Q w w6) := Below.trans (unhide HQ4) ((hB6).mono (unhide HWR))
          have e0 : w6.cell? ⟨G0, 0, none⟩ = some (.slice none 0 0) := (unhide HGW).cell 0 rfl
          have e1 : w6.cell? ⟨G0, 1, none⟩ = some (.slice none 0 0) := (unhide HGW).cell 1 rfl
          have e2 : w6.cell? ⟨G0, 2, none⟩ = some (.slice none 0 0) := (unhide HGW).cell 2 rfl
          have f0 := (unhide HGW).frz 0
          have f1 := (unhide HGW).frz 1
          have f2 := (unhide HGW).frz 2
          clear hov hun1 hp1 hps1 ok1 hm1
          go_wp2_with fail
          change bodyPost _ _ _ _ _ (gS w6 G0 (.slice A1.eo A1.es.length A1.ec) (.slice A1.po ps1.length A1.pc) (.slice A1.dd s1.ds.length A1.dc))
          obtain ⟨g0, g1, g2, gf⟩ := gS_facts (unhide HGW) (.slice A1.eo A1.es.length A1.ec) (.slice A1.po ps1.length A1.pc) (.slice A1.dd s1.ds.length A1.dc)
          generalize gS w6 G0 (.slice A1.eo A1.es.length A1.ec) (.slice A1.po ps1.length A1.pc) (.slice A1.dd s1.ds.length A1.dc) = wf at *
          refine bodyPost_ret (v := .tuple #[.agg #[.slice A1.eo A1.es.length A1.ec, .slice A1.po ps1.length A1.pc, .slice A1.dd s1.ds.length A1.dc], .int .i64 0]) (by simp [results, Tryz.results5, go_sem, g0, g1, g2]) rfl ?_
          have hro := (unhide HP1).ro
          have hnG : ∀ k, R ≤ k → ¬ k = G0 := fun k hk e => by omega
          have hgs := mf_s (bl s)
          rw [(unhide HX).1] at hgs
          have hle : A1.es.length ≤ 4096 := by have h1 := congrArg List.length hro.em; rw [List.length_map] at h1; rw [h1]; exact hgs.le
          refine ⟨A1.es, A1.eo, A1.po, A1.dd, A1.ec, A1.pc, A1.dc, by rw [(unhide HX).1, (unhide HX).2, HPS1.out]; rfl, ?_, Below.trans (unhide HQW) (gf.below (unhide HQW).size (fun k hk => by rw [unhide HG0, hk]; exact Nat.le_refl _))⟩
          rw [(unhide HX).1]
          have hpp := own_fr hro.p gf (fun k hk => hnG k (hro.p.lt k hk).1)
          refine ⟨RowG.own ev_len (by decide) (own_fr hro.e gf (fun k hk => hnG k (hro.e.lt k hk).1)), hro.em, ?_, OwnT.row (own_fr hro.d gf (fun k hk => hnG k (hro.d.lt k hk).1)), fun x hx => ((hro.q x hx).fr gf (fun k hk => hnG k ((hro.q x hx).lt k hk).1)).rd, fun x hx => hgs.e x.1 (by show x.1 ∈ s1.es; rw [← hro.em]; exact List.mem_map_of_mem hx), hle, hgs.lp, hgs.ld⟩
          have := OwnPl.row hpp
          rw [HPS1.out] at this; exact this

end Go.Proofs.YtpddckgkaopnlaaGreatDoor
