/- Several texts of mine in one: BtRow, PcRow, ScRSet. -/
import Derived.Test.YtpddckgkaopnlaaGreatDoorWk1
import Derived.Test.YtpddckgkaopnlaaGreatDoorPk1
import Derived.Test.YtpddckgkaopnlaaGreatDoorPcVar
import Derived.Test.YtpddckgkaopnlaaGreatDoorSc1
/- Rows of bytes that a call owns: how they lie, one more appended, a text of them; no conditions. -/
namespace Go.Proofs.YtpddckgkaopnlaaGreatDoor
open Go.RowKit

theorem Tryz.infoB : (Tryz.prog.info? 5).map (fun i => (i.zero, i.size, i.bytes)) = some (some (.int .u8 0), 1, 1) := by kernel_rfl
def bv (c : UInt8) : List Value := [.int .u8 (c.toNat : Int)]
theorem bv_len (c : UInt8) : (bv c).length = 1 := rfl
abbrev OwnB (w : World) (B : Nat) (ao : Option Addr) (cap : Nat) (tb : List UInt8) : Prop := w.ownsRow B 5 1 (.slice ao tb.length cap) tb.length (lay bv tb)

theorem OwnB.snoc {w : World} {B cap : Nat} {ao : Option Addr} {ps : List UInt8} {p : UInt8} (h : w.ownsRow B 5 1 (.slice ao (ps.length + 1) cap) (ps.length + 1) (lay bv ps ++ [.int .u8 (p.toNat : Int)])) : OwnB w B ao cap (ps ++ [p]) := by
  show w.ownsRow B _ 1 (.slice ao (ps ++ [p]).length cap) (ps ++ [p]).length (lay bv (ps ++ [p]))
  rw [lay_snoc, List.length_append]; exact h

theorem str_of_row {w : World} {B cap : Nat} {ao : Option Addr} {tb : List UInt8} (h : OwnB w B ao cap tb) (hn : tb ≠ []) :
    (convert 107 9 (.slice ao tb.length cap)).run Tryz.prog w = .ok (.string ⟨tb.toArray⟩) w := by
  obtain ⟨g, rfl, hB, hg, hf, hc⟩ := own_some bv_len (by decide) (List.length_pos_iff.2 hn) h
  refine run_convert_bytes_back w _ _ 5 ⟨g, 0, none⟩ cap tb Tryz.underlying107 Tryz.underlying5 Tryz.underlying9 ?_
  intro j hj
  have := hc j 0 tb[j] _ (List.getElem?_eq_getElem hj) (by decide) rfl
  rw [Nat.mul_one, Nat.add_zero] at this
  rw [← this]
  congr 1
  unfold Addr.add; split <;> simp_all

end Go.Proofs.YtpddckgkaopnlaaGreatDoor

/- Rows of pieces and of bytes that a call owns: how they lie, one more appended; package pieces' withText; the conditions: at most 2048 of each. -/
namespace Go.Proofs.YtpddckgkaopnlaaGreatDoor
open Go.RowKit

theorem Tryz.infoP : (Tryz.prog.info? 166).map (fun i => (i.zero, i.size, i.bytes)) = some (some (.agg #[.bool false, .string ByteArray.empty]), 2, 24) := by kernel_rfl


def pv (p : Pc) : List Value := [.bool p.1, .string ⟨p.2.toArray⟩]
theorem pv_len (p : Pc) : (pv p).length = 2 := rfl

abbrev OwnP (w : World) (B : Nat) (ao : Option Addr) (cap : Nat) (ps : List Pc) : Prop := w.ownsRow B 166 2 (.slice ao ps.length cap) ps.length (lay pv ps)

theorem OwnP.snoc {w : World} {B cap : Nat} {ao : Option Addr} {ps : List Pc} {p : Pc} (h : w.ownsRow B 166 2 (.slice ao (ps.length + 1) cap) (ps.length + 1) (lay pv ps ++ [.bool p.1, .string ⟨p.2.toArray⟩])) : OwnP w B ao cap (ps ++ [p]) := by
  show w.ownsRow B _ 2 (.slice ao (ps ++ [p]).length cap) (ps ++ [p]).length (lay pv (ps ++ [p]))
  rw [lay_snoc, List.length_append]; exact h
set_option maxHeartbeats 2000000 in
theorem withText_any (cs : List Pc) (ao bo : Option Addr) (cap bcap : Nat) (tb : List UInt8) (B : Nat) (w : World) (hown : OwnP w B ao cap cs) (htx : OwnB w B bo bcap tb) (hB : B ≤ w.heap.size) (hn : cs.length ≤ 2048) (ht : tb.length ≤ 2048) :
    Calls Tryz.prog 163 #[.slice ao cs.length cap, .slice bo tb.length bcap] w fun e w' =>
      ∃ ao' cap', e = .returned (.slice ao' (flush cs tb).length cap') ∧ OwnP w' B ao' cap' (flush cs tb) ∧ Below B w w' := by
  obtain ⟨i0, hi, hz0, hz1, hz2⟩ := info_parts Tryz.infoP
  by_cases h0 : tb = []
  · have HF := hide (show flush cs tb = cs by rw [h0, flush_nil])
    have hl0 : ((tb.length : Int) == 0) = true := by rw [h0]; rfl
    clear h0
    go_enter Tryz.func163, Tryz.ntmps163
    go_wp2_with fail
    go_ret
    rw [unhide HF]
    exact ⟨ao, cap, rfl, hown, Below.refl _ _⟩
  · have HF := hide (flush_some cs tb h0)
    have hl1 : 1 ≤ tb.length := List.length_pos_iff.2 h0
    have hl0 : ((tb.length : Int) == 0) = false := beq_eq_false_iff_ne.2 (by omega)
    have hcv := str_of_row htx h0
    have hyc := own_le hown
    clear h0 htx
    go_enter Tryz.func163, Tryz.ntmps163
    go_wp2_with (at_builtin; refine wpList_append_lies _ rfl _ _ 161 rfl B 166 i0 (.agg #[.bool false, .string ByteArray.empty]) 2 24 Tryz.underlying161 hi hz0 hz1 hz2 rfl (by decide) _ _ _ rfl (hown.alloc _) ⟨w.heap.size, 0, none⟩ 1 1 [.bool false, .string ⟨tb.toArray⟩] rfl rfl (news_new _ #[.bool false, .string ⟨tb.toArray⟩] _) (one_bs _ _) (by decide) (by unfold maxLen; omega) (by omega) (le_alloc hB _) (w.heap.size + 1) (size_alloc _ _) ?_)
    intro g cp w1 hown1 hgrow hor hglt
    have hq1 : Below B w w1 := Below.grown ((Below.refl _ _).alloc hB _) hgrow (by simp; omega) (fun r hr => (hown.lt r hr).1)
    have HO := hide (OwnP.snoc (p := (false, tb)) hown1)
    clear hown1 hgrow hown hor
    go_wp2
    go_ret
    rw [unhide HF]
    exact ⟨some ⟨g, 0, none⟩, cp, by simp, unhide HO, hq1⟩

end Go.Proofs.YtpddckgkaopnlaaGreatDoor

/- What the document's own Set answers; the conditions: the binds lie in memory, each text is no longer than a string can be. -/
namespace Go.Proofs.YtpddckgkaopnlaaGreatDoor
open Go.RowKit

set_option maxRecDepth 20000 in
set_option maxHeartbeats 4000000 in
theorem rSet_any (bs : List Bd) (n t : ByteArray) (ao : Option Addr) (cap : Nat) (w : World) (hr : RowD w ao bs) (hf : Fit bs) (hs : bs.length ≤ maxLen) (hn : n.size ≤ maxLen) (ht : t.size ≤ maxLen) :
    Calls Tryz.prog 88 #[.slice ao bs.length cap, .string n, .string t] w (SetSays bs n t w) := by
  obtain ⟨i0, hi, hz0, hz1, hz2⟩ := info_parts Tryz.infoD
  have HM := hide (fun w' (h : Q w w') => rMay_any bs ao cap w' (hr.q h) hf hs)
  have HN := hide (nameMay_any n · hn)
  have HP := hide (rplain_any t 0 256 · ht)
  have HPE : Hid ((plainL (bl t) && decide ((0 : Int) ≤ (t.size : Int)) && decide ((t.size : Int) ≤ 256)) = txB t) := by
    show _ = _
    unfold txB
    rw [decide_eq_true (show (0 : Int) ≤ (t.size : Int) by omega), Bool.and_true, Bool.and_comm]
  rw [HPE.out] at HP
  clear HPE
  cases hm : scOk bs
  · have HF := hide (set_no (bs := bs) (n := n) (t := t) (by rw [hm]; rfl))
    rw [hm] at HM
    clear hm
    go_enter Tryz.func88, Tryz.ntmps88
    go_wp2_with fail
    refine (unhide HM _ (Q.refl _)).mono ?_
    rintro e w1 ⟨rfl, q1⟩
    go_wp2_with fail
    go_ret2
    obtain ⟨ao', cap', e1, e2⟩ := set_nil w1 w.heap.size (unhide HF)
    exact ⟨ao', cap', e1, e2, q1⟩
  cases hmn : mayB n
  · have HF := hide (set_no (bs := bs) (n := n) (t := t) (by rw [hmn, hm]; rfl))
    rw [hm] at HM
    rw [hmn] at HN
    clear hm hmn
    go_enter Tryz.func88, Tryz.ntmps88
    go_wp2_with fail
    refine (unhide HM _ (Q.refl _)).mono ?_
    rintro e w1 ⟨rfl, q1⟩
    go_wp2_with fail
    refine (unhide HN _).mono ?_
    rintro e w2 ⟨rfl, rfl⟩
    go_wp2_with fail
    go_ret2
    obtain ⟨ao', cap', e1, e2⟩ := set_nil w2 w.heap.size (unhide HF)
    exact ⟨ao', cap', e1, e2, q1⟩
  cases hmt : txB t
  · have HF := hide (set_no (bs := bs) (n := n) (t := t) (by rw [hmt, Bool.and_false]))
    rw [hm] at HM
    rw [hmn] at HN
    rw [hmt] at HP
    clear hm hmn hmt
    go_enter Tryz.func88, Tryz.ntmps88
    go_wp2_with fail
    refine (unhide HM _ (Q.refl _)).mono ?_
    rintro e w1 ⟨rfl, q1⟩
    go_wp2_with fail
    refine (unhide HN _).mono ?_
    rintro e w2 ⟨rfl, rfl⟩
    go_wp2_with fail
    refine (unhide HP _).mono ?_
    rintro e w3 ⟨rfl, rfl⟩
    go_wp2_with fail
    go_ret2
    obtain ⟨ao', cap', e1, e2⟩ := set_nil w3 w.heap.size (unhide HF)
    exact ⟨ao', cap', e1, e2, q1⟩
  have hall : (scOk bs && mayB n && txB t) = true := by rw [hmn, hm, hmt]; rfl
  have hl16 := (scOk_parts hm).1
  have HALL := hide hall
  rw [hm] at HM
  rw [hmn] at HN
  rw [hmt] at HP
  clear hm hmn hmt hall hf
  go_enter Tryz.func88, Tryz.ntmps88
  go_wp2_with fail
  refine (unhide HM _ (Q.refl _)).mono ?_
  rintro e w1 ⟨rfl, q1⟩
  go_wp2_with fail
  refine (unhide HN _).mono ?_
  rintro e w2 ⟨rfl, rfl⟩
  go_wp2_with fail
  refine (unhide HP _).mono ?_
  rintro e w3 ⟨rfl, rfl⟩
  have hB3 := q1.size
  have HRW := hide (hr.q q1)
  go_wp2_with (at_builtin; refine wpList_append_row rfl _ _ 47 rfl w.heap.size 169 i0 (.agg #[.string ByteArray.empty, .string ByteArray.empty]) 2 32 Tryz.underlying47 hi hz0 hz1 hz2 rfl (by decide) (some ⟨w3.heap.size, 0, none⟩) 0 0 [] rfl (World.ownsRow_made w3 #[] 0 hB3 (by unfold maxLen; omega) rfl) ao bs.length cap (lay dv bs) rfl (SrcRow.row dv_len (by decide) ((unhide HRW).q ((Q.refl _).alloc _))) (one_layD bs) (by unfold maxLen; omega) (by omega) (le_alloc hB3 _) ?_)
  intro ao4 cap4 w4 hown4 hgrow4
  have hq4 : Q w w4 := Below.grown (q1.alloc _) hgrow4 (le_alloc q1.size _) (fun r hr => by cases hr; exact hB3)
  have own4 : OwnD w4 w.heap.size ao4 cap4 bs := by simpa using hown4
  have HO4 := hide own4
  clear hown4 hgrow4 HM HN HP HRW hr
  go_wp2_with fail
  go_loopw [9] (fun i wr => ∃ k : Nat, k ≤ bs.length ∧ i = .int .i64 k ∧ Hid ((bs.take k).any (named n) = false) ∧ wr = w4) (fun i _ => bs.length - (intOf i).toNat)
  case atStart => exact ⟨0, Nat.zero_le _, rfl, rfl, rfl⟩
  case round =>
    obtain ⟨k, hk, rfl, HA, rfl⟩ := hrel
    by_cases hlt : k < bs.length
    · obtain ⟨g, rfl, hgB, hg, hfz, hc⟩ := own_some dv_len (by decide) (by omega) own4
      obtain ⟨b, hb⟩ : ∃ b, bs[k]? = some b := ⟨bs[k], List.getElem?_eq_getElem hlt⟩
      have c1 : wr.cell? ⟨g, k * 2, none⟩ = some (.string b.1) := hc k 0 b _ hb (by decide) rfl
      have c2 : wr.cell? ⟨g, k * 2 + 1, none⟩ = some (.string b.2) := hc k 1 b _ hb (by decide) rfl
      have k0 : (0 : Int) ≤ (k : Int) := Int.natCast_nonneg _
      have k1 : (k : Int) < (bs.length : Int) := by omega
      have htl := named_toList n b
      have hfr := hfz (k * 2 + 1)
      have HT := hide (any_take_succ (named n) hb)
      have HG := hide (fun h => set_hit (t := t) (unhide HALL) (hit_at (n := n) hb HA.out h))
      have HON := hide (fun h => own_one (n := n) (t := t) (unhide HO4) hb h)
      clear hb hc hfz own4
      cases hnb : named n b
      · rw [hnb] at htl
        have HO : Hid ((bs.take (k + 1)).any (named n) = false) := by
          show _ = false
          rw [unhide HT, hnb, HA.out]; rfl
        clear hnb HT HG HA HON
        go_wp2_with fail
        go_roundw
        case rel => exact ⟨k + 1, by omega, by go_num, HO, by first | trivial | rfl⟩
        case measure => simp [intOf]; omega
      · rw [hnb] at htl
        have HF := hide (unhide HG hnb)
        have HO := hide (unhide HON hnb)
        clear hnb HT HG HA HON
        go_wp2_with fail
        go_ret2
        refine ⟨some ⟨g, 0, none⟩, cap4, ?_, ?_, hq4.setCell hgB _⟩
        · rw [(unhide HF).1, (unhide HF).2, List.length_set]; rfl
        · rw [(unhide HF).1]; exact unhide HO
    · have HH := hide (hit_none (n := n) (by have := HA.out; rw [List.take_of_length_le (by omega)] at this; exact this))
      clear HA
      by_cases h16 : bs.length = 16
      · have HF := hide (set_full (unhide HALL) (unhide HH) h16)
        have h16' : ((bs.length : Int) == 16) = true := by rw [h16]; rfl
        clear h16 HH
        go_wp2_with fail
        go_ret2
        obtain ⟨ao', cap', e1, e2⟩ := set_nil wr w.heap.size (unhide HF)
        exact ⟨ao', cap', e1, e2, hq4⟩
      · have HF := hide (set_more (unhide HALL) (unhide HH) h16)
        have h16' : ((bs.length : Int) == 16) = false := beq_eq_false_iff_ne.2 (by omega)
        have hyc := own_le own4
        have hB6 := hq4.size
        clear h16 HH
        go_wp2_with (at_builtin; refine wpList_append_lies _ rfl _ _ 47 rfl w.heap.size 169 i0 (.agg #[.string ByteArray.empty, .string ByteArray.empty]) 2 32 Tryz.underlying47 hi hz0 hz1 hz2 rfl (by decide) _ _ _ rfl (own4.alloc _) ⟨wr.heap.size, 0, none⟩ 1 1 [.string n, .string t] rfl rfl (news_new _ #[.string n, .string t] _) (one_ss _ _) (by decide) (by unfold maxLen; omega) (by omega) (le_alloc hB6 _) (wr.heap.size + 1) (size_alloc _ _) ?_)
        intro g7 cp7 w7 hown7 hgrow hor hglt
        have hq7 : Q w w7 := Below.grown (hq4.alloc _) hgrow (le_alloc hq4.size _) (fun r hr => (own4.lt r hr).1)
        have HO := hide (OwnD.snoc (b := (n, t)) hown7)
        clear hown7 hgrow hor own4
        go_wp2_with fail
        go_ret2
        refine ⟨some ⟨g7, 0, none⟩, cp7, ?_, ?_, hq7⟩
        · rw [(unhide HF).1, (unhide HF).2]; simp
        · rw [(unhide HF).1]; exact unhide HO

end Go.Proofs.YtpddckgkaopnlaaGreatDoor
