/- What package scope's Get answers, and the document's own ScopeMay and GetVar; the conditions: the binds lie in memory, each text is no longer than a string can be. -/
import Derived.Test.YtdkbjbcchpenaaaScMay
namespace Go.Proofs.Ytdkbjbcchpenaaa
open Go.RowKit

theorem hitI_neg {bs : List Bd} {n : ByteArray} (h : hit bs n = none) : hitI bs n = -1 := by unfold hitI; rw [h]
theorem hitI_at {bs : List Bd} {n : ByteArray} {k : Nat} (h : hit bs n = some k) : hitI bs n = (k : Int) := by unfold hitI; rw [h]

set_option maxHeartbeats 2000000 in
theorem scGet_any (bs : List Bd) (n : ByteArray) (ao : Option Addr) (cap : Nat) (w : World) (hr : RowD w ao bs) (hf : Fit bs) (hs : bs.length ≤ cap) (hcap : cap ≤ maxLen) :
    Calls Try.prog 35 #[.slice ao bs.length cap, .string n] w fun e w' => e = .returned (.string (getB bs n)) ∧ Q w w' := by
  have HM := hide (fun w' (h : Q w w') => scMay_any bs ao cap w' (hr.q h) hf hs hcap)
  have HAT := hide (fun w' (h : Q w w') => at_any bs n ao cap w' (hr.q h) (Nat.le_trans hs hcap))
  cases hm : scOk bs
  · have HG := hide (get_no (n := n) hm)
    rw [hm] at HM
    clear hm
    go_enter Try.func35, Try.ntmps35
    go_wp2_with fail
    refine (unhide HM _ (Q.refl _)).mono ?_
    rintro e w1 ⟨rfl, q1⟩
    go_wp2_with fail
    go_ret
    exact ⟨by rw [unhide HG]; rfl, q1⟩
  cases hh : hit bs n with
  | none =>
    have HG := hide (get_none hh)
    have HI := hide (hitI_neg hh)
    rw [hm] at HM
    rw [hitI_neg hh] at HAT
    clear hm hh
    go_enter Try.func35, Try.ntmps35
    go_wp2_with fail
    refine (unhide HM _ (Q.refl _)).mono ?_
    rintro e w1 ⟨rfl, q1⟩
    go_wp2_with fail
    refine (unhide HAT _ q1).mono ?_
    rintro e w2 ⟨rfl, q2⟩
    go_wp2_with fail
    go_ret
    exact ⟨by rw [unhide HG]; rfl, q1.trans q2⟩
  | some k =>
    obtain ⟨b, hb, _, _⟩ := hit_some hh
    have HG := hide (get_hit hm hh hb)
    have hlt := (List.getElem?_eq_some_iff.1 hb).1
    have hsz := (mayBd_size ((scOk_parts hm).2 k b hb).1).2
    have HC := hide (clone_any b.2 · (by omega))
    rw [hm] at HM
    rw [hitI_at hh] at HAT
    rcases hr with he | ⟨g, o, rfl, hg, hcell⟩
    · rw [he] at hlt; simp at hlt
    have c2 : w.cell? ⟨g, o + k * 2 + 1, none⟩ = some (.string b.2) := hcell k 1 b _ hb (by decide) rfl
    have k0 : (0 : Int) ≤ (k : Int) := Int.natCast_nonneg _
    have k1 : (k : Int) < (bs.length : Int) := by omega
    clear hm hh hb hcell hf
    go_enter Try.func35, Try.ntmps35
    go_wp2_with fail
    refine (unhide HM _ (Q.refl _)).mono ?_
    rintro e w1 ⟨rfl, q1⟩
    go_wp2_with fail
    refine (unhide HAT _ q1).mono ?_
    rintro e w2 ⟨rfl, q2⟩
    have d2 : w2.cell? ⟨g, o + k * 2 + 1, none⟩ = some (.string b.2) := ((q1.trans q2).cell (p := ⟨g, o + k * 2 + 1, none⟩) hg).trans c2
    clear c2
    go_wp2_with fail
    refine (unhide HC _).mono ?_
    rintro e w3 ⟨rfl, q3⟩
    go_wp2_with fail
    go_ret
    exact ⟨by rw [unhide HG]; rfl, (q1.trans q2).trans q3⟩

theorem any_no {bs : List Bd} {n : ByteArray} {i : Nat} (h : ∀ j c, j < i → bs[j]? = some c → named n c = false) : (bs.take i).any (named n) = false := by
  rw [List.any_eq_false]
  intro x hx
  rw [List.mem_take_iff_getElem] at hx
  obtain ⟨j, hj, rfl⟩ := hx
  have := h j bs[j] (by omega) (List.getElem?_eq_getElem (by omega))
  simp [this]

set_option maxRecDepth 20000 in
set_option maxHeartbeats 4000000 in
theorem rMay_any (bs : List Bd) (ao : Option Addr) (cap : Nat) (w : World) (hr : RowD w ao bs) (hf : Fit bs) (hs : bs.length ≤ maxLen) :
    Calls Try.prog 15 #[.slice ao bs.length cap] w fun e w' => e = .returned (.bool (scOk bs)) ∧ Q w w' := by
  unfold maxLen at hs
  go_enter Try.func15, Try.ntmps15
  go_wp2_with fail
  go_loopw [3] (fun i wr => ∃ k : Nat, k ≤ bs.length ∧ i = .int .i64 k ∧ Hid (okK bs k = true) ∧ Q w wr) (fun i _ => bs.length - (intOf i).toNat)
  case atStart => exact ⟨0, Nat.zero_le _, rfl, rfl, Q.refl _⟩
  case round =>
    obtain ⟨k, hk, rfl, HA, hq⟩ := hrel
    by_cases hlt : k < bs.length
    · have hr2 := hr.q hq
      rcases hr.q hq with he | ⟨g, o, rfl, hg, hcell⟩
      · rw [he] at hlt; simp at hlt
      obtain ⟨b, hb⟩ : ∃ b, bs[k]? = some b := ⟨bs[k], List.getElem?_eq_getElem hlt⟩
      have c1 : wr.cell? ⟨g, o + k * 2, none⟩ = some (.string b.1) := hcell k 0 b _ hb (by decide) rfl
      have c2 : wr.cell? ⟨g, o + k * 2 + 1, none⟩ = some (.string b.2) := hcell k 1 b _ hb (by decide) rfl
      have hfb := hf.at hb
      have HN := hide (nameMay_any b.1 · hfb.1)
      have HP := hide (rplain_any b.2 0 256 · hfb.2)
      have HPE : Hid ((plainL (bl b.2) && decide ((0 : Int) ≤ (b.2.size : Int)) && decide ((b.2.size : Int) ≤ 256)) = txB b.2) := by
        show _ = _
        unfold txB
        rw [decide_eq_true (show (0 : Int) ≤ (b.2.size : Int) by omega), Bool.and_true, Bool.and_comm]
      rw [HPE.out] at HP
      have HB := hide hb
      have k0 : (0 : Int) ≤ (k : Int) := Int.natCast_nonneg _
      have k1 : (k : Int) < (bs.length : Int) := by omega
      clear hb hfb HPE
      cases hn : mayB b.1
      · have HO : Hid (scOk bs = false) := scOk_bad (unhide HB) (by unfold okAt mayBd; rw [hn]; rfl)
        rw [hn] at HN
        clear hn HA HB HP hcell hr hr2 hf
        go_wp2_with (go_at_call 27; refine (unhide HN _).mono ?_; rintro e w2 ⟨rfl, rfl⟩)
        go_ret
        exact ⟨ret_bool HO.out.symm, hq⟩
      cases ht : txB b.2
      · have HO : Hid (scOk bs = false) := scOk_bad (unhide HB) (by unfold okAt mayBd; rw [ht, Bool.and_false]; rfl)
        rw [hn] at HN
        rw [ht] at HP
        clear hn ht HA HB hcell hr hr2 hf
        go_wp2_with (first | (go_at_call 27; refine (unhide HN _).mono ?_; rintro e w2 ⟨rfl, rfl⟩) | (go_at_call 16; refine (unhide HP _).mono ?_; rintro e w2 ⟨rfl, rfl⟩))
        go_ret
        exact ⟨ret_bool HO.out.symm, hq⟩
      have hmb : Hid (mayBd b = true) := by show _ = true; unfold mayBd; rw [hn, ht]; rfl
      rw [hn] at HN
      rw [ht] at HP
      have HR := hide hr
      have hgw := hg
      clear hn ht hcell hr hf hr2 c1 c2
      have c1 : wr.cell? ⟨g, o + k * 2, none⟩ = some (.string b.1) := by
        rcases (unhide HR).q hq with he | ⟨g', o', e, _, hc⟩
        · rw [he] at hlt; simp at hlt
        · cases e; exact hc k 0 b _ (unhide HB) (by decide) rfl
      have c2 : wr.cell? ⟨g, o + k * 2 + 1, none⟩ = some (.string b.2) := by
        rcases (unhide HR).q hq with he | ⟨g', o', e, _, hc⟩
        · rw [he] at hlt; simp at hlt
        · cases e; exact hc k 1 b _ (unhide HB) (by decide) rfl
      go_wp2_with (first | (go_at_call 27; refine (unhide HN _).mono ?_; rintro e w2 ⟨rfl, rfl⟩) | (go_at_call 16; refine (unhide HP _).mono ?_; rintro e w2 ⟨rfl, rfl⟩))
      go_loopw [4] (fun i wr => ∃ j : Nat, j ≤ k ∧ i = .int .i64 j ∧ Hid ((bs.take j).any (named b.1) = false) ∧ Q w wr) (fun i _ => k - (intOf i).toNat)
      case atStart => exact ⟨0, Nat.zero_le _, rfl, rfl, hq⟩
      case round =>
        obtain ⟨j, hj, rfl, HJ, hq2⟩ := hrel
        by_cases hjk : j < k
        · rcases (unhide HR).q hq2 with he | ⟨g', o', e, hg', hc⟩
          · rw [he] at hlt; simp at hlt
          cases e
          obtain ⟨c, hcj⟩ : ∃ c, bs[j]? = some c := ⟨bs[j], List.getElem?_eq_getElem (by omega)⟩
          have d1 : wr.cell? ⟨g, o + k * 2, none⟩ = some (.string b.1) := hc k 0 b _ (unhide HB) (by decide) rfl
          have d2 : wr.cell? ⟨g, o + j * 2, none⟩ = some (.string c.1) := hc j 0 c _ hcj (by decide) rfl
          have HT := hide (any_take_succ (named b.1) hcj)
          have HM := hide (show named b.1 c = true → (bs.take k).any (named b.1) = true from fun h => List.any_eq_true.2 ⟨c, List.mem_of_getElem? (i := j) (by rw [List.getElem?_take, if_pos hjk]; exact hcj), h⟩)
          have htl := named_toList b.1 c
          have j0 : (0 : Int) ≤ (j : Int) := Int.natCast_nonneg _
          have j1 : (j : Int) < (bs.length : Int) := by omega
          have hqq : ∀ n, Q w (wr.drewN n) := fun n => hq2.drewN n
          clear hc hcj c1 c2
          cases hnc : named b.1 c
          · rw [hnc] at htl
            have HO : Hid ((bs.take (j + 1)).any (named b.1) = false) := by
              show _ = false
              rw [unhide HT, hnc, HJ.out]; rfl
            clear hnc HT HM HJ
            go_wp2_with fail
            go_quiet (fail)
            go_wp2_with fail
            go_roundw
            case rel => exact ⟨j + 1, by omega, by go_num, HO, hqq _⟩
            case measure => simp [intOf]; omega
          · rw [hnc] at htl
            have HO : Hid (scOk bs = false) := scOk_bad (unhide HB) (by unfold okAt; rw [unhide HM hnc, hmb.out]; rfl)
            clear hnc HT HM HJ
            go_wp2_with fail
            go_quiet (fail)
            go_wp2_with fail
            go_ret
            exact ⟨ret_bool HO.out.symm, hqq _⟩
        · have hjk2 : j = k := by omega
          have HO : Hid (okK bs (k + 1) = true) := by
            show _ = true
            rw [okK_succ (unhide HB), HA.out]
            unfold okAt
            have := HJ.out
            rw [hjk2] at this
            rw [hmb.out, this]; rfl
          clear HJ hjk2 c1 c2
          go_wp2_with fail
          go_roundw
          case rel => exact ⟨k + 1, by omega, by go_num, HO, hq2⟩
          case measure => simp [intOf]; omega
    · have HO : Hid (scOk bs = decide (bs.length ≤ 16)) := by
        show _ = _
        have hkl : k = bs.length := by omega
        have h1 := HA.out
        rw [hkl] at h1
        exact scOk_end h1
      clear HA
      by_cases h16 : bs.length ≤ 16
      · have h16' : (bs.length : Int) ≤ 16 := by omega
        go_wp2_with fail
        go_ret
        exact ⟨ret_bool (by rw [HO.out]; simp [h16] <;> omega), hq⟩
      · have h16' : (16 : Int) < (bs.length : Int) := by omega
        go_wp2_with fail
        go_ret
        exact ⟨ret_bool (by rw [HO.out]; simp [h16] <;> omega), hq⟩

set_option maxHeartbeats 2000000 in
theorem rGet_any (bs : List Bd) (n : ByteArray) (ao : Option Addr) (cap : Nat) (w : World) (hr : RowD w ao bs) (hf : Fit bs) (hs : bs.length ≤ maxLen) :
    Calls Try.prog 25 #[.slice ao bs.length cap, .string n] w fun e w' => e = .returned (.string (getB bs n)) ∧ Q w w' := by
  have HM := hide (fun w' (h : Q w w') => rMay_any bs ao cap w' (hr.q h) hf hs)
  unfold maxLen at hs
  cases hm : scOk bs
  · have HG := hide (get_no (n := n) hm)
    rw [hm] at HM
    clear hm
    by_cases h0 : bs.length = 0
    · go_enter Try.func25, Try.ntmps25
      go_wp2_with fail
      go_loopw [5] (fun i wr => i = .int .i64 0 ∧ wr = w) (fun _ _ => 0)
      case atStart => exact ⟨rfl, rfl⟩
      case round =>
        obtain ⟨rfl, rfl⟩ := hrel
        go_wp2_with fail
        go_ret
        exact ⟨by rw [unhide HG]; rfl, Q.refl _⟩
    · have h1 : (0 : Int) < (bs.length : Int) := by omega
      go_enter Try.func25, Try.ntmps25
      go_wp2_with fail
      go_loopw [5] (fun i wr => i = .int .i64 0 ∧ wr = w) (fun _ _ => 0)
      case atStart => exact ⟨rfl, rfl⟩
      case round =>
        obtain ⟨rfl, rfl⟩ := hrel
        go_wp2_with fail
        refine (unhide HM _ (Q.refl _)).mono ?_
        rintro e w1 ⟨rfl, q1⟩
        go_wp2_with fail
        go_ret
        exact ⟨by rw [unhide HG]; rfl, q1⟩
  rw [hm] at HM
  have HOK := hide hm
  clear hm
  go_enter Try.func25, Try.ntmps25
  go_wp2_with fail
  go_loopw [5] (fun i wr => ∃ k : Nat, k ≤ bs.length ∧ i = .int .i64 k ∧ Hid ((bs.take k).any (named n) = false) ∧ Q w wr) (fun i _ => bs.length - (intOf i).toNat)
  case atStart => exact ⟨0, Nat.zero_le _, rfl, rfl, Q.refl _⟩
  case round =>
    obtain ⟨k, hk, rfl, HA, hq⟩ := hrel
    by_cases hlt : k < bs.length
    · rcases hr with he | ⟨g, o, rfl, hg, hcell⟩
      · rw [he] at hlt; simp at hlt
      obtain ⟨b, hb⟩ : ∃ b, bs[k]? = some b := ⟨bs[k], List.getElem?_eq_getElem hlt⟩
      have c1 : w.cell? ⟨g, o + k * 2, none⟩ = some (.string b.1) := hcell k 0 b _ hb (by decide) rfl
      have c2 : w.cell? ⟨g, o + k * 2 + 1, none⟩ = some (.string b.2) := hcell k 1 b _ hb (by decide) rfl
      have k0 : (0 : Int) ≤ (k : Int) := Int.natCast_nonneg _
      have k1 : (k : Int) < (bs.length : Int) := by omega
      have htl := named_toList n b
      have HT := hide (any_take_succ (named n) hb)
      have HG := hide (fun h => get_hit (unhide HOK) (hit_at (n := n) hb HA.out h) hb)
      clear hb hcell hf
      cases hnb : named n b
      · rw [hnb] at htl
        have HO : Hid ((bs.take (k + 1)).any (named n) = false) := by
          show _ = false
          rw [unhide HT, hnb, HA.out]; rfl
        clear hnb HT HG HA
        go_wp2_with fail
        refine (unhide HM _ hq).mono ?_
        rintro e w1 ⟨rfl, q1⟩
        have d1 := ((hq.trans q1).cell (p := ⟨g, o + k * 2, none⟩) hg).trans c1
        have hq1 := hq.trans q1
        clear c1 c2 hq q1
        go_wp2_with fail
        go_roundw
        case rel => exact ⟨k + 1, by omega, by go_num, HO, hq1⟩
        case measure => simp [intOf]; omega
      · rw [hnb] at htl
        have HO := hide (unhide HG hnb)
        clear hnb HT HG HA
        go_wp2_with fail
        refine (unhide HM _ hq).mono ?_
        rintro e w1 ⟨rfl, q1⟩
        have d1 := ((hq.trans q1).cell (p := ⟨g, o + k * 2, none⟩) hg).trans c1
        have d2 := ((hq.trans q1).cell (p := ⟨g, o + k * 2 + 1, none⟩) hg).trans c2
        have hq1 := hq.trans q1
        clear c1 c2 hq q1
        go_wp2_with fail
        go_ret
        exact ⟨by rw [unhide HO]; rfl, hq1⟩
    · have HO := hide (get_none (hit_none (n := n) (by have := HA.out; rw [List.take_of_length_le (by omega)] at this; exact this)))
      clear HA
      go_wp2_with fail
      go_ret
      exact ⟨by rw [unhide HO]; rfl, hq⟩

end Go.Proofs.Ytdkbjbcchpenaaa
