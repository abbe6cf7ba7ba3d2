/- What the document's own Plain, variable and Cut answer, for every text: the same pieces, or the same number; no conditions but that the text is no longer than a string can be. -/
import Derived.Test.YtpddckgkaopnlaaGreatDoorPcText
namespace Go.Proofs.YtpddckgkaopnlaaGreatDoor
open Go.RowKit

set_option maxRecDepth 20000 in
set_option maxHeartbeats 1000000 in
theorem rvar_any (s : ByteArray) (w : World) (hs : s.size ≤ maxLen) :
    Calls Tryz.prog 155 #[.string s] w fun e w' => e = .returned (.int .i64 (nlen (bl s) : Nat)) ∧ w' = w := by
  unfold maxLen at hs
  have HSZ := hide (bl_size s)
  go_enter Tryz.func155, Tryz.ntmps155
  go_wp2
  go_loop [3] (fun i => ∃ j : Nat, j ≤ s.size ∧ i = .int .i64 j ∧ Hid (nlen (bl s) = j + nlen ((bl s).drop j))) (fun i => s.size - (intOf i).toNat)
  case atStart => exact ⟨0, Nat.zero_le _, rfl, by show _ = _; simp⟩
  case round =>
    obtain ⟨j, hj, rfl, HJ⟩ := hrel
    have fin : nlen ((bl s).drop j) = 0 → nlen (bl s) = j := by intro h; have := HJ.out; omega
    by_cases hlt : j < s.size
    · have hgk := bl_getElem s j hlt
      have hcon := hide (small_any (s[j].toNat : Int) w)
      cases hok : vb s[j]
      · have HK := hide (fin (nlen_no hgk hok))
        have h1 : smallB (s[j].toNat : Int) = false ∧ ((s[j].toNat : Int) == 95) = false := by
          unfold vb at hok; rw [Bool.or_eq_false_iff] at hok
          exact ⟨hok.1, beq_eq_false_iff_ne.2 (by simpa using hok.2)⟩
        obtain ⟨h1, h2⟩ := h1
        rw [h1] at hcon
        clear hok fin HJ hgk h1
        go_wp2_with (go_at_call 90; refine (unhide hcon).mono ?_; rintro e w' ⟨rfl, rfl⟩)
        go_ret
        exact ⟨ret_int (by rw [unhide HK]), rfl⟩
      · have HN : Hid (nlen (bl s) = (j + 1) + nlen ((bl s).drop (j + 1))) := by
          show _ = _
          have h1 := HJ.out
          have h2 := nlen_yes hgk hok
          omega
        have h1 : smallB (s[j].toNat : Int) = true ∨ (smallB (s[j].toNat : Int) = false ∧ ((s[j].toNat : Int) == 95) = true) := by
          unfold vb at hok
          cases h : smallB (s[j].toNat : Int)
          · rw [h, Bool.false_or] at hok; exact Or.inr ⟨rfl, beq_iff_eq.2 (by simpa using hok)⟩
          · exact Or.inl rfl
        clear hok fin HJ hgk
        rcases h1 with h1 | ⟨h1, h2⟩
        all_goals
          rw [h1] at hcon
          clear h1
          go_wp2_with (go_at_call 90; refine (unhide hcon).mono ?_; rintro e w' ⟨rfl, rfl⟩)
          go_round
          case rel => exact ⟨j + 1, by omega, by go_num, HN⟩
          case measure => simp [intOf]; omega
    · have HK := hide (fin (nlen_end (by rw [unhide HSZ]; omega)))
      clear fin HJ
      go_wp2
      go_ret
      exact ⟨ret_int (by rw [unhide HK]), rfl⟩

/-- The document's walk's state, in plain words. -/
def RefS (l : List UInt8) (k : Nat) (ps : List Pc) : Prop := ∃ pre, At l k pre ∧ addAll [] pre = ps

theorem RefS.start (l : List UInt8) : RefS l 0 [] := ⟨[], At.start l, rfl⟩
theorem RefS.step {l : List UInt8} {k n : Nat} {ps : List Pc} {x : Tok} (h : RefS l k ps) (ht : tk (l.drop k) = some (x, n)) : RefS l (k + n) (add ps x) := by
  obtain ⟨pre, h1, h2⟩ := h
  exact ⟨pre ++ [x], h1.step ht, by rw [addAll_snoc, h2]⟩
theorem RefS.fail {l : List UInt8} {k : Nat} {ps : List Pc} (h : RefS l k ps) (hk : k < l.length) (ht : tk (l.drop k) = none) : cutP l = [] ∧ cutE l = 300 := by
  obtain ⟨pre, h1, h2⟩ := h
  exact cut_bad (h1.fail hk ht)
theorem RefS.done {l : List UInt8} {k : Nat} {ps : List Pc} (h : RefS l k ps) (hk : l.length ≤ k) (h1 : l.length ≤ 2048) (h2 : plainL l = true) : cutP l = ps ∧ cutE l = 0 := by
  obtain ⟨pre, g1, g2⟩ := h
  have := cut_of h1 h2 (g1.done hk)
  rw [g2] at this; exact this

theorem tk_dollar {l : List UInt8} (h : l = [36]) : tk l = none := by subst h; decide
theorem tk_braced {l r : List UInt8} (h : l = 36 :: 123 :: r) : tk l = if 1 ≤ nlen r ∧ nlen r ≤ 16 ∧ r[nlen r]? = some 125 then some (.inr (r.take (nlen r)), nlen r + 3) else none := by
  subst h; simp [tk]
theorem tk_bare {l r : List UInt8} {d : UInt8} (h : l = 36 :: d :: r) (h1 : escB d = false) (h2 : d ≠ 123) : tk l = if 1 ≤ nlen (d :: r) ∧ nlen (d :: r) ≤ 16 then some (.inr ((d :: r).take (nlen (d :: r))), nlen (d :: r) + 1) else none := by
  subst h
  have hd : ¬ (d = 36 ∨ d = 32 ∨ d = 58) := by
    unfold escB at h1; simp at h1
    rintro (h | h | h) <;> simp_all
  simp [tk, hd, h2]

theorem drop_two (s : ByteArray) (k : Nat) (h : k + 1 < s.size) : (bl s).drop k = s[k] :: s[k + 1] :: (bl s).drop (k + 2) := by
  have h1 := bl_getElem s k (by omega)
  have h2 := bl_getElem s (k + 1) h
  obtain ⟨a1, b1⟩ := List.getElem?_eq_some_iff.1 h1
  obtain ⟨a2, b2⟩ := List.getElem?_eq_some_iff.1 h2
  rw [List.drop_eq_getElem_cons a1, b1, List.drop_eq_getElem_cons a2, b2]

theorem ext_zero (s : ByteArray) (k : Nat) (h : k + 1 < s.size) : (s.extract (k + 1) s.size)[0]'(by rw [ext_size s _ _ (by omega) (by omega)]; omega) = s[k + 1] := by
  have h1 := bl_getElem (s.extract (k + 1) s.size) 0 (by rw [ext_size s _ _ (by omega) (by omega)]; omega)
  have e : (bl (s.extract (k + 1) s.size))[0]? = some s[k + 1] := by
    rw [bl_extract, List.take_of_length_le (Nat.le_of_eq (bl_size s)), List.getElem?_drop]
    exact bl_getElem s (k + 1) h
  exact Option.some.inj (h1.symm.trans e)

set_option maxRecDepth 20000 in
set_option maxHeartbeats 4000000 in
theorem rcut_any (s : ByteArray) (w : World) (hs : s.size ≤ maxLen) :
    Calls Tryz.prog 120 #[.string s] w fun e w' => ∃ ao cap, e = .returned (.tuple #[.slice ao (cutP (bl s)).length cap, .int .i64 (cutE (bl s))]) ∧ OwnP w' w.heap.size ao cap (cutP (bl s)) ∧ Q w w' := by
  have HSZ := hide (bl_size s)
  have hs' := hs
  unfold maxLen at hs'
  obtain ⟨i0, hi, hz0, hz1, hz2⟩ := info_parts Tryz.infoP
  cases hm : (plainL (bl s) && decide (0 ≤ (s.size : Int)) && decide ((s.size : Int) ≤ 2048))
  · have HF : Hid (cutP (bl s) = [] ∧ cutE (bl s) = 300) := by
      rcases Bool.and_eq_false_iff.1 hm with h | h
      · rcases Bool.and_eq_false_iff.1 h with h | h
        · exact cut_odd h
        · simp at h
      · exact cut_long (by rw [unhide HSZ]; simp at h; omega)
    have HM := hide hm
    clear hm
    go_enter Tryz.func120, Tryz.ntmps120
    go_wp2_with fail
    refine (rplain_any s 0 2048 _ hs).mono ?_
    rintro e w1 ⟨rfl, rfl⟩
    rw [unhide HM]
    go_wp2_with fail
    go_ret2
    obtain ⟨ao, cap, e1, e2⟩ := nil_ret w1 w1.heap.size (unhide HF)
    exact ⟨ao, cap, e1, e2, Q.refl _⟩
  have hm2 := Bool.and_eq_true_iff.1 hm
  have hsz : s.size ≤ 2048 := by have := hm2.2; simp at this; omega
  have HPL := hide (Bool.and_eq_true_iff.1 hm2.1).1
  have HM := hide hm
  clear hm hm2
  go_enter Tryz.func120, Tryz.ntmps120
  go_wp2_with fail
  refine (rplain_any s 0 2048 _ hs).mono ?_
  rintro e w1 ⟨rfl, rfl⟩
  rw [unhide HM]
  go_wp2_with fail
  go_loopw [4, 5] (fun v i wr => ∃ (k : Nat) (ps : List Pc) (ao : Option Addr) (cap : Nat), i = .int .i64 k ∧ v = .slice ao ps.length cap ∧ k ≤ s.size ∧ ps.length ≤ k ∧ most k ps ∧
      OwnP wr w1.heap.size ao cap ps ∧ Q w1 wr ∧ Hid (RefS (bl s) k ps))
    (fun _ i _ => s.size - (intOf i).toNat)
  case atStart => exact ⟨0, [], none, 0, rfl, rfl, by omega, by simp, most_nil _, World.ownsRow_nil _ _ _ _, Q.refl _, RefS.start _⟩
  case round =>
    obtain ⟨k, ps, ao, cap, rfl, rfl, hk, hck, hmo, hown, hq, HC⟩ := hrel
    have hyc := own_le hown
    have hqs := hq.size
    by_cases hlt : k < s.size
    · have hdh := drop_head s k hlt
      by_cases hc : s[k] = 36
      · have g1 : ((s[k].toNat : Int) == 36) = true := b_true (d := 36) hc
        have g2 : ((s[k].toNat : Int) != 36) = false := n_false (d := 36) hc
        by_cases h1 : k + 1 < s.size
        · have hrz : (s.extract (k + 1) s.size).size = s.size - (k + 1) := ext_size s _ _ (by omega) (by omega)
          have hne : (s.extract (k + 1) s.size).toList.isEmpty = false := by
            rw [bl_toList, bl_extract, List.take_of_length_le (Nat.le_of_eq (unhide HSZ))]
            have hl := drop_two s k h1
            rw [show (bl s).drop (k + 1) = ((bl s).drop k).drop 1 by rw [List.drop_drop], hl]; rfl
          by_cases hd : s[k + 1] = 36
          · have HN := hide (RefS.step HC.out (tk_esc (d := 36) (by rw [hdh, hc]) (by rw [drop_next s k h1, hd]) (by decide)))
            have hx : (s.extract (k + 1) s.size)[0] = 36 := by rw [← hd]; exact ext_zero s k h1
            have HL := hide (add_len ps (.inl 36))
            have HMO := hide (most_mono (most_t hmo 36) (show k + 1 ≤ k + 2 by omega))
            clear hdh hc HC hd
            go_wp2_with fail
            refine (rtext_any ps ao cap 36 w1.heap.size _ hown hqs (by omega) (most_mono hmo (by omega))).mono ?_
            rintro e w4 ⟨ao4, cap4, rfl, hown4, b4⟩
            have hq4 : Q w1 w4 := Below.trans hq b4
            have hln := unhide HL
            clear hown hq b4 HL hmo
            generalize add ps (.inl 36) = ps2 at *
            go_wp2_with fail
            go_roundw
            case rel => exact ⟨k + 2, ps2, ao4, cap4, by go_num, rfl, by omega, by omega, unhide HMO, hown4, hq4, HN⟩
            case measure => simp [intOf]; omega
          by_cases hd2 : s[k + 1] = 32
          · have HN := hide (RefS.step HC.out (tk_esc (d := 32) (by rw [hdh, hc]) (by rw [drop_next s k h1, hd2]) (by decide)))
            have hx : (s.extract (k + 1) s.size)[0] = 32 := by rw [← hd2]; exact ext_zero s k h1
            have HL := hide (add_len ps (.inl 32))
            have HMO := hide (most_mono (most_t hmo 32) (show k + 1 ≤ k + 2 by omega))
            clear hdh hc HC hd2
            go_wp2_with fail
            refine (rtext_any ps ao cap 32 w1.heap.size _ hown hqs (by omega) (most_mono hmo (by omega))).mono ?_
            rintro e w4 ⟨ao4, cap4, rfl, hown4, b4⟩
            have hq4 : Q w1 w4 := Below.trans hq b4
            have hln := unhide HL
            clear hown hq b4 HL hmo
            generalize add ps (.inl 32) = ps2 at *
            go_wp2_with fail
            go_roundw
            case rel => exact ⟨k + 2, ps2, ao4, cap4, by go_num, rfl, by omega, by omega, unhide HMO, hown4, hq4, HN⟩
            case measure => simp [intOf]; omega
          by_cases hd3 : s[k + 1] = 58
          · have HN := hide (RefS.step HC.out (tk_esc (d := 58) (by rw [hdh, hc]) (by rw [drop_next s k h1, hd3]) (by decide)))
            have hx : (s.extract (k + 1) s.size)[0] = 58 := by rw [← hd3]; exact ext_zero s k h1
            have HL := hide (add_len ps (.inl 58))
            have HMO := hide (most_mono (most_t hmo 58) (show k + 1 ≤ k + 2 by omega))
            clear hdh hc HC hd3
            go_wp2_with fail
            refine (rtext_any ps ao cap 58 w1.heap.size _ hown hqs (by omega) (most_mono hmo (by omega))).mono ?_
            rintro e w4 ⟨ao4, cap4, rfl, hown4, b4⟩
            have hq4 : Q w1 w4 := Below.trans hq b4
            have hln := unhide HL
            clear hown hq b4 HL hmo
            generalize add ps (.inl 58) = ps2 at *
            go_wp2_with fail
            go_roundw
            case rel => exact ⟨k + 2, ps2, ao4, cap4, by go_num, rfl, by omega, by omega, unhide HMO, hown4, hq4, HN⟩
            case measure => simp [intOf]; omega
          have hl2 := drop_two s k h1
          rw [hc] at hl2
          have hesc : escB s[k + 1] = false := by unfold escB; simp [hd, hd2, hd3]
          have hx0 := ext_zero s k h1
          have f1 : (((s.extract (k + 1) s.size)[0].toNat : Int) == 36) = false := b_false (d := 36) (by rw [hx0]; exact hd)
          have f2 : (((s.extract (k + 1) s.size)[0].toNat : Int) == 32) = false := b_false (d := 32) (by rw [hx0]; exact hd2)
          have f3 : (((s.extract (k + 1) s.size)[0].toNat : Int) == 58) = false := b_false (d := 58) (by rw [hx0]; exact hd3)
          by_cases hb : s[k + 1] = 123
          · have HTK := hide (tk_braced (l := (bl s).drop k) (r := (bl s).drop (k + 2)) (by rw [hl2, hb]))
            have f4 : (((s.extract (k + 1) s.size)[0].toNat : Int) == 123) = true := b_true (d := 123) (by rw [hx0]; exact hb)
            clear hdh hc hd hd2 hd3 hl2 hesc hx0 hb
            go_wp2_with fail
            generalize hR : (s.extract (k + 1) s.size).extract 1 (s.size - (k + 1)) = R
            have HRB : Hid (bl R = (bl s).drop (k + 2)) := by
              show _ = _
              rw [← hR, bl_extract, bl_extract, List.take_of_length_le (Nat.le_of_eq (unhide HSZ)), List.take_of_length_le (by rw [List.length_drop, unhide HSZ]; omega), List.drop_drop]
            have hRs : R.size = s.size - (k + 2) := by rw [← bl_size, unhide HRB, List.length_drop, unhide HSZ]
            clear hR
            refine (rvar_any R _ (by unfold maxLen; omega)).mono ?_
            rintro e w2 ⟨rfl, rfl⟩
            rw [unhide HRB]
            have hnl := nlen_le ((bl s).drop (k + 2))
            rw [List.length_drop, unhide HSZ] at hnl
            generalize nlen ((bl s).drop (k + 2)) = n at *
            by_cases c1 : n < 1
            · have HF := hide (RefS.fail HC.out (by rw [unhide HSZ]; omega) (by rw [unhide HTK, if_neg (by omega)]))
              clear HC HTK
              go_wp2_with fail
              go_ret2
              obtain ⟨ao', cap', e1, e2⟩ := nil_ret w2 w1.heap.size (unhide HF)
              exact ⟨ao', cap', e1, e2, hq⟩
            by_cases c2 : 16 < n
            · have HF := hide (RefS.fail HC.out (by rw [unhide HSZ]; omega) (by rw [unhide HTK, if_neg (by omega)]))
              clear HC HTK
              go_wp2_with fail
              go_ret2
              obtain ⟨ao', cap', e1, e2⟩ := nil_ret w2 w1.heap.size (unhide HF)
              exact ⟨ao', cap', e1, e2, hq⟩
            by_cases c3 : n = R.size
            · have HF := hide (RefS.fail HC.out (by rw [unhide HSZ]; omega) (by rw [unhide HTK, if_neg (by rintro ⟨_, _, h⟩; rw [← unhide HRB, List.getElem?_eq_none (by rw [bl_size]; omega)] at h; cases h)]))
              have c3' : ((n : Int) == (R.size : Int)) = true := by simp [c3]
              clear HC HTK
              rw [hRs] at c3'
              go_wp2_with fail
              go_ret2
              obtain ⟨ao', cap', e1, e2⟩ := nil_ret w2 w1.heap.size (unhide HF)
              exact ⟨ao', cap', e1, e2, hq⟩
            have c3' : ((n : Int) == ((s.size - (k + 2) : Nat) : Int)) = false := beq_eq_false_iff_ne.2 (by omega)
            have hnR : n < R.size := by omega
            have hgn := bl_getElem R n hnR
            rw [unhide HRB] at hgn
            by_cases c4 : R[n] = 125
            · have g4 : ((R[n].toNat : Int) == 125) = true := b_true (d := 125) c4
              have g5 : ((R[n].toNat : Int) != 125) = false := n_false (d := 125) c4
              rw [c4] at hgn
              rw [if_pos ⟨by omega, by omega, hgn⟩] at HTK
              have HN := hide (RefS.step HC.out HTK.out)
              have hxs : (R.extract 0 n).size = n := by rw [ext_size R _ _ (by omega) (by omega)]; omega
              have HXB : Hid (R.extract 0 n = ⟨(((bl s).drop (k + 2)).take n).toArray⟩) := of_bl (by rw [bl_extract, List.drop_zero, unhide HRB])
              have HMO : Hid (most (k + n + 3) (add ps (.inr (((bl s).drop (k + 2)).take n)))) := most_snoc (most_mono hmo (by omega)) (by simp; omega)
              clear hmo HC HTK
              go_wp2_with (at_builtin; refine wpList_append_lies _ rfl _ _ 161 rfl w1.heap.size 166 i0 (.agg #[.bool false, .string ByteArray.empty]) 2 24 Tryz.underlying161 hi hz0 hz1 hz2 rfl (by decide) _ _ _ rfl (hown.alloc _) ⟨w2.heap.size, 0, none⟩ 1 1 [.bool true, .string (R.extract 0 n)] rfl rfl (news_new _ #[.bool true, .string (R.extract 0 n)] _) (one_bs _ _) (by decide) (by unfold maxLen; omega) (by omega) (le_alloc hqs _) (w2.heap.size + 1) (size_alloc _ _) ?_)
              intro g cp w5 hown5 hgrow hor hglt
              have hq5 : Q w1 w5 := Below.grown (hq.alloc _) hgrow (by simp; omega) (fun r hr => (hown.lt r hr).1)
              rw [unhide HXB] at hown5
              have HO := hide (OwnP.snoc (p := (true, ((bl s).drop (k + 2)).take n)) hown5)
              clear hown5 hgrow hown hor
              go_wp2
              go_roundw
              case rel => exact ⟨k + n + 3, ps ++ [(true, ((bl s).drop (k + 2)).take n)], some ⟨g, 0, none⟩, cp, by go_num, by simp, by omega, by simp; omega, unhide HMO, unhide HO, hq5, by have := unhide HN; rwa [show k + (n + 3) = k + n + 3 by omega] at this⟩
              case measure => simp [intOf]; omega
            · have g4 : ((R[n].toNat : Int) == 125) = false := b_false (d := 125) c4
              have g5 : ((R[n].toNat : Int) != 125) = true := n_true (d := 125) c4
              have HF := hide (RefS.fail HC.out (by rw [unhide HSZ]; omega) (by rw [unhide HTK, if_neg (by rintro ⟨_, _, h⟩; rw [hgn] at h; exact c4 (Option.some.inj h))]))
              clear HC HTK hgn c4
              go_wp2_with fail
              go_ret2
              obtain ⟨ao', cap', e1, e2⟩ := nil_ret w2 w1.heap.size (unhide HF)
              exact ⟨ao', cap', e1, e2, hq⟩
          · have HTK := hide (tk_bare (l := (bl s).drop k) (r := (bl s).drop (k + 2)) hl2 hesc hb)
            have hl1 : s[k + 1] :: (bl s).drop (k + 2) = (bl s).drop (k + 1) := by
              rw [show (bl s).drop (k + 1) = ((bl s).drop k).drop 1 by rw [List.drop_drop], hl2]; rfl
            rw [hl1] at HTK
            have f4 : (((s.extract (k + 1) s.size)[0].toNat : Int) == 123) = false := b_false (d := 123) (by rw [hx0]; exact hb)
            clear hdh hc hd hd2 hd3 hl2 hesc hx0 hb hl1
            go_wp2_with fail
            clear f1 f2 f3 f4 hne
            generalize hR : s.extract (k + 1) s.size = R at *
            have HRB : Hid (bl R = (bl s).drop (k + 1)) := by
              show _ = _
              rw [← hR, bl_extract, List.take_of_length_le (Nat.le_of_eq (unhide HSZ))]
            clear hR
            refine (rvar_any R _ (by unfold maxLen; omega)).mono ?_
            rintro e w2 ⟨rfl, rfl⟩
            rw [unhide HRB]
            have hnl := nlen_le ((bl s).drop (k + 1))
            rw [List.length_drop, unhide HSZ] at hnl
            generalize nlen ((bl s).drop (k + 1)) = n at *
            by_cases c1 : n < 1
            · have HF := hide (RefS.fail HC.out (by rw [unhide HSZ]; omega) (by rw [unhide HTK, if_neg (by omega)]))
              clear HC HTK
              go_wp2_with fail
              go_ret2
              obtain ⟨ao', cap', e1, e2⟩ := nil_ret w2 w1.heap.size (unhide HF)
              exact ⟨ao', cap', e1, e2, hq⟩
            by_cases c2 : 16 < n
            · have HF := hide (RefS.fail HC.out (by rw [unhide HSZ]; omega) (by rw [unhide HTK, if_neg (by omega)]))
              clear HC HTK
              go_wp2_with fail
              go_ret2
              obtain ⟨ao', cap', e1, e2⟩ := nil_ret w2 w1.heap.size (unhide HF)
              exact ⟨ao', cap', e1, e2, hq⟩
            rw [if_pos ⟨by omega, by omega⟩] at HTK
            have HN := hide (RefS.step HC.out HTK.out)
            have hxs : (R.extract 0 n).size = n := by rw [ext_size R _ _ (by omega) (by omega)]; omega
            have HXB : Hid (R.extract 0 n = ⟨(((bl s).drop (k + 1)).take n).toArray⟩) := of_bl (by rw [bl_extract, List.drop_zero, unhide HRB])
            have HMO : Hid (most (k + n + 1) (add ps (.inr (((bl s).drop (k + 1)).take n)))) := most_snoc (most_mono hmo (by omega)) (by simp; omega)
            clear hmo HC HTK
            go_wp2_with (at_builtin; refine wpList_append_lies _ rfl _ _ 161 rfl w1.heap.size 166 i0 (.agg #[.bool false, .string ByteArray.empty]) 2 24 Tryz.underlying161 hi hz0 hz1 hz2 rfl (by decide) _ _ _ rfl (hown.alloc _) ⟨w2.heap.size, 0, none⟩ 1 1 [.bool true, .string (R.extract 0 n)] rfl rfl (news_new _ #[.bool true, .string (R.extract 0 n)] _) (one_bs _ _) (by decide) (by unfold maxLen; omega) (by omega) (le_alloc hqs _) (w2.heap.size + 1) (size_alloc _ _) ?_)
            intro g cp w5 hown5 hgrow hor hglt
            have hq5 : Q w1 w5 := Below.grown (hq.alloc _) hgrow (by simp; omega) (fun r hr => (hown.lt r hr).1)
            rw [unhide HXB] at hown5
            have HO := hide (OwnP.snoc (p := (true, ((bl s).drop (k + 1)).take n)) hown5)
            clear hown5 hgrow hown hor
            go_wp2
            go_roundw
            case rel => exact ⟨k + n + 1, ps ++ [(true, ((bl s).drop (k + 1)).take n)], some ⟨g, 0, none⟩, cp, by go_num, by simp, by omega, by simp; omega, unhide HMO, unhide HO, hq5, by have := unhide HN; rwa [show k + (n + 1) = k + n + 1 by omega] at this⟩
            case measure => simp [intOf]; omega
        · have hne : (s.extract (k + 1) s.size).toList.isEmpty = true := by
            rw [bl_toList, bl_extract, List.take_of_length_le (Nat.le_of_eq (unhide HSZ)), List.drop_eq_nil_of_le (by rw [unhide HSZ]; omega)]; rfl
          have hl1 : (bl s).drop k = [36] := by
            have h2 := bl_getElem s k hlt
            obtain ⟨a2, b2⟩ := List.getElem?_eq_some_iff.1 h2
            rw [List.drop_eq_getElem_cons a2, b2, hc, List.drop_eq_nil_of_le (by rw [unhide HSZ]; omega)]
          have HF := hide (RefS.fail HC.out (by rw [unhide HSZ]; omega) (tk_dollar hl1))
          clear HC hl1 hdh hc
          go_wp2_with fail
          go_ret2
          obtain ⟨ao', cap', e1, e2⟩ := nil_ret wr w1.heap.size (unhide HF)
          exact ⟨ao', cap', e1, e2, hq⟩
      · have HN := hide (RefS.step HC.out (tk_text hdh hc))
        have g1 : ((s[k].toNat : Int) == 36) = false := b_false (d := 36) hc
        have g2 : ((s[k].toNat : Int) != 36) = true := n_true (d := 36) hc
        have HL := hide (add_len ps (.inl s[k]))
        have HMO := hide (most_t hmo s[k])
        clear hdh hc HC
        go_wp2_with fail
        refine (rtext_any ps ao cap s[k] w1.heap.size _ hown hqs (by omega) (most_mono hmo (by omega))).mono ?_
        rintro e w4 ⟨ao4, cap4, rfl, hown4, b4⟩
        have hq4 : Q w1 w4 := Below.trans hq b4
        have hln := unhide HL
        clear hown hq b4 HL hmo
        generalize add ps (.inl s[k]) = ps2 at *
        go_wp2_with fail
        go_roundw
        case rel => exact ⟨k + 1, ps2, ao4, cap4, by go_num, rfl, by omega, by omega, unhide HMO, hown4, hq4, HN⟩
        case measure => simp [intOf]; omega
    · have HD := hide (RefS.done HC.out (by rw [unhide HSZ]; omega) (by rw [unhide HSZ]; omega) (unhide HPL))
      clear HC
      go_wp2_with fail
      go_ret2
      rw [(unhide HD).1, (unhide HD).2]
      exact ⟨ao, cap, rfl, hown, hq⟩

end Go.Proofs.YtpddckgkaopnlaaGreatDoor
