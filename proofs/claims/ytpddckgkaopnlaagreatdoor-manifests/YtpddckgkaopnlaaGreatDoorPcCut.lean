/- What package pieces' Cut answers, for every text: its pieces in a row of its own, or the number of an error; no conditions but that the text is no longer than a string can be. -/
import Derived.Test.YtpddckgkaopnlaaGreatDoorBnBtRow
namespace Go.Proofs.YtpddckgkaopnlaaGreatDoor
open Go.RowKit

theorem b_true {c d : UInt8} (h : c = d) : ((c.toNat : Int) == (d.toNat : Int)) = true := by subst h; simp
theorem b_false {c d : UInt8} (h : c ≠ d) : ((c.toNat : Int) == (d.toNat : Int)) = false := beq_eq_false_iff_ne.2 fun e => h (UInt8.toNat_inj.1 (by omega))
theorem n_true {c d : UInt8} (h : c ≠ d) : ((c.toNat : Int) != (d.toNat : Int)) = true := by unfold bne; rw [b_false h]; rfl
theorem n_false {c d : UInt8} (h : c = d) : ((c.toNat : Int) != (d.toNat : Int)) = false := by unfold bne; rw [b_true h]; rfl

theorem esc_index (c : Int) (h0 : 0 ≤ c) (h1 : c ≤ 255) :
    Lib.indexByte [36, 32, 58] c.toNat.toUInt8 = if c = 36 then 0 else if c = 32 then 1 else if c = 58 then 2 else -1 := by
  obtain ⟨k, rfl⟩ := Int.eq_ofNat_of_zero_le h0
  have hk : k < 256 := by omega
  clear h0 h1
  revert k
  decide +kernel

theorem esc_int (d : UInt8) : escB d = (decide ((d.toNat : Int) = 36) || decide ((d.toNat : Int) = 32) || decide ((d.toNat : Int) = 58)) := by
  have e : ∀ n : UInt8, (d == n) = decide ((d.toNat : Int) = (n.toNat : Int)) := by
    intro n
    rw [Bool.eq_iff_iff, beq_iff_eq, decide_eq_true_iff]
    exact ⟨fun h => by rw [h], fun h => UInt8.toNat_inj.1 (by omega)⟩
  unfold escB
  rw [e 36, e 32, e 58]; rfl

theorem esc_any (d : UInt8) (w : World) :
    Calls Tryz.prog 102 #[.string ⟨#[36, 32, 58]⟩, .int .u8 (d.toNat : Int)] w fun e w' => ∃ r : Int, e = .returned (.int .i64 r) ∧ (escB d = true → 0 ≤ r) ∧ (escB d = false → r < 0) ∧ w' = w := by
  refine (str_ib _ _ _).mono ?_
  rintro e w' ⟨rfl, rfl⟩
  have hd : (d.toNat : Int) ≤ 255 := by have := d.toNat_lt; omega
  refine ⟨_, rfl, ?_, ?_, rfl⟩
  · intro h
    show 0 ≤ Lib.indexByte [36, 32, 58] _
    rw [esc_index _ (by omega) hd]
    rw [esc_int] at h; simp at h
    split
    · decide
    · split
      · decide
      · split
        · decide
        · omega
  · intro h
    show Lib.indexByte [36, 32, 58] _ < 0
    rw [esc_index _ (by omega) hd]
    rw [esc_int] at h; simp at h
    rw [if_neg (by omega), if_neg (by omega), if_neg (by omega)]; decide

theorem drop_head (s : ByteArray) (k : Nat) (h : k < s.size) : ((bl s).drop k).head? = some s[k] := by rw [List.head?_drop]; exact bl_getElem s k h
theorem drop_next (s : ByteArray) (k : Nat) (h : k + 1 < s.size) : ((bl s).drop k)[1]? = some s[k + 1] := by rw [List.getElem?_drop]; exact bl_getElem s (k + 1) h

theorem nil_ret (w : World) (B : Nat) {l : List UInt8} (h : cutP l = [] ∧ cutE l = 300) : ∃ ao cap, Ending.returned (.tuple #[.slice none 0 0, .int .i64 300]) = .returned (.tuple #[.slice ao (cutP l).length cap, .int .i64 (cutE l)]) ∧ OwnP w B ao cap (cutP l) :=
  ⟨none, 0, by rw [h.1, h.2]; rfl, by rw [h.1]; exact World.ownsRow_nil _ _ _ _⟩

/-- The walk's state, in plain words. -/
def CutS (l : List UInt8) (k : Nat) (cs : List Pc) (tb : List UInt8) : Prop := ∃ pre, At l k pre ∧ addAll [] pre = flush cs tb ∧ noText cs

theorem CutS.start (l : List UInt8) : CutS l 0 [] [] := ⟨[], At.start l, rfl, noText_nil⟩
theorem CutS.text {l : List UInt8} {k n : Nat} {cs : List Pc} {tb : List UInt8} {c : UInt8} (h : CutS l k cs tb) (ht : tk (l.drop k) = some (.inl c, n)) : CutS l (k + n) cs (tb ++ [c]) := by
  obtain ⟨pre, h1, h2, h3⟩ := h
  exact ⟨pre ++ [.inl c], h1.step ht, by rw [addAll_snoc, h2, add_t_flush h3], h3⟩
theorem CutS.var {l : List UInt8} {k n : Nat} {cs : List Pc} {tb v : List UInt8} (h : CutS l k cs tb) (ht : tk (l.drop k) = some (.inr v, n)) : CutS l (k + n) (flush cs tb ++ [(true, v)]) [] := by
  obtain ⟨pre, h1, h2, h3⟩ := h
  exact ⟨pre ++ [.inr v], h1.step ht, by rw [addAll_snoc, h2, flush_nil]; rfl, noText_var _ _⟩
theorem CutS.fail {l : List UInt8} {k : Nat} {cs : List Pc} {tb : List UInt8} (h : CutS l k cs tb) (hk : k < l.length) (ht : tk (l.drop k) = none) : cutP l = [] ∧ cutE l = 300 := by
  obtain ⟨pre, h1, h2, h3⟩ := h
  exact cut_bad (h1.fail hk ht)
theorem CutS.done {l : List UInt8} {k : Nat} {cs : List Pc} {tb : List UInt8} (h : CutS l k cs tb) (hk : l.length ≤ k) (h1 : l.length ≤ 2048) (h2 : plainL l = true) : cutP l = flush cs tb ∧ cutE l = 0 := by
  obtain ⟨pre, g1, g2, g3⟩ := h
  have := cut_of h1 h2 (g1.done hk)
  rw [g2] at this; exact this

set_option maxRecDepth 20000 in
set_option maxHeartbeats 4000000 in
theorem cut_any (s : ByteArray) (w : World) (hs : s.size ≤ maxLen) :
    Calls Tryz.prog 144 #[.string s] w fun e w' => ∃ ao cap, e = .returned (.tuple #[.slice ao (cutP (bl s)).length cap, .int .i64 (cutE (bl s))]) ∧ OwnP w' w.heap.size ao cap (cutP (bl s)) ∧ Q w w' := by
  have HSZ := hide (bl_size s)
  have hs' := hs
  unfold maxLen at hs'
  obtain ⟨i0, hi, hz0, hz1, hz2⟩ := info_parts Tryz.infoP
  obtain ⟨i1, hj, hy0, hy1, hy2⟩ := info_parts Tryz.infoB
  cases hm : (decide ((bl s).length ≤ 2048) && plainL (bl s))
  · have HF : Hid (cutP (bl s) = [] ∧ cutE (bl s) = 300) := by
      rcases Bool.and_eq_false_iff.1 hm with h | h
      · exact cut_long (by simpa using h)
      · exact cut_odd h
    have HM := hide hm
    clear hm
    go_enter Tryz.func144, Tryz.ntmps144
    go_wp2_with fail
    refine (pmay_any s 2048 _ hs).mono ?_
    rintro e w1 ⟨rfl, q1⟩
    rw [mbc_eq, unhide HM]
    go_wp2_with fail
    go_ret2
    obtain ⟨ao, cap, e1, e2⟩ := nil_ret w1 w.heap.size (unhide HF)
    exact ⟨ao, cap, e1, e2, q1⟩
  have hm2 := Bool.and_eq_true_iff.1 hm
  have hsz : s.size ≤ 2048 := by rw [← bl_size]; simpa using hm2.1
  have HPL := hide hm2.2
  have HM := hide hm
  clear hm hm2
  go_enter Tryz.func144, Tryz.ntmps144
  go_wp2_with fail
  refine (pmay_any s 2048 _ hs).mono ?_
  rintro e w1 ⟨rfl, q1⟩
  rw [mbc_eq, unhide HM]
  go_wp2_with fail
  go_loopw [4, 5, 6] (fun v t i wr => ∃ (k : Nat) (cs : List Pc) (tb : List UInt8) (ao bo : Option Addr) (cap bcap : Nat), i = .int .i64 k ∧ v = .slice ao cs.length cap ∧ t = .slice bo tb.length bcap ∧ k ≤ s.size ∧ cs.length + tb.length ≤ k ∧
      OwnP wr w.heap.size ao cap cs ∧ OwnB wr w.heap.size bo bcap tb ∧ Q w wr ∧ Hid (CutS (bl s) k cs tb))
    (fun _ _ i _ => s.size - (intOf i).toNat)
  case atStart => exact ⟨0, [], [], none, none, 0, 0, rfl, rfl, rfl, by omega, by simp, World.ownsRow_nil _ _ _ _, World.ownsRow_nil _ _ _ _, q1, CutS.start _⟩
  case round =>
    obtain ⟨k, cs, tb, ao, bo, cap, bcap, rfl, rfl, rfl, hk, hck, hown, htx, hq, HC⟩ := hrel
    have hyc := own_le hown
    have hyb := own_le htx
    have hqs := hq.size
    by_cases hlt : k < s.size
    · have hdh := drop_head s k hlt
      by_cases hc : s[k] = 36
      · have g1 : ((s[k].toNat : Int) == 36) = true := b_true (d := 36) hc
        have g2 : ((s[k].toNat : Int) != 36) = false := n_false (d := 36) hc
        by_cases he : k + 1 < s.size ∧ ∃ h : k + 1 < s.size, escB s[k + 1] = true
        · obtain ⟨he1, _, he2⟩ := he
          have HN := hide (CutS.text HC.out (tk_esc (by rw [hdh, hc]) (drop_next s k he1) he2))
          have HE := hide he2
          clear hdh hc HC he2
          go_wp2_with fail
          refine (esc_any _ _).mono ?_
          rintro e w2 ⟨r, rfl, hr1, hr2, rfl⟩
          have hr := hr1 (unhide HE)
          clear hr1 hr2
          go_wp2_with (at_builtin; refine wpList_append_lies _ rfl _ _ 107 rfl w.heap.size 5 i1 (.int .u8 0) 1 1 Tryz.underlying107 hj hy0 hy1 hy2 rfl (by decide) _ _ _ rfl (htx.alloc _) ⟨w2.heap.size, 0, none⟩ 1 1 [.int .u8 (s[k + 1].toNat : Int)] rfl rfl (news_new _ #[.int .u8 (s[k + 1].toNat : Int)] _) (one_int _ _) (by decide) (by unfold maxLen; omega) (by omega) (le_alloc hqs _) (w2.heap.size + 1) (size_alloc _ _) ?_)
          intro g cp w3 hown1 hgrow hor hglt
          have hq2 : Q w w3 := Below.grown (hq.alloc _) hgrow (by simp; omega) (fun r hr => (htx.lt r hr).1)
          have HO := hide (OwnB.snoc (p := s[k + 1]) hown1)
          have HP := hide ((hown.alloc _).kept hgrow (own_apart hown htx (by decide)))
          clear hown1 hgrow hown hor htx
          go_wp2
          go_roundw
          case rel => exact ⟨k + 2, cs, tb ++ [s[k + 1]], ao, some ⟨g, 0, none⟩, cap, cp, by go_num, rfl, by simp, by omega, by simp; omega, unhide HP, unhide HO, hq2, HN⟩
          case measure => simp [intOf]; omega
        have hesc : ∀ d, ((bl s).drop k)[1]? = some d → escB d = false := by
          intro d hd
          by_cases h1 : k + 1 < s.size
          · rw [drop_next s k h1] at hd
            cases hd
            cases h : escB s[k + 1]
            · rfl
            · exact absurd ⟨h1, h1, h⟩ he
          · rw [List.getElem?_eq_none (by rw [List.length_drop, unhide HSZ]; omega)] at hd; cases hd
        have HV := hide (vr_tk (by rw [hdh, hc]) hesc)
        have HX : Hid (bl (s.extract k s.size) = (bl s).drop k) := by
          show _ = _; rw [bl_extract, List.take_of_length_le (Nat.le_of_eq (unhide HSZ))]
        by_cases h1 : k + 1 < s.size
        · have HE := hide (hesc _ (drop_next s k h1))
          clear hesc he hdh hc
          go_wp2_with fail
          refine (esc_any _ _).mono ?_
          rintro e w2 ⟨r, rfl, hr1, hr2, rfl⟩
          have hr := hr2 (unhide HE)
          clear hr1 hr2
          go_wp2_with fail
          refine (variable_any (s.extract k s.size) _ (by rw [ext_size s _ _ (by omega) (by omega)]; omega) (by rw [ext_size s _ _ (by omega) (by omega)]; omega)).mono ?_
          rintro e w3 ⟨rfl, q3⟩
          rw [unhide HX]
          rcases unhide HV with ⟨hz, ht⟩ | ⟨hp, hl16, ht⟩
          · rw [hz]
            have HF := hide (CutS.fail HC.out (by rw [unhide HSZ]; omega) ht)
            clear hz ht HV HC
            go_wp2_with fail
            go_ret2
            obtain ⟨ao', cap', e1, e2⟩ := nil_ret w3 w.heap.size (unhide HF)
            exact ⟨ao', cap', e1, e2, hq.trans q3⟩
          · have hn := (tk_pos ht).2
            have HN := hide (CutS.var HC.out ht)
            rw [List.length_drop, unhide HSZ] at hn
            clear ht HV HC HX
            generalize hvn : (vr ((bl s).drop k)).2 = n at *
            generalize hvm : (vr ((bl s).drop k)).1 = nm at *
            clear hvn hvm
            have hn0 : ((n : Int) == 0) = false := beq_eq_false_iff_ne.2 (by omega)
            have HO3 := hide (own_q hown q3)
            have HT3 := hide (own_q htx q3)
            have hq3 := hq.trans q3
            have hfl := flush_len cs tb
            clear hown htx hq q3
            go_wp2_with fail
            refine (withText_any cs ao bo cap bcap tb w.heap.size _ (unhide HO3) (unhide HT3) hq3.size (by omega) (by omega)).mono ?_
            rintro e w4 ⟨ao4, cap4, rfl, hown4, b4⟩
            have hq4 : Q w w4 := Below.trans hq3 b4
            have hq4s := hq4.size
            go_wp2_with (at_builtin; refine wpList_append_lies _ rfl _ _ 161 rfl w.heap.size 166 i0 (.agg #[.bool false, .string ByteArray.empty]) 2 24 Tryz.underlying161 hi hz0 hz1 hz2 rfl (by decide) _ _ _ rfl (hown4.alloc _) ⟨w4.heap.size, 0, none⟩ 1 1 [.bool true, .string ⟨nm.toArray⟩] rfl rfl (news_new _ #[.bool true, .string ⟨nm.toArray⟩] _) (one_bs _ _) (by decide) (by unfold maxLen; omega) (by omega) (le_alloc hq4s _) (w4.heap.size + 1) (size_alloc _ _) ?_)
            intro g cp w5 hown5 hgrow hor hglt
            have hq5 : Q w w5 := Below.grown (hq4.alloc _) hgrow (by simp; omega) (fun r hr => (hown4.lt r hr).1)
            have HO := hide (OwnP.snoc (p := (true, nm)) hown5)
            clear hown5 hgrow hown4 hor
            go_wp2
            go_roundw
            case rel => exact ⟨k + n, flush cs tb ++ [(true, nm)], [], some ⟨g, 0, none⟩, none, cp, 0, by go_num, by simp, rfl, by omega, by simp; omega, unhide HO, World.ownsRow_nil _ _ _ _, hq5, HN⟩
            case measure => simp [intOf]; omega
        · clear hesc he hdh hc
          go_wp2_with fail
          refine (variable_any (s.extract k s.size) _ (by rw [ext_size s _ _ (by omega) (by omega)]; omega) (by rw [ext_size s _ _ (by omega) (by omega)]; omega)).mono ?_
          rintro e w3 ⟨rfl, q3⟩
          rw [unhide HX]
          rcases unhide HV with ⟨hz, ht⟩ | ⟨hp, hl16, ht⟩
          · rw [hz]
            have HF := hide (CutS.fail HC.out (by rw [unhide HSZ]; omega) ht)
            clear hz ht HV HC
            go_wp2_with fail
            go_ret2
            obtain ⟨ao', cap', e1, e2⟩ := nil_ret w3 w.heap.size (unhide HF)
            exact ⟨ao', cap', e1, e2, hq.trans q3⟩
          · have hn := (tk_pos ht).2
            have HN := hide (CutS.var HC.out ht)
            rw [List.length_drop, unhide HSZ] at hn
            clear ht HV HC HX
            generalize hvn : (vr ((bl s).drop k)).2 = n at *
            generalize hvm : (vr ((bl s).drop k)).1 = nm at *
            clear hvn hvm
            have hn0 : ((n : Int) == 0) = false := beq_eq_false_iff_ne.2 (by omega)
            have HO3 := hide (own_q hown q3)
            have HT3 := hide (own_q htx q3)
            have hq3 := hq.trans q3
            have hfl := flush_len cs tb
            clear hown htx hq q3
            go_wp2_with fail
            refine (withText_any cs ao bo cap bcap tb w.heap.size _ (unhide HO3) (unhide HT3) hq3.size (by omega) (by omega)).mono ?_
            rintro e w4 ⟨ao4, cap4, rfl, hown4, b4⟩
            have hq4 : Q w w4 := Below.trans hq3 b4
            have hq4s := hq4.size
            go_wp2_with (at_builtin; refine wpList_append_lies _ rfl _ _ 161 rfl w.heap.size 166 i0 (.agg #[.bool false, .string ByteArray.empty]) 2 24 Tryz.underlying161 hi hz0 hz1 hz2 rfl (by decide) _ _ _ rfl (hown4.alloc _) ⟨w4.heap.size, 0, none⟩ 1 1 [.bool true, .string ⟨nm.toArray⟩] rfl rfl (news_new _ #[.bool true, .string ⟨nm.toArray⟩] _) (one_bs _ _) (by decide) (by unfold maxLen; omega) (by omega) (le_alloc hq4s _) (w4.heap.size + 1) (size_alloc _ _) ?_)
            intro g cp w5 hown5 hgrow hor hglt
            have hq5 : Q w w5 := Below.grown (hq4.alloc _) hgrow (by simp; omega) (fun r hr => (hown4.lt r hr).1)
            have HO := hide (OwnP.snoc (p := (true, nm)) hown5)
            clear hown5 hgrow hown4 hor
            go_wp2
            go_roundw
            case rel => exact ⟨k + n, flush cs tb ++ [(true, nm)], [], some ⟨g, 0, none⟩, none, cp, 0, by go_num, by simp, rfl, by omega, by simp; omega, unhide HO, World.ownsRow_nil _ _ _ _, hq5, HN⟩
            case measure => simp [intOf]; omega
      · have HN := hide (CutS.text HC.out (tk_text hdh hc))
        have g1 : ((s[k].toNat : Int) == 36) = false := b_false (d := 36) hc
        have g2 : ((s[k].toNat : Int) != 36) = true := n_true (d := 36) hc
        clear hdh hc HC
        go_wp2_with (at_builtin; refine wpList_append_lies _ rfl _ _ 107 rfl w.heap.size 5 i1 (.int .u8 0) 1 1 Tryz.underlying107 hj hy0 hy1 hy2 rfl (by decide) _ _ _ rfl (htx.alloc _) ⟨wr.heap.size, 0, none⟩ 1 1 [.int .u8 (s[k].toNat : Int)] rfl rfl (news_new _ #[.int .u8 (s[k].toNat : Int)] _) (one_int _ _) (by decide) (by unfold maxLen; omega) (by omega) (le_alloc hqs _) (wr.heap.size + 1) (size_alloc _ _) ?_)
        intro g cp w2 hown1 hgrow hor hglt
        have hq2 : Q w w2 := Below.grown (hq.alloc _) hgrow (by simp; omega) (fun r hr => (htx.lt r hr).1)
        have HO := hide (OwnB.snoc (p := s[k]) hown1)
        have HP := hide ((hown.alloc _).kept hgrow (own_apart hown htx (by decide)))
        clear hown1 hgrow hown hor htx
        go_wp2
        go_roundw
        case rel => exact ⟨k + 1, cs, tb ++ [s[k]], ao, some ⟨g, 0, none⟩, cap, cp, by go_num, rfl, by simp, by omega, by simp; omega, unhide HP, unhide HO, hq2, HN⟩
        case measure => simp [intOf]; omega
    · have HD := hide (CutS.done HC.out (by rw [unhide HSZ]; omega) (by rw [unhide HSZ]; omega) (unhide HPL))
      clear HC
      go_wp2_with fail
      refine (withText_any cs ao bo cap bcap tb w.heap.size _ hown htx hqs (by omega) (by omega)).mono ?_
      rintro e w4 ⟨ao4, cap4, rfl, hown4, b4⟩
      go_wp2_with fail
      go_ret2
      rw [(unhide HD).1, (unhide HD).2]
      exact ⟨ao4, cap4, rfl, hown4, Below.trans hq b4⟩

end Go.Proofs.YtpddckgkaopnlaaGreatDoor
