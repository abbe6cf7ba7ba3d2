/- What package name's May answers, for every string: whether it has one to sixteen bytes, each a small letter, a digit or one of four signs; no conditions but that the string is no longer than a string can be. -/
import Derived.Test.YtgbegdgacjodcaaGreatDoorIxWalks
namespace Go.Proofs.YtgbegdgacjodcaaGreatDoor
open Go.RowKit

set_option maxHeartbeats 1000000 in
theorem bad_small (c : Int) (h : (97 ≤ c ∧ c ≤ 122) ∨ (48 ≤ c ∧ c ≤ 57)) (w : World) :
    Calls Tryz.prog 85 #[.int .u8 c] w fun e w' => e = .returned (.bool false) ∧ w' = w := by
  rcases h with ⟨h1, h2⟩ | ⟨h1, h2⟩
  · by_cases h3 : c ≤ 57
    · omega
    go_enter Tryz.func85, Tryz.ntmps85
    go_wp2_with (go_at_call 27; refine (str_ib _ _ _).mono ?_; rintro e w' ⟨rfl, rfl⟩)
    go_ret
    exact ⟨rfl, rfl⟩
  · have h3 : ¬ 97 ≤ c := by omega
    go_enter Tryz.func85, Tryz.ntmps85
    go_wp2_with (go_at_call 27; refine (str_ib _ _ _).mono ?_; rintro e w' ⟨rfl, rfl⟩)
    go_ret
    exact ⟨rfl, rfl⟩

theorem okb_far (c : Int) (h : ¬ ((97 ≤ c ∧ c ≤ 122) ∨ (48 ≤ c ∧ c ≤ 57))) (h0 : 0 ≤ c) (h1 : c ≤ 255) :
    decide (Lib.indexByte [46, 95, 45, 47] c.toNat.toUInt8 < 0) = !okb c := by
  rw [signs_index c h0 h1]
  have e : smallB c = false := by unfold smallB; simp; omega
  rw [okb_not_small c e]
  by_cases a : c = 46
  · subst a; decide
  by_cases b : c = 95
  · subst b; decide
  by_cases d : c = 45
  · subst d; decide
  by_cases f : c = 47
  · subst f; decide
  simp [a, b, d, f]

set_option maxHeartbeats 1000000 in
theorem bad_far (c : Int) (h : ¬ ((97 ≤ c ∧ c ≤ 122) ∨ (48 ≤ c ∧ c ≤ 57))) (h0 : 0 ≤ c) (h255 : c ≤ 255) (w : World) :
    Calls Tryz.prog 85 #[.int .u8 c] w fun e w' => e = .returned (.bool (!okb c)) ∧ w' = w := by
  have he : Hid (decide (Lib.indexByte [46, 95, 45, 47] c.toNat.toUInt8 < 0) = !okb c) := okb_far c h h0 h255
  have fin : ∀ w', w' = w → (Ending.returned (.bool (decide (Lib.indexByte [46, 95, 45, 47] c.toNat.toUInt8 < 0))) = .returned (.bool (!okb c)) ∧ w' = w) := by
    intro w' hw; rw [he.out]; exact ⟨rfl, hw⟩
  have FIN := hide fin
  clear fin
  by_cases h1 : 97 ≤ c <;> by_cases h2 : c ≤ 122 <;> by_cases h3 : 48 ≤ c <;> by_cases h4 : c ≤ 57
  all_goals first
    | omega
    | (clear h
       go_enter Tryz.func85, Tryz.ntmps85
       go_wp2_with (go_at_call 27; refine (str_ib _ _ _).mono ?_; rintro e w' ⟨rfl, rfl⟩)
       go_ret
       exact unhide FIN _ rfl)

theorem bad_any (c : Int) (h0 : 0 ≤ c) (h255 : c ≤ 255) (w : World) :
    Calls Tryz.prog 85 #[.int .u8 c] w fun e w' => e = .returned (.bool (!okb c)) ∧ w' = w := by
  by_cases h : (97 ≤ c ∧ c ≤ 122) ∨ (48 ≤ c ∧ c ≤ 57)
  · have e : okb c = true := okb_small c (by unfold smallB; simpa using h)
    rw [e]; exact bad_small c h w
  · exact bad_far c h h0 h255 w

set_option maxHeartbeats 1000000 in
theorem indexFunc_any (b : Nat) (s : ByteArray) (cap : Nat) (w : World) (hs : s.size ≤ maxLen)
    (hcell : ∀ (k : Nat) (h : k < s.size), w.cell? ⟨b, k, none⟩ = some (.int .u8 (s[k].toNat : Int))) :
    Calls Tryz.prog 70 #[.slice (some ⟨b, 0, none⟩) s.size cap, .func (.func 85) #[] #[]] w
      fun e w' => ∃ r : Int, e = .returned (.int .i64 r) ∧ decide (0 ≤ r) = !allOk s.data.toList ∧ w' = w := by
  unfold maxLen at hs
  go_enter Tryz.func70, Tryz.ntmps70
  go_wp2
  go_loop [8] (fun i => ∃ k : Nat, k ≤ s.size ∧ i = .int .i64 k ∧ Hid (allOk (s.data.toList.take k) = true)) (fun i => s.size - (intOf i).toNat)
  case atStart => exact ⟨0, Nat.zero_le _, rfl, rfl⟩
  case round =>
    obtain ⟨k, hk, rfl, hall⟩ := hrel
    by_cases hlt : k < s.size
    · have hc := hcell k hlt
      have hb : (s[k].toNat : Int) ≤ 255 := by have := s[k].toNat_lt; omega
      have hb0 : 0 ≤ (s[k].toNat : Int) := by omega
      cases hok : okb (s[k].toNat : Int)
      · have HO : Hid (allOk s.data.toList = false) := allOk_bad s k hlt hok
        have hcon := hide (bad_any (s[k].toNat : Int) hb0 hb w)
        rw [show (!okb (s[k].toNat : Int)) = true by rw [hok]; rfl] at hcon
        clear hok hcell
        go_wp2_with (go_at_call 85; refine (unhide hcon).mono ?_; rintro e w' ⟨rfl, rfl⟩)
        go_ret
        exact ⟨k, rfl, by rw [HO.out]; simp, rfl⟩
      · have HO : Hid (allOk (s.data.toList.take (k + 1)) = true) := by
          show allOk _ = true
          rw [allOk_take_succ s k hlt, hok, hall.out]; rfl
        have hcon := hide (bad_any (s[k].toNat : Int) hb0 hb w)
        rw [show (!okb (s[k].toNat : Int)) = false by rw [hok]; rfl] at hcon
        clear hok hcell
        go_wp2_with (go_at_call 85; refine (unhide hcon).mono ?_; rintro e w' ⟨rfl, rfl⟩)
        go_round
        case rel => exact ⟨k + 1, by omega, by go_num, HO⟩
        case measure => simp [intOf]; omega
    · go_wp2
      go_ret
      refine ⟨-1, rfl, ?_, rfl⟩
      rw [← allOk_full s k (by omega), hall.out]; rfl

theorem containsFunc_any (b : Nat) (s : ByteArray) (cap : Nat) (w : World) (hs : s.size ≤ maxLen)
    (hcell : ∀ (k : Nat) (h : k < s.size), w.cell? ⟨b, k, none⟩ = some (.int .u8 (s[k].toNat : Int))) :
    Calls Tryz.prog 58 #[.slice (some ⟨b, 0, none⟩) s.size cap, .func (.func 85) #[] #[]] w
      fun e w' => e = .returned (.bool (!allOk s.data.toList)) ∧ w' = w := by
  have hcon := hide (indexFunc_any b s cap w hs hcell)
  clear hcell
  go_enter Tryz.func58, Tryz.ntmps58
  go_wp2_with (go_at_call 70; refine (unhide hcon).mono ?_)
  rintro e w' ⟨r, rfl, hr, rfl⟩
  have HR := hide hr
  clear hr
  go_wp2
  go_ret
  exact ⟨ret_bool (unhide HR), rfl⟩

set_option maxHeartbeats 1000000 in
theorem may_any (s : ByteArray) (w : World) (hs : s.size ≤ maxLen) :
    Calls Tryz.prog 66 #[.string s] w fun e w' => e = .returned (.bool (mayB s)) ∧ Q w w' := by
  unfold maxLen at hs
  by_cases h1 : s.size < 1
  · have hf : Hid (mayB s = false) := by show mayB s = false; unfold mayB; simp; omega
    go_enter Tryz.func66, Tryz.ntmps66
    go_wp2_with fail
    go_ret
    exact ⟨ret_bool hf.out.symm, Q.refl _⟩
  by_cases h2 : 16 < s.size
  · have hf : Hid (mayB s = false) := by show mayB s = false; unfold mayB; simp; omega
    go_enter Tryz.func66, Tryz.ntmps66
    go_wp2_with fail
    go_ret
    exact ⟨ret_bool hf.out.symm, Q.refl _⟩
  have hf : Hid (mayB s = allOk s.data.toList) := by show mayB s = _; unfold mayB; simp; omega
  have hcv := fun w => run_bytes_of_string (P := Tryz.prog) w 9 49 5 s Tryz.underlying9 Tryz.underlying49 Tryz.underlying5
  go_enter Tryz.func66, Tryz.ntmps66
  go_wp2_with fail
  refine (containsFunc_any _ s _ _ (by unfold maxLen; omega) ?_).mono ?_
  · intro k h
    exact cell_bytes _ _ _ _ _ _ h
  rintro e w' ⟨rfl, rfl⟩
  go_wp2
  go_ret
  exact ⟨ret_bool (by rw [hf.out]), (Q.alloc (Q.refl _) _).drew⟩

set_option maxHeartbeats 1000000 in
theorem nameMay_any (s : ByteArray) (w : World) (hs : s.size ≤ maxLen) :
    Calls Tryz.prog 71 #[.string s] w fun e w' => e = .returned (.bool (mayB s)) ∧ w' = w := by
  unfold maxLen at hs
  go_enter Tryz.func71, Tryz.ntmps71
  go_wp2
  go_loop [3] (fun i => ∃ k : Nat, k ≤ s.size ∧ i = .int .i64 k ∧ Hid (allOk (s.data.toList.take k) = true)) (fun i => s.size - (intOf i).toNat)
  case atStart => exact ⟨0, Nat.zero_le _, rfl, rfl⟩
  case round =>
    obtain ⟨k, hk, rfl, hall⟩ := hrel
    by_cases hlt : k < s.size
    · have hb : (s[k].toNat : Int) ≤ 255 := by have := s[k].toNat_lt; omega
      have hb0 : 0 ≤ (s[k].toNat : Int) := by omega
      cases hok : okb (s[k].toNat : Int)
      · have HO : Hid (mayB s = false) := by show mayB s = false; unfold mayB; rw [allOk_bad s k hlt hok]; simp
        obtain ⟨g0, g1, g2, g3, g4⟩ := okb_false _ hok
        clear hok
        go_wp2_with (go_at_call 88; refine (small_any _ _).mono ?_; rintro e w' ⟨rfl, rfl⟩)
        go_ret
        exact ⟨ret_bool HO.out.symm, rfl⟩
      · have HO : Hid (allOk (s.data.toList.take (k + 1)) = true) := by
          show allOk _ = true
          rw [allOk_take_succ s k hlt, hok, hall.out]; rfl
        rcases okb_true _ hok with g0 | ⟨g0, g1⟩ | ⟨g0, g1, g2⟩ | ⟨g0, g1, g2, g3⟩ | ⟨g0, g1, g2, g3, g4⟩
        all_goals
          clear hok
          go_wp2_with (go_at_call 88; refine (small_any _ _).mono ?_; rintro e w' ⟨rfl, rfl⟩)
          go_round
          case rel => exact ⟨k + 1, by omega, by go_num, HO⟩
          case measure => simp [intOf]; omega
    · have hf : Hid (mayB s = (decide (1 ≤ (s.size : Int)) && decide ((s.size : Int) ≤ 16))) := by
        show mayB s = _; unfold mayB; rw [← allOk_full s k (by omega), hall.out, Bool.and_true]
        rw [Bool.eq_iff_iff]; simp; omega
      rcases (by omega : s.size < 1 ∨ (1 ≤ s.size ∧ s.size ≤ 16) ∨ (1 ≤ s.size ∧ 16 < s.size)) with h1 | ⟨h1, h2⟩ | ⟨h1, h2⟩
      all_goals
        go_wp2
        go_ret
        refine ⟨ret_bool ?_, rfl⟩
        rw [hf.out, Bool.eq_iff_iff]; simp <;> omega

end Go.Proofs.YtgbegdgacjodcaaGreatDoor
