/- What package name's May answers, for every string: whether it has one to sixteen bytes, each a small letter, a digit or one of four signs; no conditions but that the string is no longer than a string can be. -/
import Derived.Test.YtgbegdgacjodcaaDoorIxWalks
namespace Go.Proofs.YtgbegdgacjodcaaDoor
open Go.RowKit

set_option maxHeartbeats 1000000 in
theorem bad_small (c : Int) (h : (97 ≤ c ∧ c ≤ 122) ∨ (48 ≤ c ∧ c ≤ 57)) (w : World) :
    Calls Tryd.prog 65 #[.int .u8 c] w fun e w' => e = .returned (.bool false) ∧ w' = w := by
  rcases h with ⟨h1, h2⟩ | ⟨h1, h2⟩
  · by_cases h3 : c ≤ 57
    · omega
    go_enter Tryd.func65, Tryd.ntmps65
    go_wp2_with (go_at_call 17; refine (str_ib _ _ _).mono ?_; rintro e w' ⟨rfl, rfl⟩)
    go_ret
    exact ⟨rfl, rfl⟩
  · have h3 : ¬ 97 ≤ c := by omega
    go_enter Tryd.func65, Tryd.ntmps65
    go_wp2_with (go_at_call 17; refine (str_ib _ _ _).mono ?_; rintro e w' ⟨rfl, rfl⟩)
    go_ret
    exact ⟨rfl, rfl⟩

theorem okb_far (c : Int) (h : ¬ ((97 ≤ c ∧ c ≤ 122) ∨ (48 ≤ c ∧ c ≤ 57))) (h0 : 0 ≤ c) (h1 : c ≤ 255) :
    decide (Lib.indexByte [46, 95, 45, 47] c.toNat.toUInt8 < 0) = !okb c := by
  rw [signs_index c h0 h1]
  have e : smallB c = false := by unfold smallB; simp; omega
  rw [okb_not_small c e]
  by_cases a : c = 46
  · subst a; decide
  by_cases b : c = 95
  · subst b; decide
  by_cases d : c = 45
  · subst d; decide
  by_cases f : c = 47
  · subst f; decide
  simp [a, b, d, f]

set_option maxHeartbeats 1000000 in
theorem bad_far (c : Int) (h : ¬ ((97 ≤ c ∧ c ≤ 122) ∨ (48 ≤ c ∧ c ≤ 57))) (h0 : 0 ≤ c) (h255 : c ≤ 255) (w : World) :
    Calls Tryd.prog 65 #[.int .u8 c] w fun e w' => e = .returned (.bool (!okb c)) ∧ w' = w := by
  have he : Hid (decide (Lib.indexByte [46, 95, 45, 47] c.toNat.toUInt8 < 0) = !okb c) := okb_far c h h0 h255
  have fin : ∀ w', w' = w → (Ending.returned (.bool (decide (Lib.indexByte [46, 95, 45, 47] c.toNat.toUInt8 < 0))) = .returned (.bool (!okb c)) ∧ w' = w) := by
    intro w' hw; rw [he.out]; exact ⟨rfl, hw⟩
  have FIN := hide fin
  clear fin
  by_cases h1 : 97 ≤ c <;> by_cases h2 : c ≤ 122 <;> by_cases h3 : 48 ≤ c <;> by_cases h4 : c ≤ 57
  all_goals first
    | omega
    | (clear h
       go_enter Tryd.func65, Tryd.ntmps65
       go_wp2_with (go_at_call 17; refine (str_ib _ _ _).mono ?_; rintro e w' ⟨rfl, rfl⟩)
       go_ret
       exact unhide FIN _ rfl)

theorem bad_any (c : Int) (h0 : 0 ≤ c) (h255 : c ≤ 255) (w : World) :
    Calls Tryd.prog 65 #[.int .u8 c] w fun e w' => e = .returned (.bool (!okb c)) ∧ w' = w := by
  by_cases h : (97 ≤ c ∧ c ≤ 122) ∨ (48 ≤ c ∧ c ≤ 57)
  · have e : okb c = true := okb_small c (by unfold smallB; simpa using h)
    rw [e]; exact bad_small c h w
  · exact bad_far c h h0 h255 w

set_option maxHeartbeats 1000000 in
theorem indexFunc_any (b : Nat) (s : ByteArray) (cap : Nat) (w : World) (hs : s.size ≤ maxLen)
    (hcell : ∀ (k : Nat) (h : k < s.size), w.cell? ⟨b, k, none⟩ = some (.int .u8 (s[k].toNat : Int))) :
    Calls Tryd.prog 53 #[.slice (some ⟨b, 0, none⟩) s.size cap, .func (.func 65) #[] #[]] w
      fun e w' => ∃ r : Int, e = .returned (.int .i64 r) ∧ decide (0 ≤ r) = !allOk s.data.toList ∧ w' = w := by
  unfold maxLen at hs
  go_enter Tryd.func53, Tryd.ntmps53
  go_wp2
  go_loop [8] (fun i => ∃ k : Nat, k ≤ s.size ∧ i = .int .i64 k ∧ Hid (allOk (s.data.toList.take k) = true)) (fun i => s.size - (intOf i).toNat)
  case atStart => exact ⟨0, Nat.zero_le _, rfl, rfl⟩
  case round =>
    obtain ⟨k, hk, rfl, hall⟩ := hrel
    by_cases hlt : k < s.size
    · have hc := hcell k hlt
      have hb : (s[k].toNat : Int) ≤ 255 := by have := s[k].toNat_lt; omega
      have hb0 : 0 ≤ (s[k].toNat : Int) := by omega
      cases hok : okb (s[k].toNat : Int)
      · have HO : Hid (allOk s.data.toList = false) := allOk_bad s k hlt hok
        have hcon := hide (bad_any (s[k].toNat : Int) hb0 hb w)
        rw [show (!okb (s[k].toNat : Int)) = true by rw [hok]; rfl] at hcon
        clear hok hcell
        go_wp2_with (go_at_call 65; refine (unhide hcon).mono ?_; rintro e w' ⟨rfl, rfl⟩)
        go_ret
        exact ⟨k, rfl, by rw [HO.out]; simp, rfl⟩
      · have HO : Hid (allOk (s.data.toList.take (k + 1)) = true) := by
          show allOk _ = true
          rw [allOk_take_succ s k hlt, hok, hall.out]; rfl
        have hcon := hide (bad_any (s[k].toNat : Int) hb0 hb w)
        rw [show (!okb (s[k].toNat : Int)) = false by rw [hok]; rfl] at hcon
        clear hok hcell
        go_wp2_with (go_at_call 65; refine (unhide hcon).mono ?_; rintro e w' ⟨rfl, rfl⟩)
        go_round
        case rel => exact ⟨k + 1, by omega, by go_num, HO⟩
        case measure => simp [intOf]; omega
    · go_wp2
      go_ret
      refine ⟨-1, rfl, ?_, rfl⟩
      rw [← allOk_full s k (by omega), hall.out]; rfl

theorem containsFunc_any (b : Nat) (s : ByteArray) (cap : Nat) (w : World) (hs : s.size ≤ maxLen)
    (hcell : ∀ (k : Nat) (h : k < s.size), w.cell? ⟨b, k, none⟩ = some (.int .u8 (s[k].toNat : Int))) :
    Calls Tryd.prog 42 #[.slice (some ⟨b, 0, none⟩) s.size cap, .func (.func 65) #[] #[]] w
      fun e w' => e = .returned (.bool (!allOk s.data.toList)) ∧ w' = w := by
  have hcon := hide (indexFunc_any b s cap w hs hcell)
  clear hcell
  go_enter Tryd.func42, Tryd.ntmps42
  go_wp2_with (go_at_call 53; refine (unhide hcon).mono ?_)
  rintro e w' ⟨r, rfl, hr, rfl⟩
  have HR := hide hr
  clear hr
  go_wp2
  go_ret
  exact ⟨ret_bool (unhide HR), rfl⟩

set_option maxHeartbeats 1000000 in
theorem may_any (s : ByteArray) (w : World) (hs : s.size ≤ maxLen) :
    Calls Tryd.prog 49 #[.string s] w fun e w' => e = .returned (.bool (mayB s)) ∧ Q w w' := by
  unfold maxLen at hs
  by_cases h1 : s.size < 1
  · have hf : Hid (mayB s = false) := by show mayB s = false; unfold mayB; simp; omega
    go_enter Tryd.func49, Tryd.ntmps49
    go_wp2_with fail
    go_ret
    exact ⟨ret_bool hf.out.symm, Q.refl _⟩
  by_cases h2 : 16 < s.size
  · have hf : Hid (mayB s = false) := by show mayB s = false; unfold mayB; simp; omega
    go_enter Tryd.func49, Tryd.ntmps49
    go_wp2_with fail
    go_ret
    exact ⟨ret_bool hf.out.symm, Q.refl _⟩
  have hf : Hid (mayB s = allOk s.data.toList) := by show mayB s = _; unfold mayB; simp; omega
  have hcv := fun w => run_bytes_of_string (P := Tryd.prog) w 9 41 5 s Tryd.underlying9 Tryd.underlying41 Tryd.underlying5
  go_enter Tryd.func49, Tryd.ntmps49
  go_wp2_with fail
  refine (containsFunc_any _ s _ _ (by unfold maxLen; omega) ?_).mono ?_
  · intro k h
    exact cell_bytes _ _ _ _ _ _ h
  rintro e w' ⟨rfl, rfl⟩
  go_wp2
  go_ret
  exact ⟨ret_bool (by rw [hf.out]), (Q.alloc (Q.refl _) _).drew⟩


end Go.Proofs.YtgbegdgacjodcaaDoor
