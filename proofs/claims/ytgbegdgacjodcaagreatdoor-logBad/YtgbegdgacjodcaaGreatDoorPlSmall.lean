/- What package plain's May, the document's own Plain and the library's Clone answer, for every text: is it short enough, are its bytes from 32 to 126; the same text; no conditions but that the text is no longer than a string can be. -/
import Derived.Test.YtgbegdgacjodcaaGreatDoorIxWalks
import Derived.Test.YtgbegdgacjodcaaGreatDoorBdPlain
import Derived.Test.YtgbegdgacjodcaaGreatDoorShelf
namespace Go.Proofs.YtgbegdgacjodcaaGreatDoor
open Go.RowKit

def oddI (c : Int) : Bool := decide (c < 32) || decide (126 < c)

theorem odd_any (c : Int) (w : World) : Calls Tryz.prog 59 #[.int .u8 c] w fun e w' => e = .returned (.bool (oddI c)) ∧ w' = w := by
  have hr : Hid (oddI c = (decide (c < 32) || decide (126 < c))) := rfl
  by_cases h1 : c < 32 <;> by_cases h2 : 126 < c
  all_goals
    go_enter Tryz.func59, Tryz.ntmps59
    go_wp2
    go_ret
    refine ⟨ret_bool ?_, rfl⟩
    rw [hr.out]
    simp [h1, h2] <;> omega

theorem plain_any (s : ByteArray) : anyB oddI (bl s) = !plainL (bl s) := by
  unfold anyB plainL oddI
  induction bl s with
  | nil => rfl
  | cons c r ih =>
    rw [List.any_cons, List.all_cons, ih]
    have : (decide ((c.toNat : Int) < 32) || decide (126 < (c.toNat : Int))) = !(decide (32 ≤ (c.toNat : Int)) && decide ((c.toNat : Int) ≤ 126)) := by
      rw [Bool.eq_iff_iff]; simp <;> omega
    rw [this]; simp

set_option maxHeartbeats 1000000 in
theorem mbc_ix (p : Int → Bool) (hF : Hid (∀ c : Int, 0 ≤ c → c ≤ 255 → ∀ w, Calls Tryz.prog 59 #[.int .u8 c] w fun e w' => e = .returned (.bool (p c)) ∧ w' = w))
    (b : Nat) (s : ByteArray) (cap : Nat) (w : World) (hs : s.size ≤ maxLen)
    (hcell : ∀ (k : Nat) (h : k < s.size), w.cell? ⟨b, k, none⟩ = some (.int .u8 (s[k].toNat : Int))) :
    Calls Tryz.prog 70 #[.slice (some ⟨b, 0, none⟩) s.size cap, .func (.func 59) #[] #[]] w
      fun e w' => ∃ r : Int, e = .returned (.int .i64 r) ∧ decide (0 ≤ r) = anyB p (bl s) ∧ w' = w := by
  unfold maxLen at hs
  go_enter Tryz.func70, Tryz.ntmps70
  go_wp2
  go_loop [8] (fun i => ∃ k : Nat, k ≤ s.size ∧ i = .int .i64 k ∧ Hid (anyB p ((bl s).take k) = false)) (fun i => s.size - (intOf i).toNat)
  case atStart => exact ⟨0, Nat.zero_le _, rfl, rfl⟩
  case round =>
    obtain ⟨k, hk, rfl, hall⟩ := hrel
    by_cases hlt : k < s.size
    · have hc := hcell k hlt
      have hb : (s[k].toNat : Int) ≤ 255 := by have := s[k].toNat_lt; omega
      have hb0 : 0 ≤ (s[k].toNat : Int) := by omega
      have hcon := hide (hF.out (s[k].toNat : Int) hb0 hb w)
      cases hok : p (s[k].toNat : Int)
      · have HO : Hid (anyB p ((bl s).take (k + 1)) = false) := by
          show _ = false
          rw [anyB_take_succ p s k hlt, hok, hall.out]; rfl
        rw [hok] at hcon
        clear hok hcell
        go_wp2_with (go_at_call 59; refine (unhide hcon).mono ?_; rintro e w' ⟨rfl, rfl⟩)
        go_round
        case rel => exact ⟨k + 1, by omega, by go_num, HO⟩
        case measure => simp [intOf]; omega
      · have HO : Hid (anyB p (bl s) = true) := anyB_hit p s k hlt hok
        rw [hok] at hcon
        clear hok hcell
        go_wp2_with (go_at_call 59; refine (unhide hcon).mono ?_; rintro e w' ⟨rfl, rfl⟩)
        go_ret
        exact ⟨k, rfl, by rw [HO.out]; simp, rfl⟩
    · go_wp2
      go_ret
      refine ⟨-1, rfl, ?_, rfl⟩
      have := hall.out
      rw [List.take_of_length_le (by rw [bl_size]; omega)] at this
      rw [this]; rfl

theorem mbc_cx (p : Int → Bool) (hF : Hid (∀ c : Int, 0 ≤ c → c ≤ 255 → ∀ w, Calls Tryz.prog 59 #[.int .u8 c] w fun e w' => e = .returned (.bool (p c)) ∧ w' = w))
    (b : Nat) (s : ByteArray) (cap : Nat) (w : World) (hs : s.size ≤ maxLen)
    (hcell : ∀ (k : Nat) (h : k < s.size), w.cell? ⟨b, k, none⟩ = some (.int .u8 (s[k].toNat : Int))) :
    Calls Tryz.prog 58 #[.slice (some ⟨b, 0, none⟩) s.size cap, .func (.func 59) #[] #[]] w
      fun e w' => e = .returned (.bool (anyB p (bl s))) ∧ w' = w := by
  have hcon := hide (mbc_ix p hF b s cap w hs hcell)
  clear hcell hF
  go_enter Tryz.func58, Tryz.ntmps58
  go_wp2_with (go_at_call 70; refine (unhide hcon).mono ?_)
  rintro e w' ⟨r, rfl, hr, rfl⟩
  have HR := hide hr
  clear hr
  go_wp2
  go_ret
  exact ⟨ret_bool (unhide HR), rfl⟩


set_option maxHeartbeats 1000000 in
theorem pmay_any (s : ByteArray) (m : Int) (w : World) (hs : s.size ≤ maxLen) :
    Calls Tryz.prog 45 #[.string s, .int .i64 m] w fun e w' => e = .returned (.bool (decide ((s.size : Int) ≤ m) && plainL (bl s))) ∧ Q w w' := by
  unfold maxLen at hs
  by_cases h2 : m < (s.size : Int)
  · have hf : Hid ((decide ((s.size : Int) ≤ m) && plainL (bl s)) = false) := by show _ = false; rw [decide_eq_false (by omega)]; rfl
    go_enter Tryz.func45, Tryz.ntmps45
    go_wp2_with fail
    go_ret
    exact ⟨ret_bool hf.out.symm, Q.refl _⟩
  have hf : Hid ((decide ((s.size : Int) ≤ m) && plainL (bl s)) = !anyB oddI (bl s)) := by
    show _ = _; rw [plain_any, Bool.not_not, decide_eq_true (by omega), Bool.true_and]
  have hcv := fun w => run_bytes_of_string (P := Tryz.prog) w 9 49 5 s Tryz.underlying9 Tryz.underlying49 Tryz.underlying5
  go_enter Tryz.func45, Tryz.ntmps45
  go_wp2_with fail
  refine (mbc_cx oddI (fun c _ _ w => odd_any c w) _ s _ _ (by unfold maxLen; omega) ?_).mono ?_
  · intro k h
    exact cell_bytes _ _ _ _ _ _ h
  rintro e w' ⟨rfl, rfl⟩
  go_wp2
  go_ret
  exact ⟨ret_bool hf.out.symm, (Q.alloc (Q.refl _) _).drew⟩

theorem plainL_take_succ (s : ByteArray) (k : Nat) (h : k < s.size) : plainL ((bl s).take (k + 1)) = (plainL ((bl s).take k) && !oddI (s[k].toNat : Int)) := by
  show plainL (s.data.toList.take (k + 1)) = (plainL (s.data.toList.take k) && !oddI (s[k].toNat : Int))
  rw [take_snoc s k h, plainL_app]
  congr 1
  unfold plainL oddI
  rw [List.all_cons, List.all_nil, Bool.and_true, Bool.eq_iff_iff]; simp
theorem plainL_bad (s : ByteArray) (k : Nat) (h : k < s.size) (hb : oddI (s[k].toNat : Int) = true) : plainL (bl s) = false := by
  have := plainL_take_succ s k h
  rw [hb, Bool.not_true, Bool.and_false] at this
  rw [← List.take_append_drop (k + 1) (bl s), plainL_app, this, Bool.false_and]

set_option maxHeartbeats 1000000 in
theorem rplain_any (s : ByteArray) (a b : Int) (w : World) (hs : s.size ≤ maxLen) :
    Calls Tryz.prog 48 #[.string s, .int .i64 a, .int .i64 b] w fun e w' => e = .returned (.bool (plainL (bl s) && decide (a ≤ (s.size : Int)) && decide ((s.size : Int) ≤ b))) ∧ w' = w := by
  unfold maxLen at hs
  go_enter Tryz.func48, Tryz.ntmps48
  go_wp2
  go_loop [7] (fun i => ∃ k : Nat, k ≤ s.size ∧ i = .int .i64 k ∧ Hid (plainL ((bl s).take k) = true)) (fun i => s.size - (intOf i).toNat)
  case atStart => exact ⟨0, Nat.zero_le _, rfl, rfl⟩
  case round =>
    obtain ⟨k, hk, rfl, hall⟩ := hrel
    by_cases hlt : k < s.size
    · cases hok : oddI (s[k].toNat : Int)
      · have HO : Hid (plainL ((bl s).take (k + 1)) = true) := by
          show _ = true
          rw [plainL_take_succ s k hlt, hok, hall.out]; rfl
        have h1 : 32 ≤ (s[k].toNat : Int) ∧ (s[k].toNat : Int) ≤ 126 := by unfold oddI at hok; simp at hok; omega
        obtain ⟨h1, h2⟩ := h1
        clear hok hall
        go_wp2
        go_round
        case rel => exact ⟨k + 1, by omega, by go_num, HO⟩
        case measure => simp [intOf]; omega
      · have HO : Hid (plainL (bl s) = false) := plainL_bad s k hlt hok
        have h1 : (s[k].toNat : Int) < 32 ∨ (32 ≤ (s[k].toNat : Int) ∧ 126 < (s[k].toNat : Int)) := by unfold oddI at hok; simp at hok; omega
        clear hok hall
        rcases h1 with h1 | ⟨h1, h2⟩
        all_goals
          go_wp2
          go_ret
          exact ⟨ret_bool (by rw [HO.out]; rfl), rfl⟩
    · have HP : Hid (plainL (bl s) = true) := by
        have := hall.out
        rw [List.take_of_length_le (by rw [bl_size]; omega)] at this
        exact this
      clear hall
      by_cases h1 : a ≤ (s.size : Int) <;> by_cases h2 : (s.size : Int) ≤ b
      all_goals
        go_wp2
        go_ret
        refine ⟨ret_bool ?_, rfl⟩
        have hp := HP.out
        simp [hp, h1, h2] <;> omega

theorem clone_any (s : ByteArray) (w : World) (hs : s.size ≤ 281474976710656) :
    Calls Tryz.prog 41 #[.string s] w fun e w' => e = .returned (.string s) ∧ Q w w' := by
  have c : Calls Tryz.prog 55 #[.string s] w fun e w' => e = .returned (.string s) ∧ Below w.heap.size w w' := Any.stringslite_Clone Tryz.laysM316 s w hs
  have C := hide c
  clear c
  go_enter Tryz.func41, Tryz.ntmps41
  go_wp2_with fail
  refine (unhide C).mono ?_
  rintro e w' ⟨rfl, q⟩
  go_wp2
  go_ret
  exact ⟨rfl, q⟩

end Go.Proofs.YtgbegdgacjodcaaGreatDoor
