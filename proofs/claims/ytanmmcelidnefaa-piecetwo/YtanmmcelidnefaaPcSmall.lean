/- What the small functions of package pieces answer: may the text be cut, may the byte stand in a name, which variable does a text begin with; the conditions: lengths. -/
import Derived.Test.YtanmmcelidnefaaIxWalks
import Derived.Test.YtanmmcelidnefaaPcPlain
import Derived.Test.YtanmmcelidnefaaShelf
namespace Go.Proofs.Ytanmmcelidnefaa
open Go.RowKit

def vbI (c : Int) : Bool := smallB c || decide (c = 95)
def oddI (c : Int) : Bool := decide (c < 32) || decide (126 < c)

theorem odd_any (c : Int) (w : World) : Calls Try.prog 21 #[.int .u8 c] w fun e w' => e = .returned (.bool (oddI c)) ∧ w' = w := by
  have hr : Hid (oddI c = (decide (c < 32) || decide (126 < c))) := rfl
  by_cases h1 : c < 32 <;> by_cases h2 : 126 < c
  all_goals
    go_enter Try.func21, Try.ntmps21
    go_wp2
    go_ret
    refine ⟨ret_bool ?_, rfl⟩
    rw [hr.out]
    simp [h1, h2] <;> omega

theorem ofName_any (c : Int) (w : World) : Calls Try.prog 24 #[.int .u8 c] w fun e w' => e = .returned (.bool (vbI c)) ∧ w' = w := by
  have hr : Hid (vbI c = (decide (97 ≤ c ∧ c ≤ 122) || decide (48 ≤ c ∧ c ≤ 57) || decide (c = 95))) := rfl
  by_cases h1 : 97 ≤ c <;> by_cases h2 : c ≤ 122 <;> by_cases h3 : 48 ≤ c <;> by_cases h4 : c ≤ 57
  all_goals first
    | omega
    | (go_enter Try.func24, Try.ntmps24
       go_wp2
       go_ret
       refine ⟨ret_bool ?_, rfl⟩
       rw [hr.out, Bool.eq_iff_iff]
       simp <;> omega)

theorem plain_any (s : ByteArray) : anyB oddI (bl s) = !plainL (bl s) := by
  unfold anyB plainL oddI
  induction bl s with
  | nil => rfl
  | cons c r ih =>
    rw [List.any_cons, List.all_cons, ih]
    have : (decide ((c.toNat : Int) < 32) || decide (126 < (c.toNat : Int))) = !(decide (32 ≤ (c.toNat : Int)) && decide ((c.toNat : Int) ≤ 126)) := by
      rw [Bool.eq_iff_iff]; simp <;> omega
    rw [this]; simp

set_option maxHeartbeats 1000000 in
theorem mbc_ix (p : Int → Bool) (hF : Hid (∀ c : Int, 0 ≤ c → c ≤ 255 → ∀ w, Calls Try.prog 21 #[.int .u8 c] w fun e w' => e = .returned (.bool (p c)) ∧ w' = w))
    (b : Nat) (s : ByteArray) (cap : Nat) (w : World) (hs : s.size ≤ maxLen)
    (hcell : ∀ (k : Nat) (h : k < s.size), w.cell? ⟨b, k, none⟩ = some (.int .u8 (s[k].toNat : Int))) :
    Calls Try.prog 27 #[.slice (some ⟨b, 0, none⟩) s.size cap, .func (.func 21) #[] #[]] w
      fun e w' => ∃ r : Int, e = .returned (.int .i64 r) ∧ decide (0 ≤ r) = anyB p (bl s) ∧ w' = w := by
  unfold maxLen at hs
  go_enter Try.func27, Try.ntmps27
  go_wp2
  go_loop [8] (fun i => ∃ k : Nat, k ≤ s.size ∧ i = .int .i64 k ∧ Hid (anyB p ((bl s).take k) = false)) (fun i => s.size - (intOf i).toNat)
  case atStart => exact ⟨0, Nat.zero_le _, rfl, rfl⟩
  case round =>
    obtain ⟨k, hk, rfl, hall⟩ := hrel
    by_cases hlt : k < s.size
    · have hc := hcell k hlt
      have hb : (s[k].toNat : Int) ≤ 255 := by have := s[k].toNat_lt; omega
      have hb0 : 0 ≤ (s[k].toNat : Int) := by omega
      have hcon := hide (hF.out (s[k].toNat : Int) hb0 hb w)
      cases hok : p (s[k].toNat : Int)
      · have HO : Hid (anyB p ((bl s).take (k + 1)) = false) := by
          show _ = false
          rw [anyB_take_succ p s k hlt, hok, hall.out]; rfl
        rw [hok] at hcon
        clear hok hcell
        go_wp2_with (go_at_call 21; refine (unhide hcon).mono ?_; rintro e w' ⟨rfl, rfl⟩)
        go_round
        case rel => exact ⟨k + 1, by omega, by go_num, HO⟩
        case measure => simp [intOf]; omega
      · have HO : Hid (anyB p (bl s) = true) := anyB_hit p s k hlt hok
        rw [hok] at hcon
        clear hok hcell
        go_wp2_with (go_at_call 21; refine (unhide hcon).mono ?_; rintro e w' ⟨rfl, rfl⟩)
        go_ret
        exact ⟨k, rfl, by rw [HO.out]; simp, rfl⟩
    · go_wp2
      go_ret
      refine ⟨-1, rfl, ?_, rfl⟩
      have := hall.out
      rw [List.take_of_length_le (by rw [bl_size]; omega)] at this
      rw [this]; rfl

theorem mbc_cx (p : Int → Bool) (hF : Hid (∀ c : Int, 0 ≤ c → c ≤ 255 → ∀ w, Calls Try.prog 21 #[.int .u8 c] w fun e w' => e = .returned (.bool (p c)) ∧ w' = w))
    (b : Nat) (s : ByteArray) (cap : Nat) (w : World) (hs : s.size ≤ maxLen)
    (hcell : ∀ (k : Nat) (h : k < s.size), w.cell? ⟨b, k, none⟩ = some (.int .u8 (s[k].toNat : Int))) :
    Calls Try.prog 20 #[.slice (some ⟨b, 0, none⟩) s.size cap, .func (.func 21) #[] #[]] w
      fun e w' => e = .returned (.bool (anyB p (bl s))) ∧ w' = w := by
  have hcon := hide (mbc_ix p hF b s cap w hs hcell)
  clear hcell hF
  go_enter Try.func20, Try.ntmps20
  go_wp2_with (go_at_call 27; refine (unhide hcon).mono ?_)
  rintro e w' ⟨r, rfl, hr, rfl⟩
  have HR := hide hr
  clear hr
  go_wp2
  go_ret
  exact ⟨ret_bool (unhide HR), rfl⟩


set_option maxHeartbeats 1000000 in
theorem mayBeCut_any (s : ByteArray) (w : World) (hs : s.size ≤ maxLen) :
    Calls Try.prog 13 #[.string s] w fun e w' => e = .returned (.bool (decide ((bl s).length ≤ 2048) && plainL (bl s))) ∧ Q w w' := by
  unfold maxLen at hs
  have hsz := hide (bl_size s)
  by_cases h2 : 2048 < s.size
  · have hf : Hid ((decide ((bl s).length ≤ 2048) && plainL (bl s)) = false) := by show _ = false; rw [unhide hsz]; simp; omega
    go_enter Try.func13, Try.ntmps13
    go_wp2_with fail
    go_ret
    exact ⟨ret_bool hf.out.symm, Q.refl _⟩
  have hf : Hid ((decide ((bl s).length ≤ 2048) && plainL (bl s)) = !anyB oddI (bl s)) := by
    show _ = _; rw [unhide hsz, plain_any, Bool.not_not, decide_eq_true (by omega), Bool.true_and]
  have hcv := fun w => run_bytes_of_string (P := Try.prog) w 9 34 5 s Try.underlying9 Try.underlying34 Try.underlying5
  go_enter Try.func13, Try.ntmps13
  go_wp2_with fail
  refine (mbc_cx oddI (fun c _ _ w => odd_any c w) _ s _ _ (by unfold maxLen; omega) ?_).mono ?_
  · intro k h
    exact cell_bytes _ _ _ _ _ _ h
  rintro e w' ⟨rfl, rfl⟩
  go_wp2
  go_ret
  exact ⟨ret_bool hf.out.symm, (Q.alloc (Q.refl _) _).drew⟩

def preB (s p : ByteArray) : Bool := (bl s).take p.size == bl p

set_option maxHeartbeats 1000000 in
theorem litePre_any (s p : ByteArray) (w : World) :
    Calls Try.prog 29 #[.string s, .string p] w fun e w' => e = .returned (.bool (preB s p)) ∧ w' = w := by
  have H1 := hide (bl_size s)
  have H2 := hide (bl_size p)
  have H3 := hide (bl_toList p)
  have H4 := hide (bl_toList (s.extract 0 p.size))
  have H5 := hide (bl_extract s 0 p.size)
  by_cases h : p.size ≤ s.size
  · go_enter Try.func29, Try.ntmps29
    go_wp2_with fail
    go_ret
    refine ⟨ret_bool ?_, rfl⟩
    unfold preB
    rw [unhide H4, unhide H5, unhide H3, List.drop_zero]
  · have HF : Hid (preB s p = false) := by
      show preB s p = false
      unfold preB
      rw [beq_eq_false_iff_ne]
      intro e
      have := congrArg List.length e
      rw [List.length_take, unhide H1, unhide H2] at this; omega
    go_enter Try.func29, Try.ntmps29
    go_wp2_with fail
    go_ret
    exact ⟨ret_bool HF.out.symm, rfl⟩

theorem hasPre_any (s p : ByteArray) (w : World) :
    Calls Try.prog 23 #[.string s, .string p] w fun e w' => e = .returned (.bool (preB s p)) ∧ w' = w := by
  go_enter Try.func23, Try.ntmps23
  go_wp2_with fail
  refine (litePre_any s p _).mono ?_
  rintro e w' ⟨rfl, rfl⟩
  go_wp2_with fail
  go_ret
  exact ⟨rfl, rfl⟩

end Go.Proofs.Ytanmmcelidnefaa
