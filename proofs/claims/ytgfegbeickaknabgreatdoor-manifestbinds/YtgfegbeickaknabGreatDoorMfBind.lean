/- What package manifest's depthOf, refusal, bindOf and clean answer; the conditions: the lengths. -/
import Derived.Test.YtgfegbeickaknabGreatDoorMfFind
import Derived.Test.YtgfegbeickaknabGreatDoorWk1
import Derived.Test.YtgfegbeickaknabGreatDoorWdSame
namespace Go.Proofs.YtgfegbeickaknabGreatDoor
open Go.RowKit

theorem refusal_any (e : Int) (w : World) :
    Calls Tryz.prog 84 #[.int .i64 e] w fun x w' => x = .returned (.int .i64 (rfE e)) ∧ w' = w := by
  by_cases h0 : e = 0
  · subst h0
    go_enter Tryz.func84, Tryz.ntmps84
    go_wp2_with fail
    go_ret
    exact ⟨rfl, rfl⟩
  by_cases h1 : e = 401
  · subst h1
    go_enter Tryz.func84, Tryz.ntmps84
    go_wp2_with fail
    go_ret
    exact ⟨rfl, rfl⟩
  have HE : Hid (rfE e = 800) := by show _ = _; unfold rfE; rw [if_neg h0, if_neg h1]
  have g0 : (e == 0) = false := by simpa using h0
  have g1 : (e == 401) = false := by simpa using h1
  go_enter Tryz.func84, Tryz.ntmps84
  go_wp2_with fail
  go_ret
  exact ⟨ret_int HE.out.symm, rfl⟩

theorem dpth_long {l : Tx} (h : l.length ≠ 1) : dpth l = 0 := by
  match l, h with
  | [], _ => rfl
  | [c], h => exact absurd rfl h
  | a :: b :: r, _ => rfl

theorem depthOf_any (s : ByteArray) (w : World) :
    Calls Tryz.prog 51 #[.string s] w fun x w' => x = .returned (.int .i64 (dpth (bl s))) ∧ w' = w := by
  by_cases h1 : s.size = 1
  · have h0 : 0 < s.size := by omega
    have hc : bl s = [s[0]] := by
      have h3 : (bl s).length = 1 := by rw [bl_size]; exact h1
      have h4 : (bl s)[0]? = some s[0] := by
        show s.data.toList[0]? = some s[0]
        rw [Array.getElem?_toList, Array.getElem?_eq_getElem (by exact h0)]; rfl
      match hb : bl s, h3, h4 with
      | [c], _, h4 => simp at h4; rw [h4]
    have g0 : ((s.size : Int) == 1) = true := by simp; omega
    have g1 : ((s.size : Int) != 1) = false := by simp; omega
    have hc255 := s[0].toNat_lt
    by_cases h2 : 49 ≤ s[0].toNat
    · by_cases h3 : s[0].toNat ≤ 56
      · have HE : Hid (dpth (bl s) = s[0].toNat - 48) := by show _ = _; rw [hc]; show (if _ then _ else _) = _; rw [if_pos ⟨h2, h3⟩]
        have g2 : 49 ≤ (s[0].toNat : Int) := by omega
        have g3 : (s[0].toNat : Int) ≤ 56 := by omega
        clear h1 hc
        go_enter Tryz.func51, Tryz.ntmps51
        go_wp2_with fail
        go_ret
        exact ⟨ret_int (by rw [HE.out]; omega), rfl⟩
      · have HE : Hid (dpth (bl s) = 0) := by show _ = _; rw [hc]; show (if _ then _ else _) = _; rw [if_neg (by omega)]
        have g2 : 49 ≤ (s[0].toNat : Int) := by omega
        have g3 : (56 < (s[0].toNat : Int)) := by omega
        clear h1 hc
        go_enter Tryz.func51, Tryz.ntmps51
        go_wp2_with fail
        go_ret
        exact ⟨ret_int (by rw [HE.out]; rfl), rfl⟩
    · have HE : Hid (dpth (bl s) = 0) := by show _ = _; rw [hc]; show (if _ then _ else _) = _; rw [if_neg (by omega)]
      have g2 : ((s[0].toNat : Int) < 49) := by omega
      clear h1 hc
      go_enter Tryz.func51, Tryz.ntmps51
      go_wp2_with fail
      go_ret
      exact ⟨ret_int (by rw [HE.out]; rfl), rfl⟩
  · have HE : Hid (dpth (bl s) = 0) := dpth_long (by rw [bl_size]; exact h1)
    have g1 : ((s.size : Int) == 1) = false := by simp; omega
    have g2 : ((s.size : Int) != 1) = true := by simp; omega
    go_enter Tryz.func51, Tryz.ntmps51
    go_wp2_with fail
    go_ret
    exact ⟨ret_int (by rw [HE.out]; rfl), rfl⟩

theorem trL_le (l : Tx) : (trL l).length ≤ l.length := tr_len l

/-- What bindOf answers. -/
def bnT (l : Tx) : Tx × Tx × Bool := match bnL l with | some x => (x.1, x.2, true) | none => ([], [], false)

set_option maxHeartbeats 2000000 in
theorem bindOf_any (s : ByteArray) (w : World) (hs : s.size ≤ maxLen) :
    Calls Tryz.prog 21 #[.string s] w fun e w' => e = .returned (.tuple #[.string ⟨(bnT (bl s)).1.toArray⟩, .string ⟨(bnT (bl s)).2.1.toArray⟩, .bool (bnT (bl s)).2.2]) ∧ Q w w' := by
  have hC := hide (cut1_any s 61 w hs)
  cases hk : ctL 61 (bl s) with
  | none =>
    have HB : Hid (bnT (bl s) = ([], [], false)) := by show _ = _; unfold bnT bnL; rw [hk]
    have e1 : (cutT (bl s) 61).2.2 = false := by unfold cutT; rw [hk]
    rw [e1] at hC
    clear hk e1
    go_enter Tryz.func21, Tryz.ntmps21
    go_wp2_with fail
    refine (unhide hC).mono ?_
    rintro e w1 ⟨x, y, rfl, _, _, hx, hy, q1⟩
    go_wp2_with fail
    refine (trim_any x w1 (Nat.le_trans hx hs)).mono ?_
    rintro e w2 ⟨rfl, q2⟩
    go_wp2_with fail
    go_ret3
    rw [HB.out]
    exact ⟨rfl, q1.trans q2⟩
  | some z =>
    have e1 : cutT (bl s) 61 = (z.1, z.2, true) := by unfold cutT; rw [hk]
    rw [e1] at hC
    cases hm : mayL (trL z.1)
    · have HB : Hid (bnT (bl s) = ([], [], false)) := by show _ = _; unfold bnT bnL; rw [hk]; simp [hm]
      have HM : Hid (mayB ⟨(trL z.1).toArray⟩ = false) := by show _ = _; rw [mayB_mayL]; exact hm
      clear hk e1 hm
      go_enter Tryz.func21, Tryz.ntmps21
      go_wp2_with fail
      refine (unhide hC).mono ?_
      rintro e w1 ⟨x, y, rfl, ex, ey, hx, hy, q1⟩
      have EX := hide ex
      have EY := hide ey
      clear ex ey
      have ht := hide (trim_any x w1 (Nat.le_trans hx hs))
      rw [unhide EX] at ht
      have hsz : (⟨(trL z.1).toArray⟩ : ByteArray).size ≤ maxLen := by
        have h1 := trL_le z.1
        have h2 : z.1.length = x.size := by rw [← bl_size, unhide EX]
        rw [← bl_size]; show (trL z.1).length ≤ maxLen
        unfold maxLen at hs ⊢; omega
      generalize (⟨(trL z.1).toArray⟩ : ByteArray) = t at ht HM hsz
      go_wp2_with fail
      refine (unhide ht).mono ?_
      rintro e w2 ⟨rfl, q2⟩
      have hmm := hide (may_any t w2 hsz)
      rw [unhide HM] at hmm
      go_wp2_with fail
      refine (unhide hmm).mono ?_
      rintro e w3 ⟨rfl, q3⟩
      go_wp2_with fail
      go_ret3
      rw [HB.out]
      exact ⟨rfl, (q1.trans q2).trans q3⟩
    · have HB : Hid (bnT (bl s) = (trL z.1, trL z.2, true)) := by show _ = _; unfold bnT bnL; rw [hk]; simp [hm]
      have HM : Hid (mayB ⟨(trL z.1).toArray⟩ = true) := by show _ = _; rw [mayB_mayL]; exact hm
      clear hk e1 hm
      rw [HB.out]
      go_enter Tryz.func21, Tryz.ntmps21
      go_wp2_with fail
      refine (unhide hC).mono ?_
      rintro e w1 ⟨x, y, rfl, ex, ey, hx, hy, q1⟩
      have EX := hide ex
      have EY := hide ey
      clear ex ey
      have ht := hide (trim_any x w1 (Nat.le_trans hx hs))
      rw [unhide EX] at ht
      have HT2 := hide (fun w => trim_any y w (Nat.le_trans hy hs))
      rw [unhide EY] at HT2
      have hsz : (⟨(trL z.1).toArray⟩ : ByteArray).size ≤ maxLen := by
        have h1 := trL_le z.1
        have h2 : z.1.length = x.size := by rw [← bl_size, unhide EX]
        rw [← bl_size]; show (trL z.1).length ≤ maxLen
        unfold maxLen at hs ⊢; omega
      generalize ht1 : (⟨(trL z.1).toArray⟩ : ByteArray) = t at ht HM hsz
      have HT1 := hide ht1
      clear ht1
      go_wp2_with fail
      refine (unhide ht).mono ?_
      rintro e w2 ⟨rfl, q2⟩
      have hmm := hide (may_any t w2 hsz)
      rw [unhide HM] at hmm
      go_wp2_with fail
      refine (unhide hmm).mono ?_
      rintro e w3 ⟨rfl, q3⟩
      go_wp2_with fail
      refine (unhide HT2 _).mono ?_
      rintro e w4 ⟨rfl, q4⟩
      go_wp2_with fail
      go_ret3
      rw [← unhide HT1]
      exact ⟨rfl, ((q1.trans q2).trans q3).trans q4⟩

end Go.Proofs.YtgfegbeickaknabGreatDoor
