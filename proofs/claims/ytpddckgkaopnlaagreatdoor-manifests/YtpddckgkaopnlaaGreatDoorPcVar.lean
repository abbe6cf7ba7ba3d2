/- What package pieces' variable answers: the variable that a text begins with, and how many bytes stand for it; the condition: the text has 1 to 2048 bytes. -/
import Derived.Test.YtpddckgkaopnlaaGreatDoorBnRpWdPlain
namespace Go.Proofs.YtpddckgkaopnlaaGreatDoor
open Go.RowKit

theorem ret_pair {a b : ByteArray} {n m : Int} (h : a = b) (h2 : n = m) : Ending.returned (.tuple #[.string a, .int .i64 n]) = .returned (.tuple #[.string b, .int .i64 m]) := by rw [h, h2]

theorem pre_open (s : ByteArray) : preB s ⟨#[36, 123]⟩ = ((bl s).take 2 == [36, 123]) := rfl
theorem pre_close (s : ByteArray) (p : Nat) : preB (s.extract p s.size) ⟨#[125]⟩ = decide ((bl s)[p]? = some 125) := by
  unfold preB
  rw [bl_extract, List.take_of_length_le (Nat.le_of_eq (bl_size s))]
  show (((bl s).drop p).take 1 == [125]) = _
  rw [Bool.eq_iff_iff, beq_iff_eq, decide_eq_true_iff]
  have : (bl s)[p]? = ((bl s).drop p).head? := by rw [List.head?_drop]
  rw [this]
  cases (bl s).drop p with
  | nil => simp
  | cons a r => simp
theorem pre_empty (s : ByteArray) : preB s ⟨#[]⟩ = true := by
  unfold preB
  show ((bl s).take 0 == []) = true
  rfl

theorem vr2_yes {l : List UInt8} {k : Nat} (h : (l.take 2 == [36, 123]) = true) (hk : nlen (l.drop 2) = k) (h1 : 1 ≤ k) (h16 : k ≤ 16) (hb : l[2 + k]? = some 125) : (vr l).1 = (l.take (2 + k)).drop 2 ∧ (vr l).2 = k + 3 := by
  unfold vr
  rw [if_pos (beq_iff_eq.1 h), hk, if_pos ⟨h1, h16, by rw [List.getElem?_drop]; exact hb⟩]
  exact ⟨by rw [List.drop_take]; simp, rfl⟩
theorem vr2_no {l : List UInt8} {k : Nat} (h : (l.take 2 == [36, 123]) = true) (hk : nlen (l.drop 2) = k) (hn : k < 1 ∨ 16 < k ∨ l[2 + k]? ≠ some 125) : (vr l).1 = [] ∧ (vr l).2 = 0 := by
  unfold vr
  rw [if_pos (beq_iff_eq.1 h), hk, if_neg (by rw [List.getElem?_drop]; rintro ⟨a, b, c⟩; rcases hn with h | h | h; omega; omega; exact h c)]
  exact ⟨rfl, rfl⟩
theorem vr1_yes {l : List UInt8} {k : Nat} (h : (l.take 2 == [36, 123]) = false) (hk : nlen (l.drop 1) = k) (h1 : 1 ≤ k) (h16 : k ≤ 16) : (vr l).1 = (l.take (1 + k)).drop 1 ∧ (vr l).2 = k + 1 := by
  unfold vr
  rw [if_neg (beq_eq_false_iff_ne.1 h), hk, if_pos ⟨h1, h16⟩]
  exact ⟨by rw [List.drop_take]; simp, rfl⟩
theorem vr1_no {l : List UInt8} {k : Nat} (h : (l.take 2 == [36, 123]) = false) (hk : nlen (l.drop 1) = k) (hn : k < 1 ∨ 16 < k) : (vr l).1 = [] ∧ (vr l).2 = 0 := by
  unfold vr
  rw [if_neg (beq_eq_false_iff_ne.1 h), hk, if_neg (by omega)]
  exact ⟨rfl, rfl⟩

theorem vbI_vb (c : UInt8) : vbI (c.toNat : Int) = vb c := rfl

theorem ext_size (s : ByteArray) (a b : Nat) (h1 : a ≤ b) (h2 : b ≤ s.size) : (s.extract a b).size = b - a := by
  rw [← bl_size, bl_extract, List.length_drop, List.length_take, bl_size]; omega

set_option maxHeartbeats 4000000 in
theorem variable_brace (s : ByteArray) (w : World) (hs1 : 2 ≤ s.size) (hs : s.size ≤ 2048) (hp : preB s ⟨#[36, 123]⟩ = true) :
    Calls Tryz.prog 162 #[.string s] w fun e w' => e = .returned (.tuple #[.string ⟨(vr (bl s)).1.toArray⟩, .int .i64 ((vr (bl s)).2 : Nat)]) ∧ Q w w' := by
  have HP := hide hp
  have HSZ := hide (bl_size s)
  clear hp
  go_enter Tryz.func162, Tryz.ntmps162
  go_wp2_with fail
  refine (hasPre_any _ _ _).mono ?_
  rintro e w' ⟨rfl, rfl⟩
  rw [unhide HP]
  go_wp2_with fail
  go_loop [6] (fun i => ∃ j : Nat, 2 + j ≤ s.size ∧ i = .int .i64 ((2 + j : Nat) : Int) ∧ Hid (nlen ((bl s).drop 2) = j + nlen ((bl s).drop (2 + j)))) (fun i => s.size - (intOf i).toNat)
  case atStart => exact ⟨0, by omega, rfl, by show _ = _; simp⟩
  case round =>
    obtain ⟨j, hj, rfl, HJ⟩ := hrel
    have fin : nlen ((bl s).drop (2 + j)) = 0 → nlen ((bl s).drop 2) = j := by intro h; have := HJ.out; omega
    by_cases hlt : 2 + j < s.size
    · have hgk := bl_getElem s (2 + j) hlt
      cases hok : vbI (s[2 + j].toNat : Int)
      · have HK := hide (fin (nlen_no hgk (by rw [← vbI_vb]; exact hok)))
        have hcon := hide (ofName_any (s[2 + j].toNat : Int) w')
        rw [hok] at hcon
        clear hok fin HJ hgk
        by_cases c1 : j < 1
        · have HV := hide (vr2_no (unhide HP) (unhide HK) (Or.inl c1))
          have c1' : j = 0 := by omega
          subst c1'
          go_wp2_with (go_at_call 170; refine (unhide hcon).mono ?_; rintro e w' ⟨rfl, rfl⟩)
          go_ret2
          exact ⟨ret_pair (by rw [(unhide HV).1]) (by rw [(unhide HV).2]; rfl), Q.refl _⟩
        by_cases c2 : 16 < j
        · have HV := hide (vr2_no (unhide HP) (unhide HK) (Or.inr (Or.inl c2)))
          go_wp2_with (go_at_call 170; refine (unhide hcon).mono ?_; rintro e w' ⟨rfl, rfl⟩)
          go_ret2
          exact ⟨ret_pair (by rw [(unhide HV).1]) (by rw [(unhide HV).2]; rfl), Q.refl _⟩
        cases hb : decide ((bl s)[2 + j]? = some 125)
        · have HV := hide (vr2_no (unhide HP) (unhide HK) (Or.inr (Or.inr (of_decide_eq_false hb))))
          have HB := hide hb
          clear hb
          go_wp2_with (go_at_call 170; refine (unhide hcon).mono ?_; rintro e w' ⟨rfl, rfl⟩)
          refine (hasPre_any _ _ _).mono ?_
          rintro e w1 ⟨rfl, rfl⟩
          rw [pre_close, unhide HB]
          go_wp2_with fail
          go_ret2
          exact ⟨ret_pair (by rw [(unhide HV).1]) (by rw [(unhide HV).2]; rfl), Q.refl _⟩
        · have HV := hide (vr2_yes (unhide HP) (unhide HK) (by omega) (by omega) (of_decide_eq_true hb))
          have HB := hide hb
          clear hb
          go_wp2_with (go_at_call 170; refine (unhide hcon).mono ?_; rintro e w' ⟨rfl, rfl⟩)
          refine (hasPre_any _ _ _).mono ?_
          rintro e w1 ⟨rfl, rfl⟩
          rw [pre_close, unhide HB]
          go_wp2_with fail
          refine (clone_any _ _ (by rw [ext_size s _ _ (by omega) (by omega)]; omega)).mono ?_
          rintro e w2 ⟨rfl, q⟩
          go_wp2_with fail
          go_ret2
          exact ⟨ret_pair (of_bl (by rw [bl_extract, (unhide HV).1])) (by rw [(unhide HV).2]; omega), q⟩
      · have HN : Hid (nlen ((bl s).drop 2) = (j + 1) + nlen ((bl s).drop (2 + (j + 1)))) := by
          show _ = _
          have h1 := HJ.out
          have h2 := nlen_yes hgk (by rw [← vbI_vb]; exact hok)
          rw [h1, h2, ← Nat.add_assoc 2]; omega
        have hcon := hide (ofName_any (s[2 + j].toNat : Int) w')
        rw [hok] at hcon
        clear hok fin HJ hgk
        go_wp2_with (go_at_call 170; refine (unhide hcon).mono ?_; rintro e w' ⟨rfl, rfl⟩)
        go_round
        case rel => exact ⟨j + 1, by omega, by go_num, HN⟩
        case measure => simp [intOf]; omega
    · have HK := hide (fin (nlen_end (by rw [unhide HSZ]; omega)))
      clear fin HJ
      by_cases c1 : j < 1
      · have HV := hide (vr2_no (unhide HP) (unhide HK) (Or.inl c1))
        have c1' : j = 0 := by omega
        subst c1'
        go_wp2_with fail
        go_ret2
        exact ⟨ret_pair (by rw [(unhide HV).1]) (by rw [(unhide HV).2]; rfl), Q.refl _⟩
      by_cases c2 : 16 < j
      · have HV := hide (vr2_no (unhide HP) (unhide HK) (Or.inr (Or.inl c2)))
        go_wp2_with fail
        go_ret2
        exact ⟨ret_pair (by rw [(unhide HV).1]) (by rw [(unhide HV).2]; rfl), Q.refl _⟩
      cases hb : decide ((bl s)[2 + j]? = some 125)
      · have HV := hide (vr2_no (unhide HP) (unhide HK) (Or.inr (Or.inr (of_decide_eq_false hb))))
        have HB := hide hb
        clear hb
        go_wp2_with fail
        refine (hasPre_any _ _ _).mono ?_
        rintro e w1 ⟨rfl, rfl⟩
        rw [pre_close, unhide HB]
        go_wp2_with fail
        go_ret2
        exact ⟨ret_pair (by rw [(unhide HV).1]) (by rw [(unhide HV).2]; rfl), Q.refl _⟩
      · have HV := hide (vr2_yes (unhide HP) (unhide HK) (by omega) (by omega) (of_decide_eq_true hb))
        have HB := hide hb
        clear hb
        go_wp2_with fail
        refine (hasPre_any _ _ _).mono ?_
        rintro e w1 ⟨rfl, rfl⟩
        rw [pre_close, unhide HB]
        go_wp2_with fail
        refine (clone_any _ _ (by rw [ext_size s _ _ (by omega) (by omega)]; omega)).mono ?_
        rintro e w2 ⟨rfl, q⟩
        go_wp2_with fail
        go_ret2
        exact ⟨ret_pair (of_bl (by rw [bl_extract, (unhide HV).1])) (by rw [(unhide HV).2]; omega), q⟩

set_option maxHeartbeats 4000000 in
theorem variable_bare (s : ByteArray) (w : World) (hs1 : 1 ≤ s.size) (hs : s.size ≤ 2048) (hp : preB s ⟨#[36, 123]⟩ = false) :
    Calls Tryz.prog 162 #[.string s] w fun e w' => e = .returned (.tuple #[.string ⟨(vr (bl s)).1.toArray⟩, .int .i64 ((vr (bl s)).2 : Nat)]) ∧ Q w w' := by
  have HP := hide hp
  have HSZ := hide (bl_size s)
  clear hp
  go_enter Tryz.func162, Tryz.ntmps162
  go_wp2_with fail
  refine (hasPre_any _ _ _).mono ?_
  rintro e w' ⟨rfl, rfl⟩
  rw [unhide HP]
  go_wp2_with fail
  go_loop [6] (fun i => ∃ j : Nat, 1 + j ≤ s.size ∧ i = .int .i64 ((1 + j : Nat) : Int) ∧ Hid (nlen ((bl s).drop 1) = j + nlen ((bl s).drop (1 + j)))) (fun i => s.size - (intOf i).toNat)
  case atStart => exact ⟨0, by omega, rfl, by show _ = _; simp⟩
  case round =>
    obtain ⟨j, hj, rfl, HJ⟩ := hrel
    have fin : nlen ((bl s).drop (1 + j)) = 0 → nlen ((bl s).drop 1) = j := by intro h; have := HJ.out; omega
    by_cases hlt : 1 + j < s.size
    · have hgk := bl_getElem s (1 + j) hlt
      cases hok : vbI (s[1 + j].toNat : Int)
      · have HK := hide (fin (nlen_no hgk (by rw [← vbI_vb]; exact hok)))
        have hcon := hide (ofName_any (s[1 + j].toNat : Int) w')
        rw [hok] at hcon
        clear hok fin HJ hgk
        by_cases c1 : j < 1
        · have HV := hide (vr1_no (unhide HP) (unhide HK) (Or.inl c1))
          have c1' : j = 0 := by omega
          subst c1'
          go_wp2_with (go_at_call 170; refine (unhide hcon).mono ?_; rintro e w' ⟨rfl, rfl⟩)
          go_ret2
          exact ⟨ret_pair (by rw [(unhide HV).1]) (by rw [(unhide HV).2]; rfl), Q.refl _⟩
        by_cases c2 : 16 < j
        · have HV := hide (vr1_no (unhide HP) (unhide HK) (Or.inr c2))
          go_wp2_with (go_at_call 170; refine (unhide hcon).mono ?_; rintro e w' ⟨rfl, rfl⟩)
          go_ret2
          exact ⟨ret_pair (by rw [(unhide HV).1]) (by rw [(unhide HV).2]; rfl), Q.refl _⟩
        have HV := hide (vr1_yes (unhide HP) (unhide HK) (by omega) (by omega))
        go_wp2_with (go_at_call 170; refine (unhide hcon).mono ?_; rintro e w' ⟨rfl, rfl⟩)
        refine (hasPre_any _ _ _).mono ?_
        rintro e w1 ⟨rfl, rfl⟩
        rw [pre_empty]
        go_wp2_with fail
        refine (clone_any _ _ (by rw [ext_size s _ _ (by omega) (by omega)]; omega)).mono ?_
        rintro e w2 ⟨rfl, q⟩
        go_wp2_with fail
        go_ret2
        exact ⟨ret_pair (of_bl (by rw [bl_extract, (unhide HV).1])) (by rw [(unhide HV).2]; omega), q⟩
      · have HN : Hid (nlen ((bl s).drop 1) = (j + 1) + nlen ((bl s).drop (1 + (j + 1)))) := by
          show _ = _
          have h1 := HJ.out
          have h2 := nlen_yes hgk (by rw [← vbI_vb]; exact hok)
          rw [h1, h2, ← Nat.add_assoc 1]; omega
        have hcon := hide (ofName_any (s[1 + j].toNat : Int) w')
        rw [hok] at hcon
        clear hok fin HJ hgk
        go_wp2_with (go_at_call 170; refine (unhide hcon).mono ?_; rintro e w' ⟨rfl, rfl⟩)
        go_round
        case rel => exact ⟨j + 1, by omega, by go_num, HN⟩
        case measure => simp [intOf]; omega
    · have HK := hide (fin (nlen_end (by rw [unhide HSZ]; omega)))
      clear fin HJ
      by_cases c1 : j < 1
      · have HV := hide (vr1_no (unhide HP) (unhide HK) (Or.inl c1))
        have c1' : j = 0 := by omega
        subst c1'
        go_wp2_with fail
        go_ret2
        exact ⟨ret_pair (by rw [(unhide HV).1]) (by rw [(unhide HV).2]; rfl), Q.refl _⟩
      by_cases c2 : 16 < j
      · have HV := hide (vr1_no (unhide HP) (unhide HK) (Or.inr c2))
        go_wp2_with fail
        go_ret2
        exact ⟨ret_pair (by rw [(unhide HV).1]) (by rw [(unhide HV).2]; rfl), Q.refl _⟩
      have HV := hide (vr1_yes (unhide HP) (unhide HK) (by omega) (by omega))
      go_wp2_with fail
      refine (hasPre_any _ _ _).mono ?_
      rintro e w1 ⟨rfl, rfl⟩
      rw [pre_empty]
      go_wp2_with fail
      refine (clone_any _ _ (by rw [ext_size s _ _ (by omega) (by omega)]; omega)).mono ?_
      rintro e w2 ⟨rfl, q⟩
      go_wp2_with fail
      go_ret2
      exact ⟨ret_pair (of_bl (by rw [bl_extract, (unhide HV).1])) (by rw [(unhide HV).2]; omega), q⟩

theorem variable_any (s : ByteArray) (w : World) (hs1 : 1 ≤ s.size) (hs : s.size ≤ 2048) :
    Calls Tryz.prog 162 #[.string s] w fun e w' => e = .returned (.tuple #[.string ⟨(vr (bl s)).1.toArray⟩, .int .i64 ((vr (bl s)).2 : Nat)]) ∧ Q w w' := by
  cases hp : preB s ⟨#[36, 123]⟩
  · exact variable_bare s w hs1 hs hp
  · refine variable_brace s w ?_ hs hp
    rw [pre_open] at hp
    have := congrArg List.length (beq_iff_eq.1 hp)
    rw [List.length_take, bl_size] at this
    simp at this; omega

end Go.Proofs.YtpddckgkaopnlaaGreatDoor
