/- The document's own parser, its small parts: has, head, bindLine, cleaned; the conditions: what they are asked of lies in memory. -/
import Derived.Test.YtpddckgkaopnlaaGreatDoorBnEvRef
import Derived.Test.YtpddckgkaopnlaaGreatDoorWk1
import Derived.Test.YtpddckgkaopnlaaGreatDoorBnEvOf
import Derived.Test.YtpddckgkaopnlaaGreatDoorPk1
namespace Go.Proofs.YtpddckgkaopnlaaGreatDoor
open Go.RowKit

/-- Cut at the first sign, told byte by byte. -/
theorem ct_at {d : UInt8} : ∀ (l : Tx) (k : Nat), d ∉ l.take k → l[k]? = some d → ctL d l = some (l.take k, l.drop (k + 1))
  | [], k, _, h => by simp at h
  | c :: r, 0, _, h => by
    simp at h; subst h
    rw [ctL, if_pos rfl]; rfl
  | c :: r, k + 1, h1, h2 => by
    have hc : c ≠ d := fun e => h1 (by rw [e]; simp)
    rw [ctL, if_neg hc, ct_at r k (fun hm => h1 (by rw [List.take_succ_cons]; exact List.mem_cons_of_mem _ hm)) (by simpa using h2)]
    rfl
theorem ct_no {d : UInt8} : ∀ (l : Tx), d ∉ l → ctL d l = none
  | [], _ => rfl
  | c :: r, h => by
    have hc : c ≠ d := fun e => h (by rw [e]; simp)
    rw [ctL, if_neg hc, ct_no r (fun hm => h (List.mem_cons_of_mem _ hm))]; rfl
theorem at_bl (s : ByteArray) (k : Nat) (h : k < s.size) : (bl s)[k]? = some s[k] := by
  unfold bl
  rw [List.getElem?_eq_getElem (by simpa using h)]; rfl
theorem not_take {s : ByteArray} {d : UInt8} {k : Nat} (h : k < s.size) (h1 : d ∉ (bl s).take k) (h2 : s[k] ≠ d) : d ∉ (bl s).take (k + 1) := by
  rw [List.take_add_one, at_bl s k h]
  intro hm
  rcases List.mem_append.1 hm with hm | hm
  · exact h1 hm
  · simp at hm; exact h2 hm.symm

set_option maxHeartbeats 2000000 in
theorem head_any (s : ByteArray) (w : World) (hs : s.size ≤ maxLen) :
    Calls Tryz.prog 49 #[.string s] w fun e w' => e = .returned (.tuple #[.string ⟨(hdL (bl s)).1.toArray⟩, .string ⟨(hdL (bl s)).2.toArray⟩]) ∧ Q w w' := by
  unfold maxLen at hs
  go_enter Tryz.func49, Tryz.ntmps49
  go_wp2_with fail
  go_loop [4] (fun i => ∃ k : Nat, k ≤ s.size ∧ i = .int .i64 k ∧ Hid ((32 : UInt8) ∉ (bl s).take k)) (fun i => s.size - (intOf i).toNat)
  case atStart => exact ⟨0, Nat.zero_le _, rfl, (fun h => by simp at h)⟩
  case round =>
    obtain ⟨k, hk, rfl, HA⟩ := hrel
    by_cases hlt : k < s.size
    · have hlt' : (k : Int) < (s.size : Int) := by omega
      by_cases h1 : s[k] = 32
      · have g1 : ((s[k].toNat : Int) == 32) = true := by rw [h1]; rfl
        have HX : Hid ((⟨(hdL (bl s)).1.toArray⟩ : ByteArray) = s.extract 0 k ∧ (⟨(hdL (bl s)).2.toArray⟩ : ByteArray) = s.extract (k + 1) s.size) := by
          have e : hdL (bl s) = ((bl s).take k, (bl s).drop (k + 1)) := by unfold hdL; rw [ct_at (bl s) k HA.out (by rw [at_bl s k hlt, h1])]; rfl
          rw [e]
          refine ⟨(of_bl ?_).symm, (of_bl ?_).symm⟩
          · rw [bl_extract, List.drop_zero]
          · rw [bl_extract, List.take_of_length_le (by rw [bl_size]; exact Nat.le_refl _)]
        have hk1 : (k : Int) + 1 ≤ (s.size : Int) := by omega
        clear h1 HA
        go_wp2_with fail
        go_region
        go_wp2_with fail
        go_ret2
        exact ⟨by rw [HX.out.1, HX.out.2]; rfl, (Q.refl _).drew⟩
      · have g1 : ((s[k].toNat : Int) == 32) = false := beq_eq_false_iff_ne.2 fun e => h1 (UInt8.toNat_inj.1 (by show s[k].toNat = 32; omega))
        have HN : Hid ((32 : UInt8) ∉ (bl s).take (k + 1)) := not_take hlt HA.out h1
        clear h1 HA
        go_wp2_with fail
        go_round
        case rel => exact ⟨k + 1, by omega, by go_num, HN⟩
        case measure => simp [intOf]; omega
    · have HX : Hid ((⟨(hdL (bl s)).1.toArray⟩ : ByteArray) = s ∧ (⟨(hdL (bl s)).2.toArray⟩ : ByteArray) = ⟨#[]⟩) := by
        have e : hdL (bl s) = (bl s, []) := by
          unfold hdL
          rw [ct_no (bl s) (by have := HA.out; rwa [List.take_of_length_le (by rw [bl_size]; omega)] at this)]; rfl
        rw [e]
        exact ⟨mk_bl s, rfl⟩
      clear HA
      go_wp2_with fail
      go_ret2
      exact ⟨by rw [HX.out.1, HX.out.2]; rfl, Q.refl _⟩

/-- What a bind line tells, or nothing. -/
def bnR (l : Tx) : Tx × Tx × Bool := match ctL 61 l with
  | none => ([], [], false)
  | some x => (trL x.1, trL x.2, mayL (trL x.1))

set_option maxHeartbeats 2000000 in
theorem bindLine_any (s : ByteArray) (w : World) (hs : s.size ≤ maxLen) :
    Calls Tryz.prog 45 #[.string s] w fun e w' => e = .returned (.tuple #[.string ⟨(bnR (bl s)).1.toArray⟩, .string ⟨(bnR (bl s)).2.1.toArray⟩, .bool (bnR (bl s)).2.2]) ∧ Q w w' := by
  unfold maxLen at hs
  go_enter Tryz.func45, Tryz.ntmps45
  go_wp2_with fail
  go_loop [5] (fun i => ∃ k : Nat, k ≤ s.size ∧ i = .int .i64 k ∧ Hid ((61 : UInt8) ∉ (bl s).take k)) (fun i => s.size - (intOf i).toNat)
  case atStart => exact ⟨0, Nat.zero_le _, rfl, (fun h => by simp at h)⟩
  case round =>
    obtain ⟨k, hk, rfl, HA⟩ := hrel
    by_cases hlt : k < s.size
    · have hlt' : (k : Int) < (s.size : Int) := by omega
      by_cases h1 : s[k] = 61
      · have g1 : ((s[k].toNat : Int) == 61) = true := by rw [h1]; rfl
        have HE : Hid (bnR (bl s) = (trL (bl (s.extract 0 k)), trL (bl (s.extract (k + 1) s.size)), mayL (trL (bl (s.extract 0 k))))) := by
          show _ = _
          unfold bnR
          have e2 : bl (s.extract (k + 1) s.size) = (bl s).drop (k + 1) := by rw [bl_extract, List.take_of_length_le (by rw [bl_size]; exact Nat.le_refl _)]
          rw [ct_at (bl s) k HA.out (by rw [at_bl s k hlt, h1]), e2, bl_extract, List.drop_zero]
        have hk1 : (k : Int) + 1 ≤ (s.size : Int) := by omega
        have z1 : (s.extract 0 k).size = k := ext_sz s 0 k (by omega) (by omega)
        have z2 : (s.extract (k + 1) s.size).size = s.size - (k + 1) := ext_sz s (k + 1) s.size (by omega) (by omega)
        have HT1 := hide (fun w => rtrim_any (s.extract 0 k) w (by unfold maxLen; omega))
        have HT2 := hide (fun w => rtrim_any (s.extract (k + 1) s.size) w (by unfold maxLen; omega))
        have htl : (trL (bl (s.extract 0 k))).length ≤ k := by
          have := (trL_sub (bl (s.extract 0 k))).length_le
          rw [bl_size, z1] at this; exact this
        have HM := hide (fun w => nameMay_any ⟨(trL (bl (s.extract 0 k))).toArray⟩ w (by rw [← bl_size]; show (trL (bl (s.extract 0 k))).length ≤ maxLen; unfold maxLen; omega))
        have HMM : Hid (mayB ⟨(trL (bl (s.extract 0 k))).toArray⟩ = mayL (trL (bl (s.extract 0 k)))) := mayB_mayL _
        clear h1 HA htl
        go_wp2_with fail
        refine (unhide HT1 _).mono ?_
        rintro e w1 ⟨rfl, rfl⟩
        go_wp2_with fail
        refine (unhide HT2 _).mono ?_
        rintro e w2 ⟨rfl, rfl⟩
        go_wp2_with fail
        refine (unhide HM _).mono ?_
        rintro e w3 ⟨rfl, rfl⟩
        go_wp2_with fail
        go_ret3
        exact ⟨by rw [HE.out, HMM.out]; rfl, Q.refl _⟩
      · have g1 : ((s[k].toNat : Int) == 61) = false := beq_eq_false_iff_ne.2 fun e => h1 (UInt8.toNat_inj.1 (by show s[k].toNat = 61; omega))
        have HN : Hid ((61 : UInt8) ∉ (bl s).take (k + 1)) := not_take hlt HA.out h1
        clear h1 HA
        go_wp2_with fail
        go_round
        case rel => exact ⟨k + 1, by omega, by go_num, HN⟩
        case measure => simp [intOf]; omega
    · have HE : Hid (bnR (bl s) = ([], [], false)) := by
        show _ = _
        unfold bnR
        rw [ct_no (bl s) (by have := HA.out; rwa [List.take_of_length_le (by rw [bl_size]; omega)] at this)]
      clear HA
      go_wp2_with fail
      go_ret3
      exact ⟨by rw [HE.out]; rfl, Q.refl _⟩

end Go.Proofs.YtpddckgkaopnlaaGreatDoor
