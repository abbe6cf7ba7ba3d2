/- What the document's own goesOn, front and trim answer, for every text; no conditions but that the text is no longer than a string can be. -/
import Derived.Test.YthchjdegilhepaaDoorLnDo
namespace Go.Proofs.YthchjdegilhepaaDoor
open Go.RowKit

theorem trimR_snoc (c x : UInt8) (l : List UInt8) : Lib.trimRightB (l ++ [x]) c = if x = c then Lib.trimRightB l c else l ++ [x] := by
  unfold Lib.trimRightB
  rw [List.reverse_append]
  by_cases h : x = c
  · simp [h]
  · simp [h]

theorem bl_snoc (t : ByteArray) (h : 0 < t.size) : bl t = bl (t.extract 0 (t.size - 1)) ++ [t[t.size - 1]] := by
  rw [bl_front]
  have hn : bl t ≠ [] := fun e => by have := bl_size t; rw [e] at this; simp at this; omega
  conv => lhs; rw [← List.dropLast_concat_getLast hn]
  congr 2
  have := bl_getElem t (t.size - 1) (by omega)
  rw [List.getLast_eq_getElem hn]
  rw [List.getElem?_eq_getElem (by rw [bl_size]; omega)] at this
  have h2 := Option.some.inj this
  rw [← h2]
  congr 1

theorem bl_cons (t : ByteArray) (h : 0 < t.size) : bl t = t[0] :: bl (t.extract 1 t.size) := by
  rw [bl_extract, List.take_of_length_le (Nat.le_of_eq (bl_size t))]
  have := bl_getElem t 0 h
  have hl : 0 < (bl t).length := by rw [bl_size]; exact h
  rw [List.getElem?_eq_getElem hl] at this
  rw [← Option.some.inj this, ← List.drop_eq_getElem_cons hl, List.drop_zero]

theorem bl_none (t : ByteArray) (h : ¬ 0 < t.size) : bl t = [] := List.eq_nil_of_length_eq_zero (by rw [bl_size]; omega)

set_option maxHeartbeats 1000000 in
theorem rfront_any (s : ByteArray) (w : World) :
    Calls Tryd.prog 21 #[.string s] w fun e w' => e = .returned (.string ⟨(frL (bl s)).toArray⟩) ∧ w' = w := by
  go_enter Tryd.func21, Tryd.ntmps21
  go_wp2
  go_loop [0] (fun v => ∃ t : ByteArray, v = .string t ∧ t.size ≤ s.size ∧ Hid (frL (bl t) = frL (bl s))) (fun v => Lib.strSize v)
  case atStart => exact ⟨s, rfl, Nat.le_refl _, rfl⟩
  case round =>
    obtain ⟨t, rfl, hts, HT⟩ := hrel
    by_cases h0 : 0 < t.size
    · have hc := bl_cons t h0
      have hez : (t.extract 1 t.size).size = t.size - 1 := ext_sz t 1 t.size (by omega) (by omega)
      by_cases h1 : t[0] = 32
      · have g1 : ((t[0].toNat : Int) == 32) = true := by rw [h1]; rfl
        have HN : Hid (frL (bl (t.extract 1 t.size)) = frL (bl s)) := by
          show _ = _
          rw [← HT.out, hc, h1]; simp [frL, Lib.trimLeftB]
        clear hc h1 HT
        go_wp2
        refine ⟨⟨t.extract 1 t.size, rfl, by omega, HN⟩, ?_⟩
        rw [Lib.strSize_string, Lib.strSize_string]; omega
      · have g1 : ((t[0].toNat : Int) == 32) = false := beq_eq_false_iff_ne.2 fun e => h1 (UInt8.toNat_inj.1 (by show t[0].toNat = 32; omega))
        have HN : Hid (frL (bl s) = bl t) := by
          show _ = _
          rw [← HT.out, hc]; simp [frL, Lib.trimLeftB, h1]
        clear hc h1 HT
        go_wp2
        go_ret
        rw [HN.out, mk_bl]
        exact ⟨rfl, rfl⟩
    · have HN : Hid (frL (bl s) = bl t) := by
        show _ = _
        rw [← HT.out, bl_none t h0]; rfl
      have hz : t.size = 0 := by omega
      clear HT h0
      go_wp2
      go_ret
      rw [HN.out, mk_bl]
      exact ⟨rfl, rfl⟩

set_option maxHeartbeats 1000000 in
theorem rtrim_any (s : ByteArray) (w : World) (hs : s.size ≤ maxLen) :
    Calls Tryd.prog 22 #[.string s] w fun e w' => e = .returned (.string ⟨(trL (bl s)).toArray⟩) ∧ w' = w := by
  have HF := hide (rfront_any s w)
  unfold maxLen at hs
  obtain ⟨f, hf⟩ : ∃ f : ByteArray, f = ⟨(frL (bl s)).toArray⟩ := ⟨_, rfl⟩
  have hfb : bl f = frL (bl s) := by rw [hf]; rfl
  have hfs : f.size ≤ s.size := by rw [← bl_size, ← bl_size, hfb]; exact fr_len _
  have HC : Hid (Lib.trimRightB (bl f) 32 = trL (bl s)) := by show _ = _; rw [hfb]; exact trim_comm 32 (bl s)
  rw [← hf] at HF
  clear hf hfb
  go_enter Tryd.func22, Tryd.ntmps22
  go_wp2_with fail
  refine (unhide HF).mono ?_
  rintro e w1 ⟨rfl, rfl⟩
  go_wp2_with fail
  go_loop [0] (fun v => ∃ t : ByteArray, v = .string t ∧ t.size ≤ s.size ∧ Hid (Lib.trimRightB (bl t) 32 = trL (bl s))) (fun v => Lib.strSize v)
  case atStart => exact ⟨f, rfl, hfs, HC⟩
  case round =>
    obtain ⟨t, rfl, hts, HT⟩ := hrel
    by_cases h0 : 0 < t.size
    · have hc := bl_snoc t h0
      have hez : (t.extract 0 (t.size - 1)).size = t.size - 1 := ext_sz t 0 (t.size - 1) (by omega) (by omega)
      by_cases h1 : t[t.size - 1] = 32
      · have g1 : ((t[t.size - 1].toNat : Int) == 32) = true := by rw [h1]; rfl
        have HN : Hid (Lib.trimRightB (bl (t.extract 0 (t.size - 1))) 32 = trL (bl s)) := by
          show _ = _
          have h2 := HT.out
          rw [hc, trimR_snoc, if_pos h1] at h2
          exact h2
        clear hc h1 HT
        go_wp2
        refine ⟨⟨t.extract 0 (t.size - 1), rfl, by omega, HN⟩, ?_⟩
        rw [Lib.strSize_string, Lib.strSize_string]; omega
      · have g1 : ((t[t.size - 1].toNat : Int) == 32) = false := beq_eq_false_iff_ne.2 fun e => h1 (UInt8.toNat_inj.1 (by show t[t.size - 1].toNat = 32; omega))
        have HN : Hid (trL (bl s) = bl t) := by
          show _ = _
          have h2 := HT.out
          rw [hc, trimR_snoc, if_neg h1, ← hc] at h2
          exact h2.symm
        clear hc h1 HT
        go_wp2
        go_ret
        rw [HN.out, mk_bl]
        exact ⟨rfl, rfl⟩
    · have HN : Hid (trL (bl s) = bl t) := by
        show _ = _
        rw [← HT.out, bl_none t h0]; rfl
      have hz : t.size = 0 := by omega
      clear HT h0
      go_wp2
      go_ret
      rw [HN.out, mk_bl]
      exact ⟨rfl, rfl⟩

set_option maxHeartbeats 1000000 in
theorem rgoes_any (s : ByteArray) (w : World) (hs : s.size ≤ maxLen) :
    Calls Tryd.prog 20 #[.string s] w fun e w' => e = .returned (.bool (goL (bl s))) ∧ w' = w := by
  unfold maxLen at hs
  go_enter Tryd.func20, Tryd.ntmps20
  go_wp2
  go_loop [3] (fun i => ∃ k : Nat, i = .int .i64 k ∧ k ≤ s.size ∧ Hid (∀ (j : Nat) b, s.size - k ≤ j → (bl s)[j]? = some b → b = 36)) (fun i => s.size - (intOf i).toNat)
  case atStart =>
    refine ⟨0, rfl, by omega, ?_⟩
    intro j b hj hb
    rw [List.getElem?_eq_none (by rw [bl_size]; omega)] at hb; cases hb
  case round =>
    obtain ⟨k, rfl, hk, HA⟩ := hrel
    have HE : Hid ((∀ b, 0 < s.size - k → (bl s)[s.size - k - 1]? = some b → b ≠ 36) → goL (bl s) = (((k : Int) % 2) == 1)) := by
      intro h2
      have h1 := Lib.trimRightB_take (bl s) 36 (s.size - k) (by rw [bl_size]; omega) HA.out h2
      unfold goL
      rw [h1, List.length_take, bl_size, Bool.eq_iff_iff, beq_iff_eq, beq_iff_eq]
      omega
    by_cases hlt : k < s.size
    · have hge := bl_getElem s (s.size - 1 - k) (by omega)
      by_cases h1 : s[s.size - 1 - k] = 36
      · have g1 : ((s[s.size - 1 - k].toNat : Int) == 36) = true := by rw [h1]; rfl
        have HN : Hid (∀ (j : Nat) b, s.size - (k + 1) ≤ j → (bl s)[j]? = some b → b = 36) := by
          intro j b hj hb
          by_cases e : j = s.size - 1 - k
          · subst e
            rw [hge] at hb
            rw [← Option.some.inj hb, h1]
          · exact HA.out j b (by omega) hb
        clear HA HE hge h1
        go_wp2
        go_round
        case rel => exact ⟨k + 1, by go_num, by omega, HN⟩
        case measure => simp [intOf]; omega
      · have g1 : ((s[s.size - 1 - k].toNat : Int) == 36) = false := beq_eq_false_iff_ne.2 fun e => h1 (UInt8.toNat_inj.1 (by show s[s.size - 1 - k].toNat = 36; omega))
        have HN := hide (HE.out (fun b _ hb => by
          rw [show s.size - k - 1 = s.size - 1 - k by omega, hge] at hb
          rw [← Option.some.inj hb]; exact h1))
        clear HA HE hge h1
        go_wp2
        go_ret
        exact ⟨ret_bool (unhide HN).symm, rfl⟩
    · have HN := hide (HE.out (fun b h _ => by omega))
      clear HA HE
      go_wp2
      go_ret
      exact ⟨ret_bool (unhide HN).symm, rfl⟩

end Go.Proofs.YthchjdegilhepaaDoor
