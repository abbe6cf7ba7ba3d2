/- What the statements' own SameBinds does: rows are held against each other; the conditions: the binds lie in memory; lengths. -/
import Derived.Test.YtdkbjbcchpenaaaScOwn
import Derived.Laws.StructEq
namespace Go.Proofs.Ytdkbjbcchpenaaa
open Go.RowKit

theorem eqD (a b x y : ByteArray) (w : World) : (Op.equalIn 10000 34 (.agg #[.string a, .string x]) (.agg #[.string b, .string y])).run Try.prog w = .ok (a.toList == b.toList && x.toList == y.toList) w := by
  have u4 := Try.underlying9
  have hS : Try.prog.underlying 34 = some (.struct (Try.prog.fieldsOf 34)) := by kernel_rfl
  have hp : Try.prog.stoodInHeld 34 = false := by kernel_rfl
  rw [show (10000 : Nat) = 9999 + 1 from rfl, run_equalIn_agg w 9999 34 _ _ hS hp]
  simp only [Program.fieldsOf, Try.underlying34]
  go_simp
  cases hab : (a.toList == b.toList) <;> cases hxy : (x.toList == y.toList) <;> simp_all
theorem Try.guardD : Try.prog.eqGuardType Try.prog.depth 34 = false := by kernel_rfl

theorem take_twoD {ps qs : List Bd} {k : Nat} {p r : Bd} (ht : ps.take k = qs.take k) (hp : ps[k]? = some p) (hr : qs[k]? = some r) : (p = r → ps.take (k + 1) = qs.take (k + 1)) ∧ (p ≠ r → ps ≠ qs) := by
  refine ⟨?_, ?_⟩
  · intro h; rw [List.take_add_one, List.take_add_one, ht, hp, hr, h]
  · intro h e; subst e; rw [hp] at hr; exact h (Option.some.inj hr)
theorem str_eq (x y : ByteArray) : (x.toList == y.toList) = decide (x = y) := by
  rw [bl_toList, bl_toList, Bool.eq_iff_iff, beq_iff_eq, decide_eq_true_iff]
  exact ⟨bl_inj, fun h => by rw [h]⟩

set_option maxHeartbeats 4000000 in
theorem sameD_any (ao bo : Option Addr) (cap bcap : Nat) (ps qs : List Bd) (w : World) (ha : RowD w ao ps) (hb : RowD w bo qs) (hn : ps.length ≤ maxLen) :
    Calls Try.prog 26 #[.slice ao ps.length cap, .slice bo qs.length bcap] w fun e w' => e = .returned (.bool (decide (ps = qs))) ∧ Q w w' := by
  have heq := eqD
  have hgd := Try.guardD
  unfold maxLen at hn
  by_cases hl : ps.length = qs.length
  · have hl' : ((ps.length : Int) == (qs.length : Int)) = true := by simp [hl]
    have hl2 : ((ps.length : Int) != (qs.length : Int)) = false := by simp [hl]
    have HL := hide hl
    clear hl
    go_enter Try.func26, Try.ntmps26
    go_wp2_with fail
    go_loopw [5] (fun i wr => ∃ k : Nat, k ≤ ps.length ∧ i = .int .i64 k ∧ Hid (ps.take k = qs.take k) ∧ Q w wr) (fun i _ => ps.length - (intOf i).toNat)
    case atStart => exact ⟨0, Nat.zero_le _, rfl, by show _ = _; simp, Q.refl _⟩
    case round =>
      obtain ⟨k, hk, rfl, HT, hq⟩ := hrel
      by_cases hlt : k < ps.length
      · have hlq : k < qs.length := by have := unhide HL; omega
        rcases ha.q hq with he | ⟨g, o, rfl, hg, hc⟩
        · rw [he] at hlt; simp at hlt
        rcases hb.q hq with he | ⟨g2, o2, rfl, hg2, hc2⟩
        · rw [he] at hlq; simp at hlq
        obtain ⟨p, hp⟩ : ∃ p, ps[k]? = some p := ⟨ps[k], List.getElem?_eq_getElem hlt⟩
        obtain ⟨r, hr⟩ : ∃ r, qs[k]? = some r := ⟨qs[k], List.getElem?_eq_getElem hlq⟩
        have c1 : wr.cell? ⟨g, o + k * 2, none⟩ = some (.string p.1) := hc k 0 p _ hp (by decide) rfl
        have c2 : wr.cell? ⟨g, o + k * 2 + 1, none⟩ = some (.string p.2) := hc k 1 p _ hp (by decide) rfl
        have d1 : wr.cell? ⟨g2, o2 + k * 2, none⟩ = some (.string r.1) := hc2 k 0 r _ hr (by decide) rfl
        have d2 : wr.cell? ⟨g2, o2 + k * 2 + 1, none⟩ = some (.string r.2) := hc2 k 1 r _ hr (by decide) rfl
        have hlq' : (k : Int) < (qs.length : Int) := by omega
        clear hc hc2
        have HTK := hide (take_twoD HT.out hp hr)
        have hqq : ∀ n, Q w (wr.drewN n) := fun n => hq.drewN n
        clear ha hb HT hp hr
        obtain ⟨b1, l1⟩ := p
        obtain ⟨b2, l2⟩ := r
        simp only at c1 c2 d1 d2
        by_cases hpr : b1 = b2 ∧ l1 = l2
        · obtain ⟨rfl, rfl⟩ := hpr
          have HN := hide ((unhide HTK).1 rfl)
          have e1 : (b1.toList == b1.toList) = true := by simp
          have e2 : (l1.toList == l1.toList) = true := by simp
          clear HTK
          go_wp2_with fail
          go_quiet (fail)
          go_wp2_with fail
          go_roundw
          case rel => exact ⟨k + 1, by omega, by go_num, HN, hqq _⟩
          case measure => simp [intOf]; omega
        · have HF : Hid (decide (ps = qs) = false) := decide_eq_false ((unhide HTK).2 (by simpa using hpr))
          rcases (by by_cases h : b1 = b2; exact Or.inr ⟨h, fun h2 => hpr ⟨h, h2⟩⟩; exact Or.inl h : b1 ≠ b2 ∨ (b1 = b2 ∧ l1 ≠ l2)) with h | ⟨h, h2⟩
          · have e1 : (b1.toList == b2.toList) = false := by rw [str_eq]; exact decide_eq_false h
            clear HTK hpr h
            go_wp2_with fail
            go_quiet (fail)
            go_wp2_with fail
            go_ret
            exact ⟨ret_bool HF.out.symm, hqq _⟩
          · have e1 : (b1.toList == b2.toList) = true := by rw [str_eq]; exact decide_eq_true h
            have e2 : (l1.toList == l2.toList) = false := by rw [str_eq]; exact decide_eq_false h2
            clear HTK hpr h h2
            go_wp2_with fail
            go_quiet (fail)
            go_wp2_with fail
            go_ret
            exact ⟨ret_bool HF.out.symm, hqq _⟩
      · have HF : Hid (decide (ps = qs) = true) := by
          have h1 := HT.out
          rw [List.take_of_length_le (by omega), List.take_of_length_le (by have := unhide HL; omega)] at h1
          exact decide_eq_true h1
        clear HT
        go_wp2_with fail
        go_ret
        exact ⟨ret_bool HF.out.symm, hq⟩
  · have HF : Hid (decide (ps = qs) = false) := decide_eq_false (fun h => hl (by rw [h]))
    have hl' : ((ps.length : Int) == (qs.length : Int)) = false := beq_eq_false_iff_ne.2 (by omega)
    have hl2 : ((ps.length : Int) != (qs.length : Int)) = true := by unfold bne; rw [hl']; rfl
    clear hl
    go_enter Try.func26, Try.ntmps26
    go_wp2_with fail
    go_ret
    exact ⟨ret_bool HF.out.symm, Q.refl _⟩

end Go.Proofs.Ytdkbjbcchpenaaa
