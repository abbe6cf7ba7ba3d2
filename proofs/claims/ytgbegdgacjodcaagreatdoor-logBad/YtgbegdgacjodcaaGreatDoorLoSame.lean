/- What the statements' own SameRecords answers; the conditions: the records lie in memory; lengths. -/
import Derived.Test.YtgbegdgacjodcaaGreatDoorLoState
import Derived.Laws.StructEq
namespace Go.Proofs.YtgbegdgacjodcaaGreatDoor
open Go.RowKit

set_option maxRecDepth 20000 in
set_option maxHeartbeats 4000000 in
theorem sameR_any (ao bo : Option Addr) (cap bcap : Nat) (ps qs : Rs) (w : World) (ha : RowR w ao ps) (hb : RowR w bo qs) (hn : ps.length ≤ maxLen) :
    Calls Tryz.prog 15 #[.slice ao ps.length cap, .slice bo qs.length bcap] w fun e w' => e = .returned (.bool (decide (ps = qs))) ∧ Q w w' := by
  have heq := eqR
  have hgd := Tryz.guardR
  unfold maxLen at hn
  by_cases hl : ps.length = qs.length
  · have hl' : ((ps.length : Int) == (qs.length : Int)) = true := by simp [hl]
    have hl2 : ((ps.length : Int) != (qs.length : Int)) = false := by simp [hl]
    have HL := hide hl
    clear hl
    go_enter Tryz.func15, Tryz.ntmps15
    go_wp2_with fail
    go_loopw [5] (fun i wr => ∃ k : Nat, k ≤ ps.length ∧ i = .int .i64 k ∧ Hid (ps.take k = qs.take k) ∧ Q w wr) (fun i _ => ps.length - (intOf i).toNat)
    case atStart => exact ⟨0, Nat.zero_le _, rfl, by show _ = _; simp, Q.refl _⟩
    case round =>
      obtain ⟨k, hk, rfl, HT, hq⟩ := hrel
      by_cases hlt : k < ps.length
      · have hlq : k < qs.length := by have := unhide HL; omega
        rcases ha.q hq with he | ⟨g, o, rfl, hg, hc⟩
        · rw [he] at hlt; simp at hlt
        rcases hb.q hq with he | ⟨g2, o2, rfl, hg2, hc2⟩
        · rw [he] at hlq; simp at hlq
        obtain ⟨p, hp⟩ : ∃ p, ps[k]? = some p := ⟨ps[k], List.getElem?_eq_getElem hlt⟩
        obtain ⟨r, hr⟩ : ∃ r, qs[k]? = some r := ⟨qs[k], List.getElem?_eq_getElem hlq⟩
        have c1 : wr.cell? ⟨g, o + k * 3, none⟩ = some (.string ⟨p.1.toArray⟩) := hc k 0 p _ hp (by decide) rfl
        have c2 : wr.cell? ⟨g, o + k * 3 + 1, none⟩ = some (.int .i64 p.2.1) := hc k 1 p _ hp (by decide) rfl
        have c3 : wr.cell? ⟨g, o + k * 3 + 2, none⟩ = some (.string ⟨p.2.2.toArray⟩) := hc k 2 p _ hp (by decide) rfl
        have d1 : wr.cell? ⟨g2, o2 + k * 3, none⟩ = some (.string ⟨r.1.toArray⟩) := hc2 k 0 r _ hr (by decide) rfl
        have d2 : wr.cell? ⟨g2, o2 + k * 3 + 1, none⟩ = some (.int .i64 r.2.1) := hc2 k 1 r _ hr (by decide) rfl
        have d3 : wr.cell? ⟨g2, o2 + k * 3 + 2, none⟩ = some (.string ⟨r.2.2.toArray⟩) := hc2 k 2 r _ hr (by decide) rfl
        have hlq' : (k : Int) < (qs.length : Int) := by omega
        clear hc hc2
        have HTK := hide (take_twoR HT.out hp hr)
        have hqq : ∀ n, Q w (wr.drewN n) := fun n => hq.drewN n
        have hE := rc_eqB p r
        have hpq : Hid ((decide (p = r) = true → p = r) ∧ (decide (p = r) = false → p ≠ r)) := ⟨of_decide_eq_true, of_decide_eq_false⟩
        generalize decide (p = r) = v at hE hpq
        generalize (⟨p.1.toArray⟩ : ByteArray) = b1 at c1 hE
        generalize (⟨r.1.toArray⟩ : ByteArray) = b2 at d1 hE
        generalize p.2.1 = x1 at c2 hE
        generalize (⟨p.2.2.toArray⟩ : ByteArray) = y1 at c3 hE
        generalize r.2.1 = x2 at d2 hE
        generalize (⟨r.2.2.toArray⟩ : ByteArray) = y2 at d3 hE
        clear ha hb HT hp hr
        cases v
        · have HF : Hid (decide (ps = qs) = false) := decide_eq_false ((unhide HTK).2 ((unhide hpq).2 rfl))
          clear HTK hpq
          have hE2 : (Op.equalIn 10000 31 (.agg #[.string b1, .int .i64 x1, .string y1]) (.agg #[.string b2, .int .i64 x2, .string y2])).run Tryz.prog = fun w => .ok false w := by
            funext w0; rw [heq, hE]
          clear heq hE
          have heq : ∀ w0, (Op.equalIn 10000 31 (.agg #[.string b1, .int .i64 x1, .string y1]) (.agg #[.string b2, .int .i64 x2, .string y2])).run Tryz.prog w0 = .ok false w0 := fun w0 => by rw [hE2]
          clear hE2
          go_wp2_with fail
          go_quiet (fail)
          go_wp2_with fail
          go_ret
          exact ⟨ret_bool HF.out.symm, hqq _⟩
        · have HN := hide ((unhide HTK).1 ((unhide hpq).1 rfl))
          clear HTK hpq
          have hE2 : (Op.equalIn 10000 31 (.agg #[.string b1, .int .i64 x1, .string y1]) (.agg #[.string b2, .int .i64 x2, .string y2])).run Tryz.prog = fun w => .ok true w := by
            funext w0; rw [heq, hE]
          clear heq hE
          have heq : ∀ w0, (Op.equalIn 10000 31 (.agg #[.string b1, .int .i64 x1, .string y1]) (.agg #[.string b2, .int .i64 x2, .string y2])).run Tryz.prog w0 = .ok true w0 := fun w0 => by rw [hE2]
          clear hE2
          go_wp2_with fail
          go_quiet (fail)
          go_wp2_with fail
          go_roundw
          case rel => exact ⟨k + 1, by omega, by go_num, HN, hqq _⟩
          case measure => simp [intOf]; omega
      · have HF : Hid (decide (ps = qs) = true) := by
          have h1 := HT.out
          rw [List.take_of_length_le (by omega), List.take_of_length_le (by have := unhide HL; omega)] at h1
          exact decide_eq_true h1
        clear HT
        go_wp2_with fail
        go_ret
        exact ⟨ret_bool HF.out.symm, hq⟩
  · have HF : Hid (decide (ps = qs) = false) := decide_eq_false (fun h => hl (by rw [h]))
    have hl' : ((ps.length : Int) == (qs.length : Int)) = false := beq_eq_false_iff_ne.2 (by omega)
    have hl2 : ((ps.length : Int) != (qs.length : Int)) = true := by unfold bne; rw [hl']; rfl
    clear hl
    go_enter Tryz.func15, Tryz.ntmps15
    go_wp2_with fail
    go_ret
    exact ⟨ret_bool HF.out.symm, Q.refl _⟩

end Go.Proofs.YtgbegdgacjodcaaGreatDoor
