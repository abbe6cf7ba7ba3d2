/- What the statements' own SameTexts answers; the conditions: the rows lie in memory. -/
import Derived.Test.YtbfhliocckkbmaaDoorWdBut
namespace Go.Proofs.YtbfhliocckkbmaaDoor
open Go.RowKit

theorem take_twoT {ps qs : Ws} {k : Nat} {p r : List UInt8} (ht : ps.take k = qs.take k) (hp : ps[k]? = some p) (hr : qs[k]? = some r) : (p = r → ps.take (k + 1) = qs.take (k + 1)) ∧ (p ≠ r → ps ≠ qs) := by
  refine ⟨?_, ?_⟩
  · intro h; rw [List.take_add_one, List.take_add_one, ht, hp, hr, h]
  · intro h e; subst e; rw [hp] at hr; exact h (Option.some.inj hr)

set_option maxHeartbeats 4000000 in
theorem sameT_any (ao bo : Option Addr) (cap bcap : Nat) (ps qs : Ws) (w : World) (ha : RowT w ao ps) (hb : RowT w bo qs) (hn : ps.length ≤ 1152921504606846976) :
    Calls Tryd.prog 13 #[.slice ao ps.length cap, .slice bo qs.length bcap] w fun e w' => e = .returned (.bool (decide (ps = qs))) ∧ Q w w' := by
  by_cases hl : ps.length = qs.length
  · have hl' : ((ps.length : Int) == (qs.length : Int)) = true := by simp [hl]
    have hl2 : ((ps.length : Int) != (qs.length : Int)) = false := by simp [hl]
    have HL := hide hl
    clear hl
    go_enter Tryd.func13, Tryd.ntmps13
    go_wp2_with fail
    go_loopw [5] (fun i wr => ∃ k : Nat, k ≤ ps.length ∧ i = .int .i64 k ∧ Hid (ps.take k = qs.take k) ∧ Q w wr) (fun i _ => ps.length - (intOf i).toNat)
    case atStart => exact ⟨0, Nat.zero_le _, rfl, by show _ = _; simp, Q.refl _⟩
    case round =>
      obtain ⟨k, hk, rfl, HT, hq⟩ := hrel
      by_cases hlt : k < ps.length
      · have hlq : k < qs.length := by have := unhide HL; omega
        rcases ha.q hq with he | ⟨g, o, rfl, hg, hc⟩
        · rw [he] at hlt; simp at hlt
        rcases hb.q hq with he | ⟨g2, o2, rfl, hg2, hc2⟩
        · rw [he] at hlq; simp at hlq
        obtain ⟨p, hp⟩ : ∃ p, ps[k]? = some p := ⟨ps[k], List.getElem?_eq_getElem hlt⟩
        obtain ⟨r, hr⟩ : ∃ r, qs[k]? = some r := ⟨qs[k], List.getElem?_eq_getElem hlq⟩
        have c1 : wr.cell? ⟨g, o + k, none⟩ = some (.string ⟨p.toArray⟩) := by simpa using hc k 0 p _ hp (by decide) rfl
        have d1 : wr.cell? ⟨g2, o2 + k, none⟩ = some (.string ⟨r.toArray⟩) := by simpa using hc2 k 0 r _ hr (by decide) rfl
        have hlq' : (k : Int) < (qs.length : Int) := by omega
        clear hc hc2
        have HTK := hide (take_twoT HT.out hp hr)
        have hqq : ∀ n, Q w (wr.drewN n) := fun n => hq.drewN n
        have HP := hide (bl_mk p)
        have HR := hide (bl_mk r)
        generalize (⟨p.toArray⟩ : ByteArray) = x at c1 HP
        generalize (⟨r.toArray⟩ : ByteArray) = y at d1 HR
        clear ha hb HT hp hr
        by_cases hpr : p = r
        · have HN := hide ((unhide HTK).1 hpr)
          have e1 : (x.toList == y.toList) = true := by rw [bl_toList, bl_toList, unhide HP, unhide HR, hpr]; exact beq_self_eq_true _
          have e2 : (x.toList != y.toList) = false := by unfold bne; rw [e1]; rfl
          clear HTK hpr
          go_wp2_with fail
          go_quiet (fail)
          go_wp2_with fail
          go_roundw
          case rel => exact ⟨k + 1, by omega, by go_num, HN, hqq _⟩
          case measure => simp [intOf]; omega
        · have HF : Hid (decide (ps = qs) = false) := decide_eq_false ((unhide HTK).2 hpr)
          have e1 : (x.toList == y.toList) = false := by rw [bl_toList, bl_toList, unhide HP, unhide HR]; exact beq_eq_false_iff_ne.2 hpr
          have e2 : (x.toList != y.toList) = true := by unfold bne; rw [e1]; rfl
          clear HTK hpr
          go_wp2_with fail
          go_quiet (fail)
          go_wp2_with fail
          go_ret
          exact ⟨ret_bool HF.out.symm, hqq _⟩
      · have HF : Hid (decide (ps = qs) = true) := by
          have h1 := HT.out
          rw [List.take_of_length_le (by omega), List.take_of_length_le (by have := unhide HL; omega)] at h1
          exact decide_eq_true h1
        clear HT
        go_wp2_with fail
        go_ret
        exact ⟨ret_bool HF.out.symm, hq⟩
  · have HF : Hid (decide (ps = qs) = false) := decide_eq_false (fun h => hl (by rw [h]))
    have hl' : ((ps.length : Int) == (qs.length : Int)) = false := beq_eq_false_iff_ne.2 (by omega)
    have hl2 : ((ps.length : Int) != (qs.length : Int)) = true := by unfold bne; rw [hl']; rfl
    clear hl
    go_enter Tryd.func13, Tryd.ntmps13
    go_wp2_with fail
    go_ret
    exact ⟨ret_bool HF.out.symm, Q.refl _⟩

end Go.Proofs.YtbfhliocckkbmaaDoor
