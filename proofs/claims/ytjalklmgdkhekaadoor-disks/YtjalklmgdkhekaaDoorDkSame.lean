/- What the statements' own SameFiles, SameDisk answer; the conditions: the files lie in memory; lengths. -/
import Derived.Test.YtjalklmgdkhekaaDoorDkSmall
import Derived.Laws.StructEq
namespace Go.Proofs.YtjalklmgdkhekaaDoor
open Go.RowKit

theorem eqK (a b : ByteArray) (x y s t : Int) (w : World) : (Op.equalIn 10000 34 (.agg #[.string a, .int .i64 x, .int .i64 s]) (.agg #[.string b, .int .i64 y, .int .i64 t])).run Tryd.prog w = .ok (a.toList == b.toList && (x == y && s == t)) w := by
  have u4 := Tryd.underlying9
  have u3 := Tryd.underlying3
  have hS : Tryd.prog.underlying 34 = some (.struct (Tryd.prog.fieldsOf 34)) := by kernel_rfl
  have hp : Tryd.prog.stoodInHeld 34 = false := by kernel_rfl
  rw [show (10000 : Nat) = 9999 + 1 from rfl, run_equalIn_agg w 9999 34 _ _ hS hp]
  simp only [Program.fieldsOf, Tryd.underlying34]
  go_simp
  cases hab : (a.toList == b.toList) <;> cases hxy : (x == y) <;> cases hst : (s == t) <;> simp_all
theorem Tryd.guardK : Tryd.prog.eqGuardType Tryd.prog.depth 34 = false := by kernel_rfl

theorem take_twoK {ps qs : List Fl} {k : Nat} {p r : Fl} (ht : ps.take k = qs.take k) (hp : ps[k]? = some p) (hr : qs[k]? = some r) : (p = r → ps.take (k + 1) = qs.take (k + 1)) ∧ (p ≠ r → ps ≠ qs) := by
  refine ⟨?_, ?_⟩
  · intro h; rw [List.take_add_one, List.take_add_one, ht, hp, hr, h]
  · intro h e; subst e; rw [hp] at hr; exact h (Option.some.inj hr)
theorem fl_eqB (p r : Fl) : ((⟨p.1.toArray⟩ : ByteArray).toList == (⟨r.1.toArray⟩ : ByteArray).toList && (p.2.1 == r.2.1 && p.2.2 == r.2.2)) = decide (p = r) := by
  rw [bl_toList, bl_toList, Bool.eq_iff_iff, decide_eq_true_iff]
  simp only [Bool.and_eq_true, beq_iff_eq]
  constructor
  · rintro ⟨h1, h2, h3⟩; exact Prod.ext h1 (Prod.ext h2 h3)
  · intro h; rw [h]; exact ⟨rfl, rfl, rfl⟩

set_option maxRecDepth 20000 in
set_option maxHeartbeats 4000000 in
theorem sameF_any (ao bo : Option Addr) (cap bcap : Nat) (ps qs : List Fl) (w : World) (ha : RowK w ao ps) (hb : RowK w bo qs) (hn : ps.length ≤ maxLen) :
    Calls Tryd.prog 28 #[.slice ao ps.length cap, .slice bo qs.length bcap] w fun e w' => e = .returned (.bool (decide (ps = qs))) ∧ Q w w' := by
  have heq := eqK
  have hgd := Tryd.guardK
  unfold maxLen at hn
  by_cases hl : ps.length = qs.length
  · have hl' : ((ps.length : Int) == (qs.length : Int)) = true := by simp [hl]
    have hl2 : ((ps.length : Int) != (qs.length : Int)) = false := by simp [hl]
    have HL := hide hl
    clear hl
    go_enter Tryd.func28, Tryd.ntmps28
    go_wp2_with fail
    go_loopw [5] (fun i wr => ∃ k : Nat, k ≤ ps.length ∧ i = .int .i64 k ∧ Hid (ps.take k = qs.take k) ∧ Q w wr) (fun i _ => ps.length - (intOf i).toNat)
    case atStart => exact ⟨0, Nat.zero_le _, rfl, by show _ = _; simp, Q.refl _⟩
    case round =>
      obtain ⟨k, hk, rfl, HT, hq⟩ := hrel
      by_cases hlt : k < ps.length
      · have hlq : k < qs.length := by have := unhide HL; omega
        rcases ha.q hq with he | ⟨g, o, rfl, hg, hc⟩
        · rw [he] at hlt; simp at hlt
        rcases hb.q hq with he | ⟨g2, o2, rfl, hg2, hc2⟩
        · rw [he] at hlq; simp at hlq
        obtain ⟨p, hp⟩ : ∃ p, ps[k]? = some p := ⟨ps[k], List.getElem?_eq_getElem hlt⟩
        obtain ⟨r, hr⟩ : ∃ r, qs[k]? = some r := ⟨qs[k], List.getElem?_eq_getElem hlq⟩
        have c1 : wr.cell? ⟨g, o + k * 3, none⟩ = some (.string ⟨p.1.toArray⟩) := hc k 0 p _ hp (by decide) rfl
        have c2 : wr.cell? ⟨g, o + k * 3 + 1, none⟩ = some (.int .i64 p.2.1) := hc k 1 p _ hp (by decide) rfl
        have c3 : wr.cell? ⟨g, o + k * 3 + 2, none⟩ = some (.int .i64 p.2.2) := hc k 2 p _ hp (by decide) rfl
        have d1 : wr.cell? ⟨g2, o2 + k * 3, none⟩ = some (.string ⟨r.1.toArray⟩) := hc2 k 0 r _ hr (by decide) rfl
        have d2 : wr.cell? ⟨g2, o2 + k * 3 + 1, none⟩ = some (.int .i64 r.2.1) := hc2 k 1 r _ hr (by decide) rfl
        have d3 : wr.cell? ⟨g2, o2 + k * 3 + 2, none⟩ = some (.int .i64 r.2.2) := hc2 k 2 r _ hr (by decide) rfl
        have hlq' : (k : Int) < (qs.length : Int) := by omega
        clear hc hc2
        have HTK := hide (take_twoK HT.out hp hr)
        have hqq : ∀ n, Q w (wr.drewN n) := fun n => hq.drewN n
        have hE := fl_eqB p r
        have hpq : Hid ((decide (p = r) = true → p = r) ∧ (decide (p = r) = false → p ≠ r)) := ⟨of_decide_eq_true, of_decide_eq_false⟩
        generalize decide (p = r) = v at hE hpq
        generalize (⟨p.1.toArray⟩ : ByteArray) = b1 at c1 hE
        generalize (⟨r.1.toArray⟩ : ByteArray) = b2 at d1 hE
        generalize p.2.1 = x1 at c2 hE
        generalize p.2.2 = y1 at c3 hE
        generalize r.2.1 = x2 at d2 hE
        generalize r.2.2 = y2 at d3 hE
        clear ha hb HT hp hr
        cases v
        · have HF : Hid (decide (ps = qs) = false) := decide_eq_false ((unhide HTK).2 ((unhide hpq).2 rfl))
          clear HTK hpq
          have hE2 : (Op.equalIn 10000 34 (.agg #[.string b1, .int .i64 x1, .int .i64 y1]) (.agg #[.string b2, .int .i64 x2, .int .i64 y2])).run Tryd.prog = fun w => .ok false w := by
            funext w0; rw [heq, hE]
          clear heq hE
          have heq : ∀ w0, (Op.equalIn 10000 34 (.agg #[.string b1, .int .i64 x1, .int .i64 y1]) (.agg #[.string b2, .int .i64 x2, .int .i64 y2])).run Tryd.prog w0 = .ok false w0 := fun w0 => by rw [hE2]
          clear hE2
          go_wp2_with fail
          go_quiet (fail)
          go_wp2_with fail
          go_ret
          exact ⟨ret_bool HF.out.symm, hqq _⟩
        · have HN := hide ((unhide HTK).1 ((unhide hpq).1 rfl))
          clear HTK hpq
          have hE2 : (Op.equalIn 10000 34 (.agg #[.string b1, .int .i64 x1, .int .i64 y1]) (.agg #[.string b2, .int .i64 x2, .int .i64 y2])).run Tryd.prog = fun w => .ok true w := by
            funext w0; rw [heq, hE]
          clear heq hE
          have heq : ∀ w0, (Op.equalIn 10000 34 (.agg #[.string b1, .int .i64 x1, .int .i64 y1]) (.agg #[.string b2, .int .i64 x2, .int .i64 y2])).run Tryd.prog w0 = .ok true w0 := fun w0 => by rw [hE2]
          clear hE2
          go_wp2_with fail
          go_quiet (fail)
          go_wp2_with fail
          go_roundw
          case rel => exact ⟨k + 1, by omega, by go_num, HN, hqq _⟩
          case measure => simp [intOf]; omega
      · have HF : Hid (decide (ps = qs) = true) := by
          have h1 := HT.out
          rw [List.take_of_length_le (by omega), List.take_of_length_le (by have := unhide HL; omega)] at h1
          exact decide_eq_true h1
        clear HT
        go_wp2_with fail
        go_ret
        exact ⟨ret_bool HF.out.symm, hq⟩
  · have HF : Hid (decide (ps = qs) = false) := decide_eq_false (fun h => hl (by rw [h]))
    have hl' : ((ps.length : Int) == (qs.length : Int)) = false := beq_eq_false_iff_ne.2 (by omega)
    have hl2 : ((ps.length : Int) != (qs.length : Int)) = true := by unfold bne; rw [hl']; rfl
    clear hl
    go_enter Tryd.func28, Tryd.ntmps28
    go_wp2_with fail
    go_ret
    exact ⟨ret_bool HF.out.symm, Q.refl _⟩

set_option maxRecDepth 20000 in
set_option maxHeartbeats 4000000 in
theorem sameDk_any (c d : Int) (ao bo : Option Addr) (cap bcap : Nat) (ps qs : List Fl) (w : World) (ha : RowK w ao ps) (hb : RowK w bo qs) (hn : ps.length ≤ maxLen) :
    Calls Tryd.prog 11 #[dkV c ao ps.length cap, dkV d bo qs.length bcap] w fun e w' => e = .returned (.bool (decide (c = d) && decide (ps = qs))) ∧ Q w w' := by
  have HS := hide (fun w' (q : Q w w') => sameF_any ao bo cap bcap ps qs w' (ha.q q) (hb.q q) hn)
  generalize decide (ps = qs) = v at HS ⊢
  have HQ := hide (((Q.refl w).alloc (.cells #[.int .i64 c, .slice ao ps.length cap] 24)).trans ((Q.refl _).alloc (.cells #[.int .i64 d, .slice bo qs.length bcap] 24)))
  unfold dkV
  by_cases hcd : c = d
  · have hc' : (c == d) = true := by rw [hcd]; simp
    rw [decide_eq_true hcd]
    clear hcd
    go_enter Tryd.func11, Tryd.ntmps11
    go_wp2_with fail
    refine (unhide HS _ (unhide HQ)).mono ?_
    rintro e w1 ⟨rfl, q1⟩
    go_wp2_with fail
    go_ret
    exact ⟨ret_bool (by simp), (unhide HQ).trans q1⟩
  · have hc' : (c == d) = false := beq_eq_false_iff_ne.2 hcd
    rw [decide_eq_false hcd]
    clear hcd
    go_enter Tryd.func11, Tryd.ntmps11
    go_wp2_with fail
    go_ret
    exact ⟨ret_bool (by simp), unhide HQ⟩

end Go.Proofs.YtjalklmgdkhekaaDoor
