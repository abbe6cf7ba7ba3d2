/- What the statements' own SameLines and SpoilLines do: rows are held against each other, written over; the conditions: at most 4096 lines, each of at most 4096 bytes. -/
import Derived.Test.YthchjdegilhepaaDoorLnCut
import Derived.Laws.StructEq
namespace Go.Proofs.YthchjdegilhepaaDoor
open Go.RowKit

abbrev RowLn (w : World) (ao : Option Addr) (ps : List Ln) : Prop := RowG lv 2 w ao ps

theorem OwnL.row {w : World} {B : Nat} {ao : Option Addr} {cap : Nat} {ps : List Ln} (h : OwnL w B ao cap ps) : RowLn w ao ps := RowG.own lv_len (by decide) h

theorem eqLn (a b : Bool) (x y : ByteArray) (w : World) : (Op.equalIn 10000 39 (.agg #[.bool a, .string x]) (.agg #[.bool b, .string y])).run Tryd.prog w = .ok (a == b && x.toList == y.toList) w := by
  have u3 := Tryd.underlying4
  have u4 := Tryd.underlying9
  have hS : Tryd.prog.underlying 39 = some (.struct (Tryd.prog.fieldsOf 39)) := by kernel_rfl
  have hp : Tryd.prog.stoodInHeld 39 = false := by kernel_rfl
  rw [show (10000 : Nat) = 9999 + 1 from rfl, run_equalIn_agg w 9999 39 _ _ hS hp]
  simp only [Program.fieldsOf, Tryd.underlying39]
  go_simp
  cases a <;> cases b <;> cases hxy : (x.toList == y.toList) <;> simp_all
theorem Tryd.guardLn : Tryd.prog.eqGuardType Tryd.prog.depth 39 = false := by kernel_rfl

theorem take_twoL {ps qs : List Ln} {k : Nat} {p r : Ln} (ht : ps.take k = qs.take k) (hp : ps[k]? = some p) (hr : qs[k]? = some r) : (p = r → ps.take (k + 1) = qs.take (k + 1)) ∧ (p ≠ r → ps ≠ qs) := by
  refine ⟨?_, ?_⟩
  · intro h; rw [List.take_add_one, List.take_add_one, ht, hp, hr, h]
  · intro h e; subst e; rw [hp] at hr; exact h (Option.some.inj hr)

set_option maxHeartbeats 4000000 in
theorem sameL_any (ao bo : Option Addr) (cap bcap : Nat) (ps qs : List Ln) (w : World) (ha : RowLn w ao ps) (hb : RowLn w bo qs) (hn : ps.length ≤ 4096) :
    Calls Tryd.prog 10 #[.slice ao ps.length cap, .slice bo qs.length bcap] w fun e w' => e = .returned (.bool (decide (ps = qs))) ∧ Q w w' := by
  have heq := eqLn
  have hgd := Tryd.guardLn
  by_cases hl : ps.length = qs.length
  · have hl' : ((ps.length : Int) == (qs.length : Int)) = true := by simp [hl]
    have hl2 : ((ps.length : Int) != (qs.length : Int)) = false := by simp [hl]
    have HL := hide hl
    clear hl
    go_enter Tryd.func10, Tryd.ntmps10
    go_wp2_with fail
    go_loopw [5] (fun i wr => ∃ k : Nat, k ≤ ps.length ∧ i = .int .i64 k ∧ Hid (ps.take k = qs.take k) ∧ Q w wr) (fun i _ => ps.length - (intOf i).toNat)
    case atStart => exact ⟨0, Nat.zero_le _, rfl, by show _ = _; simp, Q.refl _⟩
    case round =>
      obtain ⟨k, hk, rfl, HT, hq⟩ := hrel
      by_cases hlt : k < ps.length
      · have hlq : k < qs.length := by have := unhide HL; omega
        rcases ha.q hq with he | ⟨g, o, rfl, hg, hc⟩
        · rw [he] at hlt; simp at hlt
        rcases hb.q hq with he | ⟨g2, o2, rfl, hg2, hc2⟩
        · rw [he] at hlq; simp at hlq
        obtain ⟨p, hp⟩ : ∃ p, ps[k]? = some p := ⟨ps[k], List.getElem?_eq_getElem hlt⟩
        obtain ⟨r, hr⟩ : ∃ r, qs[k]? = some r := ⟨qs[k], List.getElem?_eq_getElem hlq⟩
        have c1 : wr.cell? ⟨g, o + k * 2, none⟩ = some (.bool p.1) := hc k 0 p _ hp (by decide) rfl
        have c2 : wr.cell? ⟨g, o + k * 2 + 1, none⟩ = some (.string ⟨p.2.toArray⟩) := hc k 1 p _ hp (by decide) rfl
        have d1 : wr.cell? ⟨g2, o2 + k * 2, none⟩ = some (.bool r.1) := hc2 k 0 r _ hr (by decide) rfl
        have d2 : wr.cell? ⟨g2, o2 + k * 2 + 1, none⟩ = some (.string ⟨r.2.toArray⟩) := hc2 k 1 r _ hr (by decide) rfl
        have hlq' : (k : Int) < (qs.length : Int) := by omega
        clear hc hc2
        have HTK := hide (take_twoL HT.out hp hr)
        have hqq : ∀ n, Q w (wr.drewN n) := fun n => hq.drewN n
        clear ha hb HT hp hr
        obtain ⟨b1, l1⟩ := p
        obtain ⟨b2, l2⟩ := r
        simp only at c1 c2 d1 d2
        by_cases hpr : b1 = b2 ∧ l1 = l2
        · obtain ⟨rfl, rfl⟩ := hpr
          have HN := hide ((unhide HTK).1 rfl)
          have e1 : (b1 == b1) = true := by simp
          have e2 : (l1 == l1) = true := by simp
          clear HTK
          go_wp2_with fail
          go_quiet (fail)
          go_wp2_with fail
          go_roundw
          case rel => exact ⟨k + 1, by omega, by go_num, HN, hqq _⟩
          case measure => simp [intOf]; omega
        · have HF : Hid (decide (ps = qs) = false) := decide_eq_false ((unhide HTK).2 (by simpa using hpr))
          rcases (by by_cases h : b1 = b2; exact Or.inr ⟨h, fun h2 => hpr ⟨h, h2⟩⟩; exact Or.inl h : b1 ≠ b2 ∨ (b1 = b2 ∧ l1 ≠ l2)) with h | ⟨h, h2⟩
          · have e1 : (b1 == b2) = false := beq_eq_false_iff_ne.2 h
            clear HTK hpr h
            go_wp2_with fail
            go_quiet (fail)
            go_wp2_with fail
            go_ret
            exact ⟨ret_bool HF.out.symm, hqq _⟩
          · have e1 : (b1 == b2) = true := beq_iff_eq.2 h
            have e2 : (l1 == l2) = false := beq_eq_false_iff_ne.2 h2
            clear HTK hpr h h2
            go_wp2_with fail
            go_quiet (fail)
            go_wp2_with fail
            go_ret
            exact ⟨ret_bool HF.out.symm, hqq _⟩
      · have HF : Hid (decide (ps = qs) = true) := by
          have h1 := HT.out
          rw [List.take_of_length_le (by omega), List.take_of_length_le (by have := unhide HL; omega)] at h1
          exact decide_eq_true h1
        clear HT
        go_wp2_with fail
        go_ret
        exact ⟨ret_bool HF.out.symm, hq⟩
  · have HF : Hid (decide (ps = qs) = false) := decide_eq_false (fun h => hl (by rw [h]))
    have hl' : ((ps.length : Int) == (qs.length : Int)) = false := beq_eq_false_iff_ne.2 (by omega)
    have hl2 : ((ps.length : Int) != (qs.length : Int)) = true := by unfold bne; rw [hl']; rfl
    clear hl
    go_enter Tryd.func10, Tryd.ntmps10
    go_wp2_with fail
    go_ret
    exact ⟨ret_bool HF.out.symm, Q.refl _⟩

set_option maxHeartbeats 4000000 in
theorem spoilL_any (ao : Option Addr) (cap B : Nat) (ps : List Ln) (w : World) (hown : OwnL w B ao cap ps) (hn : ps.length ≤ 4096) (hm : ∀ p ∈ ps, p.2.length ≤ 4096) :
    Calls Tryd.prog 12 #[.slice ao ps.length cap] w fun e w' => e = .returned (.tuple #[]) ∧ Below B w w' := by
  go_enter Tryd.func12, Tryd.ntmps12
  go_wp2_with fail
  go_loopw [2] (fun i wr => ∃ (k : Nat) (qs : List Ln), k ≤ ps.length ∧ i = .int .i64 k ∧ Hid (qs.length = ps.length ∧ ∀ j, k ≤ j → qs[j]? = ps[j]?) ∧ Hid (OwnL wr B ao cap qs) ∧ Below B w wr) (fun i _ => ps.length - (intOf i).toNat)
  case atStart => exact ⟨0, ps, Nat.zero_le _, rfl, ⟨rfl, fun _ _ => rfl⟩, hown, Below.refl _ _⟩
  case round =>
    obtain ⟨k, qs, hk, rfl, HL, HO, hq⟩ := hrel
    by_cases hlt : k < ps.length
    · obtain ⟨p, hp⟩ : ∃ p, ps[k]? = some p := ⟨ps[k], List.getElem?_eq_getElem hlt⟩
      have hpl : p.2.length ≤ 4096 := hm p (List.mem_of_getElem? hp)
      have hqp : qs[k]? = some p := (HL.out.2 k (Nat.le_refl _)).trans hp
      have hql := HL.out.1
      obtain ⟨g, rfl, hgB, hg, hf, hc⟩ := own_some lv_len (by decide) (by omega) HO.out
      have c2 : wr.cell? ⟨g, k * 2 + 1, none⟩ = some (.string ⟨p.2.toArray⟩) := hc k 1 p _ hqp (by decide) rfl
      have hfr := hf (k * 2 + 1)
      have hps : (⟨p.2.toArray⟩ : ByteArray).size = p.2.length := by rw [← bl_size]; rfl
      have HX := hide (own_set lv_len HO.out k 1 p (p.1, p.2 ++ [63]) (.string (⟨p.2.toArray⟩ ++ ⟨#[63]⟩)) hqp (by decide) (by
        show [Value.bool p.1, .string ⟨(p.2 ++ [63]).toArray⟩] = [Value.bool p.1, .string (⟨p.2.toArray⟩ ++ ⟨#[63]⟩)]
        rw [show (⟨p.2.toArray⟩ ++ ⟨#[63]⟩ : ByteArray) = ⟨(p.2 ++ [63]).toArray⟩ from of_bl (by rw [bl_app]; rfl)]))
      have HL2 : Hid ((qs.set k (p.1, p.2 ++ [63])).length = ps.length ∧ ∀ j, k + 1 ≤ j → (qs.set k (p.1, p.2 ++ [63]))[j]? = ps[j]?) :=
        ⟨by rw [List.length_set]; exact hql, fun j hj => by rw [List.getElem?_set_ne (by omega)]; exact HL.out.2 j (by omega)⟩
      have HO2 : Hid (OwnL (wr.setCell ⟨g, k * 2 + 1, none⟩ (.string (⟨p.2.toArray⟩ ++ ⟨#[63]⟩))) B (some ⟨g, 0, none⟩) cap (qs.set k (p.1, p.2 ++ [63]))) := by
        show World.ownsRow _ _ _ _ (.slice _ (qs.set _ _).length _) (qs.set _ _).length _
        rw [List.length_set]; exact unhide HX
      clear hc hf HX HL HO hp hqp hql hm hown
      go_wp2_with fail
      go_roundw
      case rel => exact ⟨k + 1, qs.set k (p.1, p.2 ++ [63]), by omega, by go_num, HL2, HO2, hq.setCell hgB _⟩
      case measure => simp [intOf]; omega
    · go_wp2_with fail
      go_end0
      exact ⟨rfl, hq⟩

end Go.Proofs.YthchjdegilhepaaDoor
