/- What the statements' own SamePools, SameEdge and SameGraph answer; the conditions: what they are asked of lies in memory. -/
import Derived.Test.YtgfegbeickaknabGreatDoorMfParse
import Derived.Test.YtgfegbeickaknabGreatDoorPk1
import Derived.Test.YtgfegbeickaknabGreatDoorWdSame
namespace Go.Proofs.YtgfegbeickaknabGreatDoor
open Go.RowKit

theorem eqPl (x y : ByteArray) (a b : Int) (w : World) : (Op.equalIn 10000 40 (.agg #[.string x, .int .i64 a]) (.agg #[.string y, .int .i64 b])).run Tryz.prog w = .ok (x.toList == y.toList && a == b) w := by
  have u3 := Tryz.underlying3
  have u4 := Tryz.underlying9
  have hS : Tryz.prog.underlying 40 = some (.struct (Tryz.prog.fieldsOf 40)) := by kernel_rfl
  have hp : Tryz.prog.stoodInHeld 40 = false := by kernel_rfl
  rw [show (10000 : Nat) = 9999 + 1 from rfl, run_equalIn_agg w 9999 40 _ _ hS hp]
  simp only [Program.fieldsOf, Tryz.underlying40]
  go_simp
  cases hxy : (x.toList == y.toList) <;> cases hab : (a == b) <;> simp_all
theorem Tryz.guardPl : Tryz.prog.eqGuardType Tryz.prog.depth 40 = false := by kernel_rfl

theorem take_twoP {ps qs : List Pl} {k : Nat} {p r   : Pl} (ht : ps.take k = qs.take k) (hp : ps[k]? = some p) (hr : qs[k]? = some r) : (p = r → ps.take (k + 1) = qs.take (k + 1)) ∧ (p ≠ r → ps ≠ qs) := by
  refine ⟨?_, ?_⟩
  · intro h; rw [List.take_add_one, List.take_add_one, ht, hp, hr, h]
  · intro h e; subst e; rw [hp] at hr; exact h (Option.some.inj hr)

set_option maxHeartbeats 4000000 in
theorem samePl_any (ao bo : Option Addr) (cap bcap : Nat) (ps qs : List Pl) (w : World) (ha : RowP w ao ps) (hb : RowP w bo qs) (hn : ps.length ≤ 4096) :
    Calls Tryz.prog 13 #[.slice ao ps.length cap, .slice bo qs.length bcap] w fun e w' => e = .returned (.bool (decide (ps = qs))) ∧ Q w w' := by
  have heq := eqPl
  have hgd := Tryz.guardPl
  by_cases hl : ps.length = qs.length
  · have hl' : ((ps.length : Int) == (qs.length : Int)) = true := by simp [hl]
    have hl2 : ((ps.length : Int) != (qs.length : Int)) = false := by simp [hl]
    have HL := hide hl
    clear hl
    go_enter Tryz.func13, Tryz.ntmps13
    go_wp2_with fail
    go_loopw [5] (fun i wr => ∃ k : Nat, k ≤ ps.length ∧ i = .int .i64 k ∧ Hid (ps.take k = qs.take k) ∧ Q w wr) (fun i _ => ps.length - (intOf i).toNat)
    case atStart => exact ⟨0, Nat.zero_le _, rfl, by show _ = _; simp, Q.refl _⟩
    case round =>
      obtain ⟨k, hk, rfl, HT, hq⟩ := hrel
      by_cases hlt : k < ps.length
      · have hlq : k < qs.length := by have := unhide HL; omega
        rcases ha.q hq with he | ⟨g, o, rfl, hg, hc⟩
        · rw [he] at hlt; simp at hlt
        rcases hb.q hq with he | ⟨g2, o2, rfl, hg2, hc2⟩
        · rw [he] at hlq; simp at hlq
        obtain ⟨p, hp⟩ : ∃ p, ps[k]? = some p := ⟨ps[k], List.getElem?_eq_getElem hlt⟩
        obtain ⟨r, hr⟩ : ∃ r, qs[k]? = some r := ⟨qs[k], List.getElem?_eq_getElem hlq⟩
        have c1 : wr.cell? ⟨g, o + k * 2, none⟩ = some (.string ⟨p.1.toArray⟩) := hc k 0 p _ hp (by decide) rfl
        have c2 : wr.cell? ⟨g, o + k * 2 + 1, none⟩ = some (.int .i64 p.2) := hc k 1 p _ hp (by decide) rfl
        have d1 : wr.cell? ⟨g2, o2 + k * 2, none⟩ = some (.string ⟨r.1.toArray⟩) := hc2 k 0 r _ hr (by decide) rfl
        have d2 : wr.cell? ⟨g2, o2 + k * 2 + 1, none⟩ = some (.int .i64 r.2) := hc2 k 1 r _ hr (by decide) rfl
        have hlq' : (k : Int) < (qs.length : Int) := by omega
        clear hc hc2
        have HTK := hide (take_twoP HT.out hp hr)
        have hqq : ∀ n, Q w (wr.drewN n) := fun n => hq.drewN n
        clear ha hb HT hp hr
        obtain ⟨b1, l1⟩ := p
        obtain ⟨b2, l2⟩ := r
        simp only at c1 c2 d1 d2
        by_cases hpr : b1 = b2 ∧ l1 = l2
        · obtain ⟨rfl, rfl⟩ := hpr
          have HN := hide ((unhide HTK).1 rfl)
          have e1 : (b1 == b1) = true := by simp
          have e2 : ((l1 : Int) == (l1 : Int)) = true := by simp
          clear HTK
          go_wp2_with fail
          go_quiet (fail)
          go_wp2_with fail
          go_roundw
          case rel => exact ⟨k + 1, by omega, by go_num, HN, hqq _⟩
          case measure => simp [intOf]; omega
        · have HF : Hid (decide (ps = qs) = false) := decide_eq_false ((unhide HTK).2 (by simpa using hpr))
          rcases (by by_cases h : b1 = b2; exact Or.inr ⟨h, fun h2 => hpr ⟨h, h2⟩⟩; exact Or.inl h : b1 ≠ b2 ∨ (b1 = b2 ∧ l1 ≠ l2)) with h | ⟨h, h2⟩
          · have e1 : (b1 == b2) = false := beq_eq_false_iff_ne.2 h
            clear HTK hpr h
            go_wp2_with fail
            go_quiet (fail)
            go_wp2_with fail
            go_ret
            exact ⟨ret_bool HF.out.symm, hqq _⟩
          · have e1 : (b1 == b2) = true := beq_iff_eq.2 h
            have e2 : ((l1 : Int) == (l2 : Int)) = false := beq_eq_false_iff_ne.2 (by omega)
            clear HTK hpr h h2
            go_wp2_with fail
            go_quiet (fail)
            go_wp2_with fail
            go_ret
            exact ⟨ret_bool HF.out.symm, hqq _⟩
      · have HF : Hid (decide (ps = qs) = true) := by
          have h1 := HT.out
          rw [List.take_of_length_le (by omega), List.take_of_length_le (by have := unhide HL; omega)] at h1
          exact decide_eq_true h1
        clear HT
        go_wp2_with fail
        go_ret
        exact ⟨ret_bool HF.out.symm, hq⟩
  · have HF : Hid (decide (ps = qs) = false) := decide_eq_false (fun h => hl (by rw [h]))
    have hl' : ((ps.length : Int) == (qs.length : Int)) = false := beq_eq_false_iff_ne.2 (by omega)
    have hl2 : ((ps.length : Int) != (qs.length : Int)) = true := by unfold bne; rw [hl']; rfl
    clear hl
    go_enter Tryz.func13, Tryz.ntmps13
    go_wp2_with fail
    go_ret
    exact ⟨ret_bool HF.out.symm, Q.refl _⟩


/-- Edges in memory, to be read. -/
structure EdRd (w : World) (x : EdA) : Prop where
  a : RowT w x.2.1.1 x.1.1
  b : RowT w x.2.2.1.1 x.1.2.1
  c : RowT w x.2.2.2.1.1 x.1.2.2.1
  d : RowT w x.2.2.2.2.1 x.1.2.2.2.1
theorem EdR.rd {w : World} {B : Nat} {x : EdA} (h : EdR w B x) : EdRd w x := ⟨h.a.row, h.b.row, h.c.row, h.d.row⟩
theorem EdRd.q {w w' : World} {x : EdA} (h : EdRd w x) (q : Q w w') : EdRd w' x := ⟨h.a.q q, h.b.q q, h.c.q q, h.d.q q⟩

/-- Two edges, boxed. -/
def bxE (w : World) (x y : EdA) : World := (w.alloc (.cells (ev x).toArray 36)).alloc (.cells (ev y).toArray 36)
theorem bxE_facts (w : World) (x y : EdA) : Blk (bxE w x y) w.heap.size (ev x).toArray 36 ∧ Blk (bxE w x y) (w.heap.size + 1) (ev y).toArray 36 ∧ Q w (bxE w x y) := by
  refine ⟨(Blk.new w _ _).q ((Q.refl _).alloc _), ?_, ((Q.refl w).alloc _).alloc _⟩
  have := Blk.new (w.alloc (.cells (ev x).toArray 36)) (ev y).toArray 36
  rwa [size_alloc] at this

set_option maxHeartbeats 4000000 in
theorem sameE_any (x y : EdA) (w : World) (hx : EdRd w x) (hy : EdRd w y) (l1 : x.1.1.length ≤ 4096) (l2 : x.1.2.1.length ≤ 4096) (l3 : x.1.2.2.1.length ≤ 4096) (l4 : x.1.2.2.2.1.length ≤ 4096) :
    Calls Tryz.prog 12 #[.agg #[.slice x.2.1.1 x.1.1.length x.2.1.2, .slice x.2.2.1.1 x.1.2.1.length x.2.2.1.2, .slice x.2.2.2.1.1 x.1.2.2.1.length x.2.2.2.1.2, .slice x.2.2.2.2.1 x.1.2.2.2.1.length x.2.2.2.2.2, .string ⟨x.1.2.2.2.2.1.toArray⟩, .bool x.1.2.2.2.2.2.1, .string ⟨x.1.2.2.2.2.2.2.toArray⟩], .agg #[.slice y.2.1.1 y.1.1.length y.2.1.2, .slice y.2.2.1.1 y.1.2.1.length y.2.2.1.2, .slice y.2.2.2.1.1 y.1.2.2.1.length y.2.2.2.1.2, .slice y.2.2.2.2.1 y.1.2.2.2.1.length y.2.2.2.2.2, .string ⟨y.1.2.2.2.2.1.toArray⟩, .bool y.1.2.2.2.2.2.1, .string ⟨y.1.2.2.2.2.2.2.toArray⟩]] w fun e w' => e = .returned (.bool (eqEd x.1 y.1)) ∧ Q w w' := by
  have S0 := hide (fun w2 (q : Q w w2) => sameT_any x.2.1.1 y.2.1.1 x.2.1.2 y.2.1.2 x.1.1 y.1.1 w2 (hx.a.q q) (hy.a.q q) (by omega))
  have S1 := hide (fun w2 (q : Q w w2) => sameT_any x.2.2.1.1 y.2.2.1.1 x.2.2.1.2 y.2.2.1.2 x.1.2.1 y.1.2.1 w2 (hx.b.q q) (hy.b.q q) (by omega))
  have S2 := hide (fun w2 (q : Q w w2) => sameT_any x.2.2.2.1.1 y.2.2.2.1.1 x.2.2.2.1.2 y.2.2.2.1.2 x.1.2.2.1 y.1.2.2.1 w2 (hx.c.q q) (hy.c.q q) (by omega))
  have S3 := hide (fun w2 (q : Q w w2) => sameT_any x.2.2.2.2.1 y.2.2.2.2.1 x.2.2.2.2.2 y.2.2.2.2.2 x.1.2.2.2.1 y.1.2.2.2.1 w2 (hx.d.q q) (hy.d.q q) (by omega))
  obtain ⟨b1, b2, qb⟩ := bxE_facts w x y
  have HB1 := hide (fun w2 (q : Q (bxE w x y) w2) => b1.q q)
  have HB2 := hide (fun w2 (q : Q (bxE w x y) w2) => b2.q q)
  clear b1 b2 hx hy
  go_enter Tryz.func12, Tryz.ntmps12
  go_wp2_with fail
  change Calls _ _ _ (bxE w x y) _
  generalize bxE w x y = wb at *
  generalize hG : w.heap.size = G at HB1 HB2 ⊢
  clear hG
  by_cases h1 : x.1.1 = y.1.1
  case neg =>
    have HF : Hid (eqEd x.1 y.1 = false) := by show _ = _; unfold eqEd; rw [decide_eq_false h1]; simp
    have HC := hide (unhide S0 _ qb)
    rw [decide_eq_false h1] at HC
    clear h1
    refine (unhide HC).mono ?_
    rintro e w9 ⟨rfl, q9⟩
    go_wp2_with fail
    go_ret
    exact ⟨ret_bool HF.out.symm, qb.trans q9⟩
  case pos =>
    have HC1 := hide (unhide S0 _ qb)
    rw [decide_eq_true h1] at HC1
    have H1 := hide h1
    clear h1
    refine (unhide HC1).mono ?_
    rintro e w1 ⟨rfl, q1⟩
    have qq1 := qb.trans q1
    have qw1 : Q wb w1 := q1
    have c1a : w1.cell? ⟨G, 1, none⟩ = some (.slice x.2.2.1.1 x.1.2.1.length x.2.2.1.2) := (unhide HB1 _ qw1).cell 1 rfl
    have c1b : w1.cell? ⟨G + 1, 1, none⟩ = some (.slice y.2.2.1.1 y.1.2.1.length y.2.2.1.2) := (unhide HB2 _ qw1).cell 1 rfl
    by_cases h2 : x.1.2.1 = y.1.2.1
    case neg =>
      have HF : Hid (eqEd x.1 y.1 = false) := by show _ = _; unfold eqEd; rw [decide_eq_false h2]; simp
      have HC := hide (unhide S1 _ qq1)
      rw [decide_eq_false h2] at HC
      clear h2
      go_wp2_with fail
      refine (unhide HC).mono ?_
      rintro e w9 ⟨rfl, q9⟩
      go_wp2_with fail
      go_ret
      exact ⟨ret_bool HF.out.symm, qq1.trans q9⟩
    case pos =>
      have HC2 := hide (unhide S1 _ qq1)
      rw [decide_eq_true h2] at HC2
      have H2 := hide h2
      clear h2
      go_wp2_with fail
      refine (unhide HC2).mono ?_
      rintro e w2 ⟨rfl, q2⟩
      have qq2 := qq1.trans q2
      have qw2 : Q wb w2 := qw1.trans q2
      have c2a : w2.cell? ⟨G, 2, none⟩ = some (.slice x.2.2.2.1.1 x.1.2.2.1.length x.2.2.2.1.2) := (unhide HB1 _ qw2).cell 2 rfl
      have c2b : w2.cell? ⟨G + 1, 2, none⟩ = some (.slice y.2.2.2.1.1 y.1.2.2.1.length y.2.2.2.1.2) := (unhide HB2 _ qw2).cell 2 rfl
      by_cases h3 : x.1.2.2.1 = y.1.2.2.1
      case neg =>
        have HF : Hid (eqEd x.1 y.1 = false) := by show _ = _; unfold eqEd; rw [decide_eq_false h3]; simp
        have HC := hide (unhide S2 _ qq2)
        rw [decide_eq_false h3] at HC
        clear h3
        go_wp2_with fail
        refine (unhide HC).mono ?_
        rintro e w9 ⟨rfl, q9⟩
        go_wp2_with fail
        go_ret
        exact ⟨ret_bool HF.out.symm, qq2.trans q9⟩
      case pos =>
        have HC3 := hide (unhide S2 _ qq2)
        rw [decide_eq_true h3] at HC3
        have H3 := hide h3
        clear h3
        go_wp2_with fail
        refine (unhide HC3).mono ?_
        rintro e w3 ⟨rfl, q3⟩
        have qq3 := qq2.trans q3
        have qw3 : Q wb w3 := qw2.trans q3
        have c3a : w3.cell? ⟨G, 3, none⟩ = some (.slice x.2.2.2.2.1 x.1.2.2.2.1.length x.2.2.2.2.2) := (unhide HB1 _ qw3).cell 3 rfl
        have c3b : w3.cell? ⟨G + 1, 3, none⟩ = some (.slice y.2.2.2.2.1 y.1.2.2.2.1.length y.2.2.2.2.2) := (unhide HB2 _ qw3).cell 3 rfl
        by_cases h4 : x.1.2.2.2.1 = y.1.2.2.2.1
        case neg =>
          have HF : Hid (eqEd x.1 y.1 = false) := by show _ = _; unfold eqEd; rw [decide_eq_false h4]; simp
          have HC := hide (unhide S3 _ qq3)
          rw [decide_eq_false h4] at HC
          clear h4
          go_wp2_with fail
          refine (unhide HC).mono ?_
          rintro e w9 ⟨rfl, q9⟩
          go_wp2_with fail
          go_ret
          exact ⟨ret_bool HF.out.symm, qq3.trans q9⟩
        case pos =>
          have HC4 := hide (unhide S3 _ qq3)
          rw [decide_eq_true h4] at HC4
          have H4 := hide h4
          clear h4
          go_wp2_with fail
          refine (unhide HC4).mono ?_
          rintro e w4 ⟨rfl, q4⟩
          have qq4 := qq3.trans q4
          have qw4 : Q wb w4 := qw3.trans q4
          have d4a : w4.cell? ⟨G, 4, none⟩ = some (.string ⟨x.1.2.2.2.2.1.toArray⟩) := (unhide HB1 _ qw4).cell 4 rfl
          have d4b : w4.cell? ⟨G + 1, 4, none⟩ = some (.string ⟨y.1.2.2.2.2.1.toArray⟩) := (unhide HB2 _ qw4).cell 4 rfl
          have d5a : w4.cell? ⟨G, 5, none⟩ = some (.bool x.1.2.2.2.2.2.1) := (unhide HB1 _ qw4).cell 5 rfl
          have d5b : w4.cell? ⟨G + 1, 5, none⟩ = some (.bool y.1.2.2.2.2.2.1) := (unhide HB2 _ qw4).cell 5 rfl
          have d6a : w4.cell? ⟨G, 6, none⟩ = some (.string ⟨x.1.2.2.2.2.2.2.toArray⟩) := (unhide HB1 _ qw4).cell 6 rfl
          have d6b : w4.cell? ⟨G + 1, 6, none⟩ = some (.string ⟨y.1.2.2.2.2.2.2.toArray⟩) := (unhide HB2 _ qw4).cell 6 rfl
          have HD : Hid (eqEd x.1 y.1 = (x.1.2.2.2.2.1 == y.1.2.2.2.2.1 && (x.1.2.2.2.2.2.1 == y.1.2.2.2.2.2.1 && x.1.2.2.2.2.2.2 == y.1.2.2.2.2.2.2))) := by
            show _ = _
            unfold eqEd; rw [decide_eq_true (unhide H1), decide_eq_true (unhide H2), decide_eq_true (unhide H3), decide_eq_true (unhide H4)]; rfl
          cases g1 : (x.1.2.2.2.2.1 == y.1.2.2.2.2.1)
          all_goals cases g2 : (x.1.2.2.2.2.2.1 == y.1.2.2.2.2.2.1)
          all_goals cases g3 : (x.1.2.2.2.2.2.2 == y.1.2.2.2.2.2.2)
          all_goals
            have HE := hide HD.out
            rw [g1, g2, g3] at HE
            go_wp2_with fail
            go_ret
            exact ⟨ret_bool (unhide HE).symm, qq4⟩

end Go.Proofs.YtgfegbeickaknabGreatDoor
