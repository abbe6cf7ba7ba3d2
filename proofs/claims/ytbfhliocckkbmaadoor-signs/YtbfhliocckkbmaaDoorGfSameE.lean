/- What the statements' own SameEdge answers; the conditions: the edges lie in memory. -/
import Derived.Test.YtbfhliocckkbmaaDoorGfBase
import Derived.Test.YtbfhliocckkbmaaDoorMfEq
import Derived.Test.YtbfhliocckkbmaaDoorGfSameT
namespace Go.Proofs.YtbfhliocckkbmaaDoor
open Go.RowKit

/-- Two edges, boxed. -/
def bxE (w : World) (x y : EdA) : World := (w.alloc (.cells (ev x).toArray 24)).alloc (.cells (ev y).toArray 24)
theorem bxE_facts (w : World) (x y : EdA) : Blk (bxE w x y) w.heap.size (ev x).toArray 24 ∧ Blk (bxE w x y) (w.heap.size + 1) (ev y).toArray 24 ∧ Q w (bxE w x y) := by
  refine ⟨(Blk.new w _ _).q ((Q.refl _).alloc _), ?_, ((Q.refl w).alloc _).alloc _⟩
  have := Blk.new (w.alloc (.cells (ev x).toArray 24)) (ev y).toArray 24
  rwa [size_alloc] at this

set_option maxHeartbeats 4000000 in
theorem sameE_any (x y : EdA) (w : World) (hx : EdRd w x) (hy : EdRd w y) (l1 : x.1.1.length ≤ 140737488355328) (l2 : x.1.2.1.length ≤ 140737488355328) (l3 : x.1.2.2.1.length ≤ 140737488355328) (l4 : x.1.2.2.2.1.length ≤ 140737488355328) :
    Calls Tryd.prog 11 #[.agg #[.slice x.2.1.1 x.1.1.length x.2.1.2, .slice x.2.2.1.1 x.1.2.1.length x.2.2.1.2, .slice x.2.2.2.1.1 x.1.2.2.1.length x.2.2.2.1.2, .slice x.2.2.2.2.1 x.1.2.2.2.1.length x.2.2.2.2.2, .string ⟨x.1.2.2.2.2.1.toArray⟩, .bool x.1.2.2.2.2.2.1, .string ⟨x.1.2.2.2.2.2.2.toArray⟩], .agg #[.slice y.2.1.1 y.1.1.length y.2.1.2, .slice y.2.2.1.1 y.1.2.1.length y.2.2.1.2, .slice y.2.2.2.1.1 y.1.2.2.1.length y.2.2.2.1.2, .slice y.2.2.2.2.1 y.1.2.2.2.1.length y.2.2.2.2.2, .string ⟨y.1.2.2.2.2.1.toArray⟩, .bool y.1.2.2.2.2.2.1, .string ⟨y.1.2.2.2.2.2.2.toArray⟩]] w fun e w' => e = .returned (.bool (eqEd x.1 y.1)) ∧ Q w w' := by
  have S0 := hide (fun w2 (q : Q w w2) => sameT_any x.2.1.1 y.2.1.1 x.2.1.2 y.2.1.2 x.1.1 y.1.1 w2 (hx.a.q q) (hy.a.q q) (by omega))
  have S1 := hide (fun w2 (q : Q w w2) => sameT_any x.2.2.1.1 y.2.2.1.1 x.2.2.1.2 y.2.2.1.2 x.1.2.1 y.1.2.1 w2 (hx.b.q q) (hy.b.q q) (by omega))
  have S2 := hide (fun w2 (q : Q w w2) => sameT_any x.2.2.2.1.1 y.2.2.2.1.1 x.2.2.2.1.2 y.2.2.2.1.2 x.1.2.2.1 y.1.2.2.1 w2 (hx.c.q q) (hy.c.q q) (by omega))
  have S3 := hide (fun w2 (q : Q w w2) => sameT_any x.2.2.2.2.1 y.2.2.2.2.1 x.2.2.2.2.2 y.2.2.2.2.2 x.1.2.2.2.1 y.1.2.2.2.1 w2 (hx.d.q q) (hy.d.q q) (by omega))
  obtain ⟨b1, b2, qb⟩ := bxE_facts w x y
  have HB1 := hide (fun w2 (q : Q (bxE w x y) w2) => b1.q q)
  have HB2 := hide (fun w2 (q : Q (bxE w x y) w2) => b2.q q)
  clear b1 b2 hx hy
  go_enter Tryd.func11, Tryd.ntmps11
  go_wp2_with fail
  change Calls _ _ _ (bxE w x y) _
  generalize bxE w x y = wb at *
  generalize hG : w.heap.size = G at HB1 HB2 ⊢
  clear hG
  by_cases h1 : x.1.1 = y.1.1
  case neg =>
    have HF : Hid (eqEd x.1 y.1 = false) := by show _ = _; unfold eqEd; rw [decide_eq_false h1]; simp
    have HC := hide (unhide S0 _ qb)
    rw [decide_eq_false h1] at HC
    clear h1
    refine (unhide HC).mono ?_
    rintro e w9 ⟨rfl, q9⟩
    go_wp2_with fail
    go_ret
    exact ⟨ret_bool HF.out.symm, qb.trans q9⟩
  case pos =>
    have HC1 := hide (unhide S0 _ qb)
    rw [decide_eq_true h1] at HC1
    have H1 := hide h1
    clear h1
    refine (unhide HC1).mono ?_
    rintro e w1 ⟨rfl, q1⟩
    have qq1 := qb.trans q1
    have qw1 : Q wb w1 := q1
    have c1a : w1.cell? ⟨G, 1, none⟩ = some (.slice x.2.2.1.1 x.1.2.1.length x.2.2.1.2) := (unhide HB1 _ qw1).cell 1 rfl
    have c1b : w1.cell? ⟨G + 1, 1, none⟩ = some (.slice y.2.2.1.1 y.1.2.1.length y.2.2.1.2) := (unhide HB2 _ qw1).cell 1 rfl
    by_cases h2 : x.1.2.1 = y.1.2.1
    case neg =>
      have HF : Hid (eqEd x.1 y.1 = false) := by show _ = _; unfold eqEd; rw [decide_eq_false h2]; simp
      have HC := hide (unhide S1 _ qq1)
      rw [decide_eq_false h2] at HC
      clear h2
      go_wp2_with fail
      refine (unhide HC).mono ?_
      rintro e w9 ⟨rfl, q9⟩
      go_wp2_with fail
      go_ret
      exact ⟨ret_bool HF.out.symm, qq1.trans q9⟩
    case pos =>
      have HC2 := hide (unhide S1 _ qq1)
      rw [decide_eq_true h2] at HC2
      have H2 := hide h2
      clear h2
      go_wp2_with fail
      refine (unhide HC2).mono ?_
      rintro e w2 ⟨rfl, q2⟩
      have qq2 := qq1.trans q2
      have qw2 : Q wb w2 := qw1.trans q2
      have c2a : w2.cell? ⟨G, 2, none⟩ = some (.slice x.2.2.2.1.1 x.1.2.2.1.length x.2.2.2.1.2) := (unhide HB1 _ qw2).cell 2 rfl
      have c2b : w2.cell? ⟨G + 1, 2, none⟩ = some (.slice y.2.2.2.1.1 y.1.2.2.1.length y.2.2.2.1.2) := (unhide HB2 _ qw2).cell 2 rfl
      by_cases h3 : x.1.2.2.1 = y.1.2.2.1
      case neg =>
        have HF : Hid (eqEd x.1 y.1 = false) := by show _ = _; unfold eqEd; rw [decide_eq_false h3]; simp
        have HC := hide (unhide S2 _ qq2)
        rw [decide_eq_false h3] at HC
        clear h3
        go_wp2_with fail
        refine (unhide HC).mono ?_
        rintro e w9 ⟨rfl, q9⟩
        go_wp2_with fail
        go_ret
        exact ⟨ret_bool HF.out.symm, qq2.trans q9⟩
      case pos =>
        have HC3 := hide (unhide S2 _ qq2)
        rw [decide_eq_true h3] at HC3
        have H3 := hide h3
        clear h3
        go_wp2_with fail
        refine (unhide HC3).mono ?_
        rintro e w3 ⟨rfl, q3⟩
        have qq3 := qq2.trans q3
        have qw3 : Q wb w3 := qw2.trans q3
        have c3a : w3.cell? ⟨G, 3, none⟩ = some (.slice x.2.2.2.2.1 x.1.2.2.2.1.length x.2.2.2.2.2) := (unhide HB1 _ qw3).cell 3 rfl
        have c3b : w3.cell? ⟨G + 1, 3, none⟩ = some (.slice y.2.2.2.2.1 y.1.2.2.2.1.length y.2.2.2.2.2) := (unhide HB2 _ qw3).cell 3 rfl
        by_cases h4 : x.1.2.2.2.1 = y.1.2.2.2.1
        case neg =>
          have HF : Hid (eqEd x.1 y.1 = false) := by show _ = _; unfold eqEd; rw [decide_eq_false h4]; simp
          have HC := hide (unhide S3 _ qq3)
          rw [decide_eq_false h4] at HC
          clear h4
          go_wp2_with fail
          refine (unhide HC).mono ?_
          rintro e w9 ⟨rfl, q9⟩
          go_wp2_with fail
          go_ret
          exact ⟨ret_bool HF.out.symm, qq3.trans q9⟩
        case pos =>
          have HC4 := hide (unhide S3 _ qq3)
          rw [decide_eq_true h4] at HC4
          have H4 := hide h4
          clear h4
          go_wp2_with fail
          refine (unhide HC4).mono ?_
          rintro e w4 ⟨rfl, q4⟩
          have qq4 := qq3.trans q4
          have qw4 : Q wb w4 := qw3.trans q4
          have d4a : w4.cell? ⟨G, 4, none⟩ = some (.string ⟨x.1.2.2.2.2.1.toArray⟩) := (unhide HB1 _ qw4).cell 4 rfl
          have d4b : w4.cell? ⟨G + 1, 4, none⟩ = some (.string ⟨y.1.2.2.2.2.1.toArray⟩) := (unhide HB2 _ qw4).cell 4 rfl
          have d5a : w4.cell? ⟨G, 5, none⟩ = some (.bool x.1.2.2.2.2.2.1) := (unhide HB1 _ qw4).cell 5 rfl
          have d5b : w4.cell? ⟨G + 1, 5, none⟩ = some (.bool y.1.2.2.2.2.2.1) := (unhide HB2 _ qw4).cell 5 rfl
          have d6a : w4.cell? ⟨G, 6, none⟩ = some (.string ⟨x.1.2.2.2.2.2.2.toArray⟩) := (unhide HB1 _ qw4).cell 6 rfl
          have d6b : w4.cell? ⟨G + 1, 6, none⟩ = some (.string ⟨y.1.2.2.2.2.2.2.toArray⟩) := (unhide HB2 _ qw4).cell 6 rfl
          have HD : Hid (eqEd x.1 y.1 = (x.1.2.2.2.2.1 == y.1.2.2.2.2.1 && (x.1.2.2.2.2.2.1 == y.1.2.2.2.2.2.1 && x.1.2.2.2.2.2.2 == y.1.2.2.2.2.2.2))) := by
            show _ = _
            unfold eqEd; rw [decide_eq_true (unhide H1), decide_eq_true (unhide H2), decide_eq_true (unhide H3), decide_eq_true (unhide H4)]; rfl
          cases g1 : (x.1.2.2.2.2.1 == y.1.2.2.2.2.1)
          all_goals cases g2 : (x.1.2.2.2.2.2.1 == y.1.2.2.2.2.2.1)
          all_goals cases g3 : (x.1.2.2.2.2.2.2 == y.1.2.2.2.2.2.2)
          all_goals
            have HE := hide HD.out
            rw [g1, g2, g3] at HE
            go_wp2_with fail
            go_ret
            exact ⟨ret_bool (unhide HE).symm, qq4⟩

theorem box2 (w : World) (cs ds : Array Value) (t : TypeId) : Blk ((w.alloc (.cells cs t)).alloc (.cells ds t)) w.heap.size cs t ∧ Blk ((w.alloc (.cells cs t)).alloc (.cells ds t)) (w.heap.size + 1) ds t ∧ Q w ((w.alloc (.cells cs t)).alloc (.cells ds t)) := by
  refine ⟨(Blk.new w _ _).q ((Q.refl _).alloc _), ?_, ((Q.refl w).alloc _).alloc _⟩
  have := Blk.new (w.alloc (.cells cs t)) ds t
  rwa [size_alloc] at this
theorem take_twoE {ps qs : List EdA} {k : Nat} {p r : EdA} (ht : (ps.take k).map Prod.fst = (qs.take k).map Prod.fst) (hp : ps[k]? = some p) (hr : qs[k]? = some r) : (eqEd p.1 r.1 = true → (ps.take (k + 1)).map Prod.fst = (qs.take (k + 1)).map Prod.fst) ∧ (eqEd p.1 r.1 = false → ps.map Prod.fst ≠ qs.map Prod.fst) := by
  refine ⟨fun h => ?_, fun h e => ?_⟩
  · rw [List.take_add_one, List.take_add_one, List.map_append, List.map_append, ht, hp, hr]
    show _ ++ [p.1] = _ ++ [r.1]
    rw [(eqEd_iff _ _).1 h]
  · have h1 : (ps.map Prod.fst)[k]? = some p.1 := by rw [List.getElem?_map, hp]; rfl
    have h2 : (qs.map Prod.fst)[k]? = some r.1 := by rw [List.getElem?_map, hr]; rfl
    rw [e, h2] at h1
    have := (eqEd_iff p.1 r.1).2 (Option.some.inj h1).symm
    rw [h] at this; cases this

end Go.Proofs.YtbfhliocckkbmaaDoor
