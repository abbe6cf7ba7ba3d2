/- What the statements' own SameGraph answers; the conditions: the graphs lie in memory. -/
import Derived.Test.YtpddckgkaopnlaaGreatDoorBnMfSame
namespace Go.Proofs.YtpddckgkaopnlaaGreatDoor
open Go.RowKit

/-- A graph in memory, to be read. -/
structure GrR (w : World) (g : Gr) (es : List EdA) (eo po dd : Option Addr) : Prop where
  e : RowG ev 7 w eo es
  em : es.map Prod.fst = g.1
  p : RowP w po g.2.1
  d : RowT w dd g.2.2
  q : ∀ x ∈ es, EdRd w x
  l : ∀ x ∈ es, x.1.1.length ≤ 4096 ∧ x.1.2.1.length ≤ 4096 ∧ x.1.2.2.1.length ≤ 4096 ∧ x.1.2.2.2.1.length ≤ 4096
  le : es.length ≤ 4096
  lp : g.2.1.length ≤ 4096
  ld : g.2.2.length ≤ 4096
theorem GrR.q' {w w' : World} {g : Gr} {es : List EdA} {eo po dd : Option Addr} (h : GrR w g es eo po dd) (q : Q w w') : GrR w' g es eo po dd :=
  ⟨h.e.q q, h.em, h.p.q q, h.d.q q, fun x hx => (h.q x hx).q q, h.l, h.le, h.lp, h.ld⟩

set_option maxHeartbeats 4000000 in
theorem sameG_any (g h : Gr) (es fs : List EdA) (eo po dd fo qo ddd : Option Addr) (ec pc dc fc qc ddc : Nat) (w : World) (hg : GrR w g es eo po dd) (hh : GrR w h fs fo qo ddd) :
    Calls Tryz.prog 6 #[.agg #[.slice eo es.length ec, .slice po g.2.1.length pc, .slice dd g.2.2.length dc], .agg #[.slice fo fs.length fc, .slice qo h.2.1.length qc, .slice ddd h.2.2.length ddc]] w fun e w' => e = .returned (.bool (eqGr g h)) ∧ Q w w' := by
  have HG := hide hg
  have HH := hide hh
  have hle := hg.le
  clear hg hh
  by_cases hl : es.length = fs.length
  · have hl' : ((es.length : Int) == (fs.length : Int)) = true := by simp [hl]
    have hl2 : ((es.length : Int) != (fs.length : Int)) = false := by simp [hl]
    have HL := hide hl
    clear hl
    go_enter Tryz.func6, Tryz.ntmps6
    go_wp2_with fail
    obtain ⟨b1, b2, qb⟩ := box2 w #[.slice eo es.length ec, .slice po g.2.1.length pc, .slice dd g.2.2.length dc] #[.slice fo fs.length fc, .slice qo h.2.1.length qc, .slice ddd h.2.2.length ddc] 26
    generalize hX : w.heap.size = X at b1 b2 ⊢
    clear hX
    generalize (w.alloc (.cells #[.slice eo es.length ec, .slice po g.2.1.length pc, .slice dd g.2.2.length dc] 26)).alloc (.cells #[.slice fo fs.length fc, .slice qo h.2.1.length qc, .slice ddd h.2.2.length ddc] 26) = wb at *
    have HB1 := hide b1
    have HB2 := hide b2
    clear b1 b2
    go_loopw [5] (fun i wr => ∃ k : Nat, k ≤ es.length ∧ i = .int .i64 k ∧ Hid ((es.take k).map Prod.fst = (fs.take k).map Prod.fst) ∧ Q wb wr) (fun i _ => es.length - (intOf i).toNat)
    case atStart => exact ⟨0, Nat.zero_le _, rfl, by show _ = _; simp, Q.refl _⟩
    case round =>
      obtain ⟨k, hk, rfl, HT, hq⟩ := hrel
      have x0 : wr.cell? ⟨X, 0, none⟩ = some (.slice eo es.length ec) := ((unhide HB1).q hq).cell 0 rfl
      by_cases hlt : k < es.length
      · have hlq : k < fs.length := by have := unhide HL; omega
        rcases ((unhide HG).q' (qb.trans hq)).e with he | ⟨gg, oo1, rfl, hcg, hcc⟩
        · rw [he] at hlt; simp at hlt
        rcases ((unhide HH).q' (qb.trans hq)).e with he | ⟨g2, o2, rfl, hdg, hdc⟩
        · rw [he] at hlq; simp at hlq
        obtain ⟨p, hp⟩ : ∃ p, es[k]? = some p := ⟨es[k], List.getElem?_eq_getElem hlt⟩
        obtain ⟨r, hr⟩ : ∃ r, fs[k]? = some r := ⟨fs[k], List.getElem?_eq_getElem hlq⟩
        have c0 : ∀ u : Aft wr, u.to.cell? ⟨gg, oo1 + k * 7, none⟩ = some (.slice p.2.1.1 p.1.1.length p.2.1.2) := Aft.cell (hcc k 0 p _ hp (by decide) rfl) hcg
        have c1 : ∀ u : Aft wr, u.to.cell? ⟨gg, oo1 + k * 7 + 1, none⟩ = some (.slice p.2.2.1.1 p.1.2.1.length p.2.2.1.2) := Aft.cell (hcc k 1 p _ hp (by decide) rfl) hcg
        have c2 : ∀ u : Aft wr, u.to.cell? ⟨gg, oo1 + k * 7 + 2, none⟩ = some (.slice p.2.2.2.1.1 p.1.2.2.1.length p.2.2.2.1.2) := Aft.cell (hcc k 2 p _ hp (by decide) rfl) hcg
        have c3 : ∀ u : Aft wr, u.to.cell? ⟨gg, oo1 + k * 7 + 3, none⟩ = some (.slice p.2.2.2.2.1 p.1.2.2.2.1.length p.2.2.2.2.2) := Aft.cell (hcc k 3 p _ hp (by decide) rfl) hcg
        have c4 : ∀ u : Aft wr, u.to.cell? ⟨gg, oo1 + k * 7 + 4, none⟩ = some (.string ⟨p.1.2.2.2.2.1.toArray⟩) := Aft.cell (hcc k 4 p _ hp (by decide) rfl) hcg
        have c5 : ∀ u : Aft wr, u.to.cell? ⟨gg, oo1 + k * 7 + 5, none⟩ = some (.bool p.1.2.2.2.2.2.1) := Aft.cell (hcc k 5 p _ hp (by decide) rfl) hcg
        have c6 : ∀ u : Aft wr, u.to.cell? ⟨gg, oo1 + k * 7 + 6, none⟩ = some (.string ⟨p.1.2.2.2.2.2.2.toArray⟩) := Aft.cell (hcc k 6 p _ hp (by decide) rfl) hcg
        have d0 : ∀ u : Aft wr, u.to.cell? ⟨g2, o2 + k * 7, none⟩ = some (.slice r.2.1.1 r.1.1.length r.2.1.2) := Aft.cell (hdc k 0 r _ hr (by decide) rfl) hdg
        have d1 : ∀ u : Aft wr, u.to.cell? ⟨g2, o2 + k * 7 + 1, none⟩ = some (.slice r.2.2.1.1 r.1.2.1.length r.2.2.1.2) := Aft.cell (hdc k 1 r _ hr (by decide) rfl) hdg
        have d2 : ∀ u : Aft wr, u.to.cell? ⟨g2, o2 + k * 7 + 2, none⟩ = some (.slice r.2.2.2.1.1 r.1.2.2.1.length r.2.2.2.1.2) := Aft.cell (hdc k 2 r _ hr (by decide) rfl) hdg
        have d3 : ∀ u : Aft wr, u.to.cell? ⟨g2, o2 + k * 7 + 3, none⟩ = some (.slice r.2.2.2.2.1 r.1.2.2.2.1.length r.2.2.2.2.2) := Aft.cell (hdc k 3 r _ hr (by decide) rfl) hdg
        have d4 : ∀ u : Aft wr, u.to.cell? ⟨g2, o2 + k * 7 + 4, none⟩ = some (.string ⟨r.1.2.2.2.2.1.toArray⟩) := Aft.cell (hdc k 4 r _ hr (by decide) rfl) hdg
        have d5 : ∀ u : Aft wr, u.to.cell? ⟨g2, o2 + k * 7 + 5, none⟩ = some (.bool r.1.2.2.2.2.2.1) := Aft.cell (hdc k 5 r _ hr (by decide) rfl) hdg
        have d6 : ∀ u : Aft wr, u.to.cell? ⟨g2, o2 + k * 7 + 6, none⟩ = some (.string ⟨r.1.2.2.2.2.2.2.toArray⟩) := Aft.cell (hdc k 6 r _ hr (by decide) rfl) hdg
        have y0 : ∀ u : Aft wr, u.to.cell? ⟨X, 0, none⟩ = some (.slice (some ⟨gg, oo1, none⟩) es.length ec) := Aft.cell x0 ((unhide HB1).q hq).hi
        have y1 : ∀ u : Aft wr, u.to.cell? ⟨X + 1, 0, none⟩ = some (.slice (some ⟨g2, o2, none⟩) fs.length fc) := Aft.cell (((unhide HB2).q hq).cell 0 rfl) ((unhide HB2).q hq).hi
        obtain ⟨m1, m2, m3, m4⟩ := (unhide HG).l p (List.mem_of_getElem? hp)
        have HC := hide (fun u : Aft wr => sameE_any p r u.to (((unhide HG).q p (List.mem_of_getElem? hp)).q ((qb.trans hq).trans u.q)) (((unhide HH).q r (List.mem_of_getElem? hr)).q ((qb.trans hq).trans u.q)) (by omega) (by omega) (by omega) (by omega))
        have HTK := hide (take_twoE HT.out hp hr)
        have hne := Aft.ne wr
        have hlq' : (k : Int) < (fs.length : Int) := by omega
        clear hcc hdc hp hr m1 m2 m3 m4 HT
        cases hpr : eqEd p.1 r.1
        · have HF : Hid (eqGr g h = false) := by
            show _ = _
            cases hc : eqGr g h
            · rfl
            · have := (eqGr_iff g h).1 hc
              exact absurd (by rw [(unhide HG).em, (unhide HH).em, this]) ((unhide HTK).2 hpr)
          rw [hpr] at HC
          clear HTK hpr
          go_wp2_with fail
          refine wp_region_aft (by kernel_rfl) (by kernel_rfl) ?_
          repeat (go_big_quiet_step ((go_at_call 17; exact Calls.aft (unhide HC _))))
          refine wpQuiet_nil ?_
          intro _ hw'
          obtain ⟨u, hw''⟩ := hw'
          subst hw''
          have qu := u.q
          generalize u.to = w1 at qu ⊢
          clear c0 c1 c2 c3 c4 c5 c6 d0 d1 d2 d3 d4 d5 d6 y0 y1 hne
          go_wp2_with fail
          go_ret
          exact ⟨ret_bool HF.out.symm, (qb.trans hq).trans qu⟩
        · have HN := hide ((unhide HTK).1 hpr)
          rw [hpr] at HC
          clear HTK hpr
          go_wp2_with fail
          refine wp_region_aft (by kernel_rfl) (by kernel_rfl) ?_
          repeat (go_big_quiet_step ((go_at_call 17; exact Calls.aft (unhide HC _))))
          refine wpQuiet_nil ?_
          intro _ hw'
          obtain ⟨u, hw''⟩ := hw'
          subst hw''
          have qu := u.q
          generalize u.to = w1 at qu ⊢
          clear c0 c1 c2 c3 c4 c5 c6 d0 d1 d2 d3 d4 d5 d6 y0 y1 hne
          go_wp2_with fail
          go_roundw
          case rel => exact ⟨k + 1, by omega, by go_num, HN, hq.trans qu⟩
          case measure => simp [intOf]; omega
      · have HEE : Hid (eqEs g.1 h.1 = true) := by
          show _ = _
          rw [eqEs_iff, ← (unhide HG).em, ← (unhide HH).em]
          have := HT.out
          rw [List.take_of_length_le (by omega), List.take_of_length_le (by have := unhide HL; omega)] at this
          exact this
        have x1 : wr.cell? ⟨X, 1, none⟩ = some (.slice po g.2.1.length pc) := ((unhide HB1).q hq).cell 1 rfl
        have x2 : wr.cell? ⟨X + 1, 1, none⟩ = some (.slice qo h.2.1.length qc) := ((unhide HB2).q hq).cell 1 rfl
        have HP := hide (samePl_any po qo pc qc g.2.1 h.2.1 wr ((unhide HG).q' (qb.trans hq)).p ((unhide HH).q' (qb.trans hq)).p (unhide HG).lp)
        have HTX := hide (fun w2 (q : Q w w2) => sameT_any dd ddd dc ddc g.2.2 h.2.2 w2 ((unhide HG).q' q).d ((unhide HH).q' q).d (by have := (unhide HG).ld; omega))
        have HE : Hid (eqGr g h = (decide (g.2.1 = h.2.1) && decide (g.2.2 = h.2.2))) := by show _ = _; unfold eqGr; rw [HEE.out]; rfl
        clear HT HEE
        cases hp : decide (g.2.1 = h.2.1)
        · rw [hp] at HP HE
          clear hp
          go_wp2_with fail
          refine (unhide HP).mono ?_
          rintro e w2 ⟨rfl, q2⟩
          go_wp2_with fail
          go_ret
          exact ⟨ret_bool HE.out.symm, (qb.trans hq).trans q2⟩
        · rw [hp] at HP HE
          clear hp
          go_wp2_with fail
          refine (unhide HP).mono ?_
          rintro e w2 ⟨rfl, q2⟩
          have x3 : w2.cell? ⟨X, 2, none⟩ = some (.slice dd g.2.2.length dc) := ((unhide HB1).q (hq.trans q2)).cell 2 rfl
          have x4 : w2.cell? ⟨X + 1, 2, none⟩ = some (.slice ddd h.2.2.length ddc) := ((unhide HB2).q (hq.trans q2)).cell 2 rfl
          have q02 := (qb.trans hq).trans q2
          have HT2 := hide (unhide HTX w2 q02)
          generalize decide (g.2.2 = h.2.2) = bb at HT2 HE
          go_wp2_with fail
          refine (unhide HT2).mono ?_
          rintro e w3 ⟨rfl, q3⟩
          go_wp2_with fail
          go_ret
          exact ⟨ret_bool HE.out.symm, q02.trans q3⟩
  · have HF : Hid (eqGr g h = false) := by
      show _ = _
      cases hc : eqGr g h
      · rfl
      · have := (eqGr_iff g h).1 hc
        subst this
        have e1 := congrArg List.length (unhide HG).em
        have e2 := congrArg List.length (unhide HH).em
        rw [List.length_map] at e1 e2
        exact absurd (e1.trans e2.symm) hl
    have hl' : ((es.length : Int) == (fs.length : Int)) = false := beq_eq_false_iff_ne.2 (by omega)
    have hl2 : ((es.length : Int) != (fs.length : Int)) = true := by unfold bne; rw [hl']; rfl
    clear hl
    go_enter Tryz.func6, Tryz.ntmps6
    go_wp2_with fail
    go_ret
    exact ⟨ret_bool HF.out.symm, ((Q.refl w).alloc _).alloc _⟩

end Go.Proofs.YtpddckgkaopnlaaGreatDoor
