/- May a disk be, as the document's own DiskMay answers; the conditions: the files lie in memory, no name is longer than a string can be. -/
import Derived.Test.YtjalklmgdkhekaaDoorDkMay
import Derived.Test.YtjalklmgdkhekaaDoorBnAfQuiet
import Derived.Test.YtjalklmgdkhekaaDoorUpTo
namespace Go.Proofs.YtjalklmgdkhekaaDoor
open Go.RowKit

/-- The times ahead, one by one. -/
theorem tm_take {fs : List Fl} {f : Fl} {k : Nat} {g : Fl} (h : fs[k]? = some g) : tmB (fs.take (k + 1)) f = (tmB (fs.take k) f || (g.2.2 == f.2.2)) := by
  unfold tmB
  rw [List.take_add_one, h, List.any_append]; simp

set_option maxRecDepth 20000 in
set_option maxHeartbeats 8000000 in
theorem rdkMay_any (c : Int) (fs : List Fl) (ao : Option Addr) (cap : Nat) (w : World) (hr : RowK w ao fs) (hz : FlZ fs) (hs : fs.length ≤ cap) (hcap : cap ≤ maxLen) :
    Calls Tryd.prog 14 #[dkV c ao fs.length cap] w fun e w' => e = .returned (.bool (dkOk c fs)) ∧ Q w w' := by
  have hsm : fs.length ≤ maxLen := Nat.le_trans hs hcap
  unfold maxLen at hsm hcap
  have HB := hide (bxD_b w c ao fs.length cap)
  have HQ := hide (bxD_q w c ao fs.length cap)
  unfold dkV
  go_enter Tryd.func14, Tryd.ntmps14
  go_wp2_with fail
  change Code.wp _ _ _ _ (bxD w c ao fs.length cap)
  generalize bxD w c ao fs.length cap = wb at *
  go_loopw [3] (fun i wr => ∃ k : Nat, k ≤ fs.length ∧ i = .int .i64 k ∧ Hid (dkK c fs k = true) ∧ Hid (Q wb wr)) (fun i _ => fs.length - (intOf i).toNat)
  case atStart => exact ⟨0, Nat.zero_le _, rfl, rfl, Q.refl _⟩
  case round =>
    obtain ⟨k, hk, rfl, HA, hq⟩ := hrel
    have hqw := hide ((unhide HQ).trans (unhide hq))
    have hbx := (unhide HB).q (unhide hq)
    have x0 := hbx.cell 0 rfl
    have x1 := hbx.cell 1 rfl
    by_cases hlt : k < fs.length
    · rcases hr.q (unhide hqw) with he | ⟨g, o, rfl, hg, hcell⟩
      · rw [he] at hlt; simp at hlt
      obtain ⟨f, hf⟩ : ∃ f, fs[k]? = some f := ⟨fs[k], List.getElem?_eq_getElem hlt⟩
      have c0 : wr.cell? ⟨g, o + k * 3, none⟩ = some (.string ⟨f.1.toArray⟩) := hcell k 0 f _ hf (by decide) rfl
      have c1 : wr.cell? ⟨g, o + k * 3 + 1, none⟩ = some (.int .i64 f.2.1) := hcell k 1 f _ hf (by decide) rfl
      have c2 : wr.cell? ⟨g, o + k * 3 + 2, none⟩ = some (.int .i64 f.2.2) := hcell k 2 f _ hf (by decide) rfl
      have HPM := hide (fun w' => rpth_any ⟨f.1.toArray⟩ w' (by rw [mk_size']; exact hz f (List.mem_of_getElem? hf)))
      rw [show bl (⟨f.1.toArray⟩ : ByteArray) = f.1 from rfl] at HPM
      have HCT : Hid (∀ m gm, fs[m]? = some gm → ∀ w', Q wb w' → w'.cell? ⟨g, o + m * 3 + 2, none⟩ = some (.int .i64 gm.2.2)) := fun m gm hgm w' q => by
        rcases hr.q ((unhide HQ).trans q) with he | ⟨g', o', e, _, hc⟩
        · rw [he] at hgm; simp at hgm
        · cases e; exact hc m 2 gm _ hgm (by decide) rfl
      have HPV : Hid (∀ j gj, fs[j]? = some gj → ∀ w', Q wr w' → w'.cell? ⟨g, o + j * 3, none⟩ = some (.string ⟨gj.1.toArray⟩)) := fun j gj hgj w' q => (q.cell (p := ⟨g, o + j * 3, none⟩) hg).trans (hcell j 0 gj _ hgj (by decide) rfl)
      have HBAD := hide (fun (h : dkAt c fs k f = false) => dk_bad hf h)
      have HSUC := hide (dkK_succ (c := c) hf)
      have x1c := x1
      clear x1
      have hle : Hid (fs.length ≤ 1048576 → True) := fun _ => trivial
      clear hle
      obtain ⟨y1, x2, x3⟩ := f
      dsimp only at c0 c1 c2 HPM
      have HTX := hide (fun (gj : Fl) => lt_txt gj.1 y1)
      generalize hx1 : (⟨y1.toArray⟩ : ByteArray) = x1 at c0 c1 c2 HPM HTX
      clear hx1
      have hqn : Q wr (wr.alloc (.cells #[.string x1, .int .i64 x2, .int .i64 x3] 34)) := (Q.refl wr).alloc _
      have hnb : Blk (wr.alloc (.cells #[.string x1, .int .i64 x2, .int .i64 x3] 34)) wr.heap.size #[.string x1, .int .i64 x2, .int .i64 x3] 34 := Blk.new wr _ _
      have a0 : ∀ u : Aft (wr.alloc (.cells #[.string x1, .int .i64 x2, .int .i64 x3] 34)), u.to.cell? ⟨wr.heap.size, 0, none⟩ = some (.string x1) := fun u => (hnb.q u.q).cell 0 rfl
      have a1 : ∀ u : Aft (wr.alloc (.cells #[.string x1, .int .i64 x2, .int .i64 x3] 34)), u.to.cell? ⟨wr.heap.size, 1, none⟩ = some (.int .i64 x2) := fun u => (hnb.q u.q).cell 1 rfl
      have a2 : ∀ u : Aft (wr.alloc (.cells #[.string x1, .int .i64 x2, .int .i64 x3] 34)), u.to.cell? ⟨wr.heap.size, 2, none⟩ = some (.int .i64 x3) := fun u => (hnb.q u.q).cell 2 rfl
      have a3 : ∀ u : Aft (wr.alloc (.cells #[.string x1, .int .i64 x2, .int .i64 x3] 34)), u.to.cell? ⟨w.heap.size, 0, none⟩ = some (.int .i64 c) := fun u => ((hbx.q hqn).q u.q).cell 0 rfl
      have a4 : ∀ u : Aft (wr.alloc (.cells #[.string x1, .int .i64 x2, .int .i64 x3] 34)), u.to.cell? ⟨w.heap.size, 1, none⟩ = some (.slice (some ⟨g, o, none⟩) fs.length cap) := fun u => ((hbx.q hqn).q u.q).cell 1 rfl
      have HF0 : Hid (∀ u : Aft (wr.alloc (.cells #[.string x1, .int .i64 x2, .int .i64 x3] 34)), ∀ w', Q u.to w' → w'.cell? ⟨wr.heap.size, 2, none⟩ = some (.int .i64 x3)) := fun u w' q => ((hnb.q u.q).q q).cell 2 rfl
      have hne := Aft.ne (wr.alloc (.cells #[.string x1, .int .i64 x2, .int .i64 x3] 34))
      have HPU : Hid (∀ j gj, fs[j]? = some gj → ∀ u : Aft (wr.alloc (.cells #[.string x1, .int .i64 x2, .int .i64 x3] 34)), u.to.cell? ⟨g, o + j * 3, none⟩ = some (.string ⟨gj.1.toArray⟩)) := fun j gj hgj u => unhide HPV j gj hgj _ (hqn.trans u.q)
      have k0 : (0 : Int) ≤ (k : Int) := Int.natCast_nonneg _
      have k1 : (k : Int) < (fs.length : Int) := by omega
      have HHF := hide hf
      clear hcell hf hr hz hbx hqn hnb HPV
      cases hv1 : pthB y1
      · have HO : Hid (dkOk c fs = false) := unhide HBAD (dkAt_fl (by unfold flOk; rw [hv1]; rfl))
        rw [hv1] at HPM
        clear hv1 HBAD HSUC HA
        go_wp2_with fail
        refine wp_region_aft (by kernel_rfl) (by kernel_rfl) ?_
        repeat (go_big_quiet_step (first | (go_at_call 23; exact Calls.aft (unhide HPM _))))
        refine wpQuiet_nil ?_
        intro _ hw'
        obtain ⟨u, hw''⟩ := hw'
        subst hw''
        have qu := hide (((unhide hq).trans ((Q.refl wr).alloc (.cells #[.string x1, .int .i64 x2, .int .i64 x3] 34))).trans u.q)
        generalize hu : u.to = w1 at qu ⊢
        clear hu
        clear a0 a1 a2 a3 a4 hne
        go_wp2_with fail
        go_ret
        exact ⟨ret_bool (unhide HO).symm, (unhide HQ).trans (unhide qu)⟩
      cases hv2 : coOk x2
      · have HO : Hid (dkOk c fs = false) := unhide HBAD (dkAt_fl (by unfold flOk; rw [hv1, hv2]; rfl))
        have HU2 : Hid ((decide (0 ≤ x2) && decide (x2 ≤ 2147483647)) = false) := hv2
        rw [hv1] at HPM
        clear hv1 hv2 HBAD HSUC HA
        go_wp2_with fail
        refine wp_region_aft (by kernel_rfl) (by kernel_rfl) ?_
        repeat (go_big_quiet_step (first | (go_at_call 23; exact Calls.aft (unhide HPM _)) | (go_at_call_of 24 (Value.int .i64 x2); exact Calls.aft (upTo_lit x2 0 2147483647 _ (unhide HU2)))))
        refine wpQuiet_nil ?_
        intro _ hw'
        obtain ⟨u, hw''⟩ := hw'
        subst hw''
        have qu := hide (((unhide hq).trans ((Q.refl wr).alloc (.cells #[.string x1, .int .i64 x2, .int .i64 x3] 34))).trans u.q)
        generalize hu : u.to = w1 at qu ⊢
        clear hu
        clear a0 a1 a2 a3 a4 hne
        go_wp2_with fail
        go_ret
        exact ⟨ret_bool (unhide HO).symm, (unhide HQ).trans (unhide qu)⟩
      have HU2 : Hid ((decide (0 ≤ x2) && decide (x2 ≤ 2147483647)) = true) := hv2
      cases hv3 : tmOk c x3
      · have HO : Hid (dkOk c fs = false) := unhide HBAD (dkAt_fl (by unfold flOk; rw [hv1, hv2, hv3]; rfl))
        have HU3 : Hid ((decide (1 ≤ x3) && decide (x3 ≤ c)) = false) := hv3
        rw [hv1] at HPM
        clear hv1 hv2 hv3 HBAD HSUC HA
        go_wp2_with fail
        refine wp_region_aft (by kernel_rfl) (by kernel_rfl) ?_
        repeat (go_big_quiet_step (first | (go_at_call 23; exact Calls.aft (unhide HPM _)) | (go_at_call_of 24 (Value.int .i64 x2); exact Calls.aft (upTo_lit x2 0 2147483647 _ (unhide HU2))) | (go_at_call_of 24 (Value.int .i64 x3); exact Calls.aft (upTo_lit x3 1 c _ (unhide HU3)))))
        refine wpQuiet_nil ?_
        intro _ hw'
        obtain ⟨u, hw''⟩ := hw'
        subst hw''
        have qu := hide (((unhide hq).trans ((Q.refl wr).alloc (.cells #[.string x1, .int .i64 x2, .int .i64 x3] 34))).trans u.q)
        generalize hu : u.to = w1 at qu ⊢
        clear hu
        clear a0 a1 a2 a3 a4 hne
        go_wp2_with fail
        go_ret
        exact ⟨ret_bool (unhide HO).symm, (unhide HQ).trans (unhide qu)⟩
      have HU3 : Hid ((decide (1 ≤ x3) && decide (x3 ≤ c)) = true) := hv3
      have HFL : Hid (flOk c (y1, x2, x3) = true) := by show _ = true; unfold flOk; rw [hv1, hv2, hv3]; rfl
      rw [hv1] at HPM
      clear hv1 hv2 hv3
      rcases Nat.eq_zero_or_pos k with hk0 | hkp
      · have HPR : Hid (prOk fs (y1, x2, x3) k = true) := by show _ = true; rw [hk0]; rfl
        have kd : decide ((0 : Int) < (k : Int)) = false := decide_eq_false (by omega)
        have kd2 : decide (0 < k) = false := decide_eq_false (by omega)
        clear hk0
        go_wp2_with fail
        refine wp_region_aft (by kernel_rfl) (by kernel_rfl) ?_
        repeat (go_big_quiet_step (first | (go_at_call 23; exact Calls.aft (unhide HPM _)) | (go_at_call_of 24 (Value.int .i64 x2); exact Calls.aft (upTo_lit x2 0 2147483647 _ (unhide HU2))) | (go_at_call_of 24 (Value.int .i64 x3); exact Calls.aft (upTo_lit x3 1 c _ (unhide HU3)))))
        refine wpQuiet_nil ?_
        intro _ hw'
        obtain ⟨u, hw''⟩ := hw'
        subst hw''
        have qu := hide (((unhide hq).trans ((Q.refl wr).alloc (.cells #[.string x1, .int .i64 x2, .int .i64 x3] 34))).trans u.q)
        have HF1 := hide (fun w' q => unhide HF0 u w' q)
        generalize hu : u.to = w1 at qu HF1 ⊢
        clear hu
        have HF2 : Hid ((∀ w', Q w1 w' → w'.cell? ⟨wr.heap.size, 2, none⟩ = some (.int .i64 x3)) ∧ True) := ⟨unhide HF1, trivial⟩
        clear a0 a1 a2 a3 a4 hne x0 x1c c0 c1 c2
        rename World => wz
        go_wp2_with fail
        go_loopw [5] (fun i wr => ∃ m : Nat, m ≤ k ∧ i = .int .i64 m ∧ Hid (tmB (fs.take m) (y1, x2, x3) = false) ∧ Hid (Q wz wr)) (fun i _ => k - (intOf i).toNat)
        case atStart => exact ⟨0, Nat.zero_le _, rfl, rfl, Q.refl _⟩
        case round =>
          obtain ⟨m, hm, rfl, HTM, hqm⟩ := hrel
          by_cases hml : m < k
          · obtain ⟨gm, hgm⟩ : ∃ gm, fs[m]? = some gm := ⟨fs[m]'(by omega), List.getElem?_eq_getElem (by omega)⟩
            have e2 := unhide HCT m gm hgm wr ((unhide qu).trans (unhide hqm))
            have e0 := (unhide HB).q ((unhide qu).trans (unhide hqm))
            have x1c := e0.cell 1 rfl
            have b2 := (unhide HF2).1 wr (unhide hqm)
            have m0 : (0 : Int) ≤ (m : Int) := Int.natCast_nonneg _
            have m1 : (m : Int) < (k : Int) := by omega
            have m2 : (m : Int) < (fs.length : Int) := by omega
            have HSU := hide (tm_take (f := (y1, x2, x3)) hgm)
            clear e0 hgm
            cases he : (gm.2.2 == x3)
            · have HTM2 : Hid (tmB (fs.take (m + 1)) (y1, x2, x3) = false) := by show _ = _; rw [unhide HSU, unhide HTM]; exact he
              generalize gm.2.2 = tg at *
              clear HSU HTM
              go_wp2_with fail
              go_quiet (fail)
              go_wp2_with fail
              go_roundw
              case rel => exact ⟨m + 1, by omega, by go_num, HTM2, hide ((unhide hqm).drewN _)⟩
              case measure => simp [intOf]; omega
            · have HO : Hid (dkOk c fs = false) := unhide HBAD (dkAt_tm (by rcases Bool.eq_false_or_eq_true (tmB (fs.take k) (y1, x2, x3)) with h | h; exact h; exact absurd h (by
                have hany : tmB (fs.take k) (y1, x2, x3) = true := by
                  have h1 : tmB (fs.take (m + 1)) (y1, x2, x3) = true := by rw [unhide HSU]; simp [he]
                  unfold tmB at h1 ⊢
                  obtain ⟨z, hz1, hz2⟩ := List.any_eq_true.1 h1
                  exact List.any_eq_true.2 ⟨z, (List.take_subset_take_left fs (show m + 1 ≤ k by omega)) hz1, hz2⟩
                rw [hany]; simp)))
              generalize gm.2.2 = tg at *
              clear HSU HTM
              go_wp2_with fail
              go_quiet (fail)
              go_wp2_with fail
              go_ret
              exact ⟨ret_bool (unhide HO).symm, (unhide HQ).trans ((unhide qu).trans ((unhide hqm).drewN _))⟩
          · have hmk : m = k := by omega
            have HKN : Hid (dkK c fs (k + 1) = true) := by
              show _ = true
              rw [unhide HSUC, HA.out, dkAt_ok (unhide HFL) (unhide HPR) (by have := unhide HTM; rwa [hmk] at this)]; rfl
            clear HTM
            go_wp2_with fail
            go_roundw
            case rel => exact ⟨k + 1, by omega, by go_num, HKN, hide ((unhide qu).trans (unhide hqm))⟩
            case measure => simp [intOf]; omega
      · obtain ⟨j, hj⟩ : ∃ j, k = j + 1 := ⟨k - 1, by omega⟩
        obtain ⟨gj, hgj⟩ : ∃ gj, fs[j]? = some gj := ⟨fs[j]'(by omega), List.getElem?_eq_getElem (by omega)⟩
        have HPP : Hid (prOk fs (y1, x2, x3) k = ltT gj.1 y1) := by
          show _ = _
          rw [hj]
          show (match fs[j]? with | some g => ltT g.1 y1 | none => true) = _
          rw [hgj]
        have p0 := unhide HPU j gj hgj
        have hv := unhide HTX gj
        have hge := geq_str
        have kd : decide ((0 : Int) < (k : Int)) = true := decide_eq_true (by omega)
        have kd2 : decide (0 < k) = true := decide_eq_true (by omega)
        have kw : IntKind.i64.wrap ((k : Int) - 1) = (j : Int) := by rw [IntKind.wrap_i64]; omega
        have kj : (k : Int) - 1 = (j : Int) := by omega
        have j0 : (0 : Int) ≤ (j : Int) := Int.natCast_nonneg _
        have j1 : (j : Int) < (fs.length : Int) := by omega
        have HJ := hide hj
        clear hj hkp hgj
        generalize (⟨gj.1.toArray⟩ : ByteArray) = xp at p0 hv
        cases hvl : ltT gj.1 y1
        · have HO : Hid (dkOk c fs = false) := unhide HBAD (dkAt_pr ((unhide HPP).trans hvl))
          rw [hvl] at hv
          clear hvl HBAD HSUC HA HPP
          go_wp2_with fail
          refine wp_region_aft (by kernel_rfl) (by kernel_rfl) ?_
          repeat (go_big_quiet_step (first | (go_at_call 23; exact Calls.aft (unhide HPM _)) | (go_at_call_of 24 (Value.int .i64 x2); exact Calls.aft (upTo_lit x2 0 2147483647 _ (unhide HU2))) | (go_at_call_of 24 (Value.int .i64 x3); exact Calls.aft (upTo_lit x3 1 c _ (unhide HU3)))))
          refine wpQuiet_nil ?_
          intro _ hw'
          obtain ⟨u, hw''⟩ := hw'
          subst hw''
          have qu := hide (((unhide hq).trans ((Q.refl wr).alloc (.cells #[.string x1, .int .i64 x2, .int .i64 x3] 34))).trans u.q)
          generalize hu : u.to = w1 at qu ⊢
          clear hu
          clear a0 a1 a2 a3 a4 hne
          go_wp2_with fail
          go_ret
          exact ⟨ret_bool (unhide HO).symm, (unhide HQ).trans (unhide qu)⟩
        · have HPR : Hid (prOk fs (y1, x2, x3) k = true) := (unhide HPP).trans hvl
          rw [hvl] at hv
          clear hvl HPP
          go_wp2_with fail
          refine wp_region_aft (by kernel_rfl) (by kernel_rfl) ?_
          repeat (go_big_quiet_step (first | (go_at_call 23; exact Calls.aft (unhide HPM _)) | (go_at_call_of 24 (Value.int .i64 x2); exact Calls.aft (upTo_lit x2 0 2147483647 _ (unhide HU2))) | (go_at_call_of 24 (Value.int .i64 x3); exact Calls.aft (upTo_lit x3 1 c _ (unhide HU3)))))
          refine wpQuiet_nil ?_
          intro _ hw'
          obtain ⟨u, hw''⟩ := hw'
          subst hw''
          have qu := hide (((unhide hq).trans ((Q.refl wr).alloc (.cells #[.string x1, .int .i64 x2, .int .i64 x3] 34))).trans u.q)
          have HF1 := hide (fun w' q => unhide HF0 u w' q)
          generalize hu : u.to = w1 at qu HF1 ⊢
          clear hu
          have HF2 : Hid ((∀ w', Q w1 w' → w'.cell? ⟨wr.heap.size, 2, none⟩ = some (.int .i64 x3)) ∧ True) := ⟨unhide HF1, trivial⟩
          clear a0 a1 a2 a3 a4 hne x0 x1c c0 c1 c2 p0
          rename World => wz
          go_wp2_with fail
          go_loopw [5] (fun i wr => ∃ m : Nat, m ≤ k ∧ i = .int .i64 m ∧ Hid (tmB (fs.take m) (y1, x2, x3) = false) ∧ Hid (Q wz wr)) (fun i _ => k - (intOf i).toNat)
          case atStart => exact ⟨0, Nat.zero_le _, rfl, rfl, Q.refl _⟩
          case round =>
            obtain ⟨m, hm, rfl, HTM, hqm⟩ := hrel
            by_cases hml : m < k
            · obtain ⟨gm, hgm⟩ : ∃ gm, fs[m]? = some gm := ⟨fs[m]'(by omega), List.getElem?_eq_getElem (by omega)⟩
              have e2 := unhide HCT m gm hgm wr ((unhide qu).trans (unhide hqm))
              have e0 := (unhide HB).q ((unhide qu).trans (unhide hqm))
              have x1c := e0.cell 1 rfl
              have b2 := (unhide HF2).1 wr (unhide hqm)
              have m0 : (0 : Int) ≤ (m : Int) := Int.natCast_nonneg _
              have m1 : (m : Int) < (k : Int) := by omega
              have m2 : (m : Int) < (fs.length : Int) := by omega
              have HSU := hide (tm_take (f := (y1, x2, x3)) hgm)
              clear e0 hgm
              cases he : (gm.2.2 == x3)
              · have HTM2 : Hid (tmB (fs.take (m + 1)) (y1, x2, x3) = false) := by show _ = _; rw [unhide HSU, unhide HTM]; exact he
                generalize gm.2.2 = tg at *
                clear HSU HTM
                go_wp2_with fail
                go_quiet (fail)
                go_wp2_with fail
                go_roundw
                case rel => exact ⟨m + 1, by omega, by go_num, HTM2, hide ((unhide hqm).drewN _)⟩
                case measure => simp [intOf]; omega
              · have HO : Hid (dkOk c fs = false) := unhide HBAD (dkAt_tm (by rcases Bool.eq_false_or_eq_true (tmB (fs.take k) (y1, x2, x3)) with h | h; exact h; exact absurd h (by
                  have hany : tmB (fs.take k) (y1, x2, x3) = true := by
                    have h1 : tmB (fs.take (m + 1)) (y1, x2, x3) = true := by rw [unhide HSU]; simp [he]
                    unfold tmB at h1 ⊢
                    obtain ⟨z, hz1, hz2⟩ := List.any_eq_true.1 h1
                    exact List.any_eq_true.2 ⟨z, (List.take_subset_take_left fs (show m + 1 ≤ k by omega)) hz1, hz2⟩
                  rw [hany]; simp)))
                generalize gm.2.2 = tg at *
                clear HSU HTM
                go_wp2_with fail
                go_quiet (fail)
                go_wp2_with fail
                go_ret
                exact ⟨ret_bool (unhide HO).symm, (unhide HQ).trans ((unhide qu).trans ((unhide hqm).drewN _))⟩
            · have hmk : m = k := by omega
              have HKN : Hid (dkK c fs (k + 1) = true) := by
                show _ = true
                rw [unhide HSUC, HA.out, dkAt_ok (unhide HFL) (unhide HPR) (by have := unhide HTM; rwa [hmk] at this)]; rfl
              clear HTM
              go_wp2_with fail
              go_roundw
              case rel => exact ⟨k + 1, by omega, by go_num, HKN, hide ((unhide qu).trans (unhide hqm))⟩
              case measure => simp [intOf]; omega
    · have HO : Hid (dkOk c fs = ckOk c fs) := by
        show _ = _
        have hkl : k = fs.length := by omega
        have h1 := HA.out
        rw [hkl] at h1
        exact dk_end h1
      have HCK : Hid (ckOk c fs = ((decide (0 ≤ c) && decide (c ≤ 1048576)) && decide (fs.length ≤ 64))) := rfl
      clear HA
      by_cases h1 : (decide (0 ≤ c) && decide (c ≤ 1048576)) = true
      · by_cases h2 : fs.length ≤ 64
        all_goals
          have HV := hide ((unhide HO).trans ((unhide HCK).trans (by rw [h1, Bool.true_and] : _ = decide (fs.length ≤ 64))))
          have h2' : decide (fs.length ≤ 64) = decide (fs.length ≤ 64) := rfl
          clear h2' HO HCK
          go_wp2_with (go_at_call 24; refine (upTo_lit c 0 1048576 _ h1).mono ?_; rintro e w9 ⟨rfl, q9⟩; have x1d := (((unhide HB).q (unhide hq)).q q9).cell 1 rfl)
          go_ret
          exact ⟨ret_bool (by rw [unhide HV]; simp [h2]; omega), (unhide hqw).trans q9⟩
      · have h1' : (decide (0 ≤ c) && decide (c ≤ 1048576)) = false := by simpa using h1
        have HV := hide ((unhide HO).trans ((unhide HCK).trans (by rw [h1']; rfl : _ = false)))
        clear h1 HO HCK
        go_wp2_with (go_at_call 24; refine (upTo_lit c 0 1048576 _ h1').mono ?_; rintro e w9 ⟨rfl, q9⟩)
        go_ret
        exact ⟨ret_bool (unhide HV).symm, (unhide hqw).trans q9⟩

end Go.Proofs.YtjalklmgdkhekaaDoor
