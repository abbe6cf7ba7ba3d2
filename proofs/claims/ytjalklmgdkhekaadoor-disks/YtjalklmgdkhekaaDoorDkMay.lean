/- A copy of a disk; may a disk be, as package disk's May answers; the conditions: the files lie in memory, no name is longer than a string can be. -/
import Derived.Test.YtjalklmgdkhekaaDoorDkFile
namespace Go.Proofs.YtjalklmgdkhekaaDoor
open Go.RowKit

def bxD (w : World) (c : Int) (ao : Option Addr) (n cap : Nat) : World := w.alloc (.cells #[.int .i64 c, .slice ao n cap] 24)
theorem bxD_q (w : World) (c : Int) (ao : Option Addr) (n cap : Nat) : Q w (bxD w c ao n cap) := (Q.refl w).alloc _
theorem bxD_b (w : World) (c : Int) (ao : Option Addr) (n cap : Nat) : Blk (bxD w c ao n cap) w.heap.size #[.int .i64 c, .slice ao n cap] 24 := Blk.new w _ _

set_option maxRecDepth 20000 in
set_option maxHeartbeats 4000000 in
theorem dkcopy_any (c : Int) (fs : List Fl) (ao : Option Addr) (cap : Nat) (w : World) (hr : RowK w ao fs) (hz : ∀ f ∈ fs, f.1.length ≤ 4096) (hs : fs.length ≤ 4096) :
    Calls Tryd.prog 20 #[dkV c ao fs.length cap] w fun e w' => ∃ ao' cap', e = .returned (dkV c ao' fs.length cap') ∧ OwnK w' w.heap.size ao' cap' fs ∧ Q w w' := by
  obtain ⟨i0, hi, hz0, hz1, hz2⟩ := info_parts Tryd.infoK
  have b1 : Blk (w.alloc (.cells #[.int .i64 c, .slice ao fs.length cap] 24)) w.heap.size #[.int .i64 c, .slice ao fs.length cap] 24 := Blk.new w _ _
  have q1 := (Q.refl w).alloc (.cells #[.int .i64 c, .slice ao fs.length cap] 24)
  have b2 := Blk.new (w.alloc (.cells #[.int .i64 c, .slice ao fs.length cap] 24)) #[.int .i64 0, .slice none 0 0] 24
  rw [size_alloc] at b2
  have q2 := (Q.refl (w.alloc (.cells #[.int .i64 c, .slice ao fs.length cap] 24))).alloc (.cells #[.int .i64 0, .slice none 0 0] 24)
  have HB1 := hide (b1.q q2)
  have HB2 := hide b2
  have HQ := hide (q1.trans q2)
  clear b1 b2 q1 q2
  unfold dkV
  go_enter Tryd.func20, Tryd.ntmps20
  go_wp2_with fail
  generalize (w.alloc (.cells #[.int .i64 c, .slice ao fs.length cap] 24)).alloc (.cells #[.int .i64 0, .slice none 0 0] 24) = wb at *
  go_loopw [3, 9] (fun v i wr => ∃ (k : Nat) (bo : Option Addr) (bcap : Nat), k ≤ fs.length ∧ i = .int .i64 k ∧ v = .slice bo k bcap ∧ Hid (wr.ownsRow wb.heap.size 34 3 (.slice bo k bcap) k (lay fv (fs.take k))) ∧ Hid (Q wb wr)) (fun _ i _ => fs.length - (intOf i).toNat)
  case atStart => exact ⟨0, none, 0, Nat.zero_le _, rfl, rfl, World.ownsRow_nil _ _ _ _, Q.refl _⟩
  case round =>
    obtain ⟨k, bo, bcap, hk, rfl, rfl, HO, hq⟩ := hrel
    have hqw := hide ((unhide HQ).trans (unhide hq))
    by_cases hlt : k < fs.length
    · rcases hr.q (unhide hqw) with he | ⟨g, o, rfl, hg, hcell⟩
      · rw [he] at hlt; simp at hlt
      obtain ⟨f, hf⟩ : ∃ f, fs[k]? = some f := ⟨fs[k], List.getElem?_eq_getElem hlt⟩
      have c0 : wr.cell? ⟨g, o + k * 3, none⟩ = some (.string ⟨f.1.toArray⟩) := hcell k 0 f _ hf (by decide) rfl
      have c1 : wr.cell? ⟨g, o + k * 3 + 1, none⟩ = some (.int .i64 f.2.1) := hcell k 1 f _ hf (by decide) rfl
      have c2 : wr.cell? ⟨g, o + k * 3 + 2, none⟩ = some (.int .i64 f.2.2) := hcell k 2 f _ hf (by decide) rfl
      have HC := hide (fun w => dkown_any f w (hz f (List.mem_of_getElem? hf)))
      have HT : Hid (lay fv (fs.take (k + 1)) = lay fv (fs.take k) ++ fv f) := by
        show _ = _
        rw [List.take_add_one, hf]
        exact lay_snoc fv _ f
      have hF1 := one_fv f
      unfold flV at HC
      unfold fv at hF1
      obtain ⟨f1, f2, f3⟩ := f
      dsimp only at c0 c1 c2 HC hF1
      have HFV : Hid (fv (f1, f2, f3) = [.string ⟨f1.toArray⟩, .int .i64 f2, .int .i64 f3]) := rfl
      generalize (⟨f1.toArray⟩ : ByteArray) = x1 at c0 c1 c2 HC HFV hF1
      have HF1 := hide hF1
      have hBw := (unhide hq).size
      clear hcell hf hz hr hF1
      go_wp2_with (first
        | (go_at_call 27; refine (unhide HC _).mono ?_; rintro e w2 ⟨rfl, q2⟩
           have hq2 := hide ((unhide hqw).trans (((Q.refl wr).alloc (.cells #[.string x1, .int .i64 f2, .int .i64 f3] 34)).trans q2))
           have hq2b := hide ((unhide hq).trans (((Q.refl wr).alloc (.cells #[.string x1, .int .i64 f2, .int .i64 f3] 34)).trans q2))
           have own2 := hide ((own_q HO.out (((Q.refl wr).alloc (.cells #[.string x1, .int .i64 f2, .int .i64 f3] 34)).trans q2)))
           clear q2)
        | (at_builtin; refine wpList_append_lies _ rfl _ _ 22 rfl wb.heap.size 34 i0 _ 3 32 Tryd.underlying22 hi hz0 hz1 hz2 rfl (by decide) _ k (lay fv (fs.take k)) rfl (own_q (unhide own2) ((Q.refl w2).alloc _)) ⟨w2.heap.size, 0, none⟩ 1 1 [.string x1, .int .i64 f2, .int .i64 f3] rfl rfl (news_new _ #[.string x1, .int .i64 f2, .int .i64 f3] _) (unhide HF1) (by decide) (by unfold maxLen; omega) (by omega) (le_alloc (unhide hq2b).size _) (w2.heap.size + 1) (size_alloc _ _) ?_))
      intro g3 cp3 w3 hown3 hgrow3 hor3 hlt3
      have hq3 : Hid (Q wb w3) := Below.grown (Q.alloc (unhide hq2b) _) hgrow3 (le_alloc (unhide hq2b).size _) (fun r hr => ((unhide HO).lt r hr).1)
      have HO3 : Hid (w3.ownsRow wb.heap.size 34 3 (.slice (some ⟨g3, 0, none⟩) (k + 1) cp3) (k + 1) (lay fv (fs.take (k + 1)))) := by
        show World.ownsRow _ _ _ _ _ _ _
        rw [HT.out, unhide HFV]; exact hown3
      clear hown3 hgrow3 hor3 HT HO c0 c1 c2 own2 hq2 hq2b
      go_wp2_with fail
      go_roundw
      case rel => exact ⟨k + 1, some ⟨g3, 0, none⟩, cp3, by omega, by go_num, rfl, HO3, hq3⟩
      case measure => simp [intOf]; omega
    · have hkl : k = fs.length := by omega
      have HF : Hid (OwnK wr wb.heap.size bo bcap fs) := by
        have h := HO.out
        rw [List.take_of_length_le (by omega), hkl] at h
        exact h
      have h1 := (unhide HB1).q (unhide hq)
      have h2 := (unhide HB2).q (unhide hq)
      have a0 : wr.cell? ⟨w.heap.size, 0, none⟩ = some (.int .i64 c) := h1.cell 0 rfl
      have d0 : wr.cell? ⟨w.heap.size + 1, 0, none⟩ = some (.int .i64 0) := h2.cell 0 rfl
      have d1 : wr.cell? ⟨w.heap.size + 1, 1, none⟩ = some (.slice none 0 0) := h2.cell 1 rfl
      have e0 := h2.frz 0
      have e1 := h2.frz 1
      have H2 := hide h2
      clear HO h1 h2
      subst hkl
      go_wp2_with fail
      change bodyPost _ _ _ _ _ ((wr.setCell ⟨w.heap.size + 1, 0, none⟩ (.int .i64 c)).setCell ⟨w.heap.size + 1, 1, none⟩ (.slice bo fs.length bcap))
      obtain ⟨hb, fr⟩ := put2 (unhide H2) (.int .i64 c) (.slice bo fs.length bcap)
      have HX := hide (Below.trans (unhide hqw) (fr.below (unhide hqw).size (fun k hk => by omega)))
      have HOX := hide (own_low (own_fr (unhide HF) fr (fun k hk => (unhide H2).row (unhide HF) (by decide) k hk)) (unhide HQ).size)
      have g0 := hb.cell 0 rfl
      have g1 := hb.cell 1 rfl
      generalize (wr.setCell ⟨w.heap.size + 1, 0, none⟩ (.int .i64 c)).setCell ⟨w.heap.size + 1, 1, none⟩ (.slice bo fs.length bcap) = wf at *
      exact bodyPost_ret (v := .agg #[.int .i64 c, .slice bo fs.length bcap]) (by simp [results, Tryd.results20, go_sem, g0, g1]) rfl ⟨bo, bcap, rfl, unhide HOX, unhide HX⟩

theorem RowK.take' {w : World} {ao : Option Addr} {fs : List Fl} (h : RowK w ao fs) (k : Nat) : RowK w ao (fs.take k) := RowG.take h k
theorem fol_take (fs : List Fl) (f : Fl) (ao : Option Addr) (cap k : Nat) (w : World) (hk : k ≤ fs.length) (hr : RowK w ao fs) (hs : fs.length ≤ 4096) (hcap : fs.length ≤ cap) :
    Calls Tryd.prog 30 #[.slice ao k cap, flV f] w fun e w' => e = .returned (.bool (prOk fs f k && !tmB (fs.take k) f)) ∧ Q w w' := by
  have hl : (fs.take k).length = k := by rw [List.length_take]; omega
  have h := fol_any (fs.take k) f ao cap w (hr.take' k) (by omega) (by omega)
  rw [hl] at h
  have e : prOk (fs.take k) f k = prOk fs f k := by
    cases k with
    | zero => rfl
    | succ j =>
      show (match (fs.take (j + 1))[j]? with | some g => ltT g.1 f.1 | none => true) = (match fs[j]? with | some g => ltT g.1 f.1 | none => true)
      rw [List.getElem?_take, if_pos (by omega)]
  rwa [e] at h

set_option maxRecDepth 20000 in
set_option maxHeartbeats 4000000 in
theorem dkMay_any (c : Int) (fs : List Fl) (ao : Option Addr) (cap : Nat) (w : World) (hr : RowK w ao fs) (hz : FlZ fs) (hs : fs.length ≤ cap) (hcap : cap ≤ maxLen) :
    Calls Tryd.prog 13 #[dkV c ao fs.length cap] w fun e w' => e = .returned (.bool (dkOk c fs)) ∧ Q w w' := by
  have hsm : fs.length ≤ maxLen := Nat.le_trans hs hcap
  unfold maxLen at hsm hcap
  have b1 := bxD_b w c ao fs.length cap
  have q1 := bxD_q w c ao fs.length cap
  by_cases h1 : c < 0 ∨ (0 ≤ c ∧ 1048576 < c) ∨ (0 ≤ c ∧ ¬ 1048576 < c ∧ 64 < fs.length)
  · have HO : Hid (dkOk c fs = false) := dk_ck (by unfold ckOk; rcases h1 with h | h | h <;> simp <;> omega)
    rw [unhide HO]
    unfold dkV
    have HQ := hide q1
    clear HO hr hz b1 q1
    rcases h1 with h | ⟨h, h2⟩ | ⟨h, h2, h3⟩
    · go_enter Tryd.func13, Tryd.ntmps13
      go_wp2_with fail
      go_ret
      exact ⟨rfl, unhide HQ⟩
    · go_enter Tryd.func13, Tryd.ntmps13
      go_wp2_with fail
      go_ret
      exact ⟨rfl, unhide HQ⟩
    · have h3' : (64 : Int) < (fs.length : Int) := by omega
      go_enter Tryd.func13, Tryd.ntmps13
      go_wp2_with fail
      go_ret
      exact ⟨rfl, unhide HQ⟩
  have h2 : 0 ≤ c ∧ c ≤ 1048576 ∧ fs.length ≤ 64 := by omega
  obtain ⟨hc0, hc1, hl64⟩ := h2
  have HCK : Hid (ckOk c fs = true) := by show _ = true; unfold ckOk; simp; omega
  have hc1' : ¬ (1048576 < c) := by omega
  have hc0' : ¬ (c < 0) := by omega
  have hl64' : ¬ ((64 : Int) < (fs.length : Int)) := by omega
  have HB := hide b1
  have HQ := hide q1
  unfold dkV
  clear h1 b1 q1
  go_enter Tryd.func13, Tryd.ntmps13
  go_wp2_with fail
  change Code.wp _ _ _ _ (bxD w c ao fs.length cap)
  generalize bxD w c ao fs.length cap = wb at *
  go_loopw [22] (fun i wr => ∃ k : Nat, k ≤ fs.length ∧ i = .int .i64 k ∧ Hid (dkK c fs k = true) ∧ Hid (Q wb wr)) (fun i _ => fs.length - (intOf i).toNat)
  case atStart => exact ⟨0, Nat.zero_le _, rfl, rfl, Q.refl _⟩
  case round =>
    obtain ⟨k, hk, rfl, HA, hq⟩ := hrel
    have hqw := hide ((unhide HQ).trans (unhide hq))
    by_cases hlt : k < fs.length
    · rcases hr.q (unhide hqw) with he | ⟨g, o, rfl, hg, hcell⟩
      · rw [he] at hlt; simp at hlt
      obtain ⟨f, hf⟩ : ∃ f, fs[k]? = some f := ⟨fs[k], List.getElem?_eq_getElem hlt⟩
      have c0 : wr.cell? ⟨g, o + k * 3, none⟩ = some (.string ⟨f.1.toArray⟩) := hcell k 0 f _ hf (by decide) rfl
      have c1 : wr.cell? ⟨g, o + k * 3 + 1, none⟩ = some (.int .i64 f.2.1) := hcell k 1 f _ hf (by decide) rfl
      have c2 : wr.cell? ⟨g, o + k * 3 + 2, none⟩ = some (.int .i64 f.2.2) := hcell k 2 f _ hf (by decide) rfl
      have HM := hide (fun w' => mfl_any c f w' (hz f (List.mem_of_getElem? hf)))
      have HFO := hide (fun w' (q : Q w w') => fol_take fs f (some ⟨g, o, none⟩) cap k w' hk (hr.q q) (by omega) hs)
      have HF := hide hf
      have hbx := (unhide HB).q (unhide hq)
      have hqn : Q wr (wr.alloc (.cells #[.string ⟨f.1.toArray⟩, .int .i64 f.2.1, .int .i64 f.2.2] 34)) := (Q.refl wr).alloc _
      have hnb : Blk (wr.alloc (.cells #[.string ⟨f.1.toArray⟩, .int .i64 f.2.1, .int .i64 f.2.2] 34)) wr.heap.size #[.string ⟨f.1.toArray⟩, .int .i64 f.2.1, .int .i64 f.2.2] 34 := Blk.new wr _ _
      have a0 : ∀ u : Aft (wr.alloc (.cells #[.string ⟨f.1.toArray⟩, .int .i64 f.2.1, .int .i64 f.2.2] 34)), u.to.cell? ⟨wr.heap.size, 0, none⟩ = some (.string ⟨f.1.toArray⟩) := fun u => (hnb.q u.q).cell 0 rfl
      have a1 : ∀ u : Aft (wr.alloc (.cells #[.string ⟨f.1.toArray⟩, .int .i64 f.2.1, .int .i64 f.2.2] 34)), u.to.cell? ⟨wr.heap.size, 1, none⟩ = some (.int .i64 f.2.1) := fun u => (hnb.q u.q).cell 1 rfl
      have a2 : ∀ u : Aft (wr.alloc (.cells #[.string ⟨f.1.toArray⟩, .int .i64 f.2.1, .int .i64 f.2.2] 34)), u.to.cell? ⟨wr.heap.size, 2, none⟩ = some (.int .i64 f.2.2) := fun u => (hnb.q u.q).cell 2 rfl
      have a3 : ∀ u : Aft (wr.alloc (.cells #[.string ⟨f.1.toArray⟩, .int .i64 f.2.1, .int .i64 f.2.2] 34)), u.to.cell? ⟨w.heap.size, 0, none⟩ = some (.int .i64 c) := fun u => ((hbx.q hqn).q u.q).cell 0 rfl
      have a4 : ∀ u : Aft (wr.alloc (.cells #[.string ⟨f.1.toArray⟩, .int .i64 f.2.1, .int .i64 f.2.2] 34)), u.to.cell? ⟨w.heap.size, 1, none⟩ = some (.slice (some ⟨g, o, none⟩) fs.length cap) := fun u => ((hbx.q hqn).q u.q).cell 1 rfl
      have hne := Aft.ne (wr.alloc (.cells #[.string ⟨f.1.toArray⟩, .int .i64 f.2.1, .int .i64 f.2.2] 34))
      have HQN := hide ((unhide hq).trans hqn)
      have k0 : (0 : Int) ≤ (k : Int) := Int.natCast_nonneg _
      have k1 : (k : Int) < (fs.length : Int) := by omega
      have k2 : (k : Int) ≤ (cap : Int) := by omega
      have HT : Hid (∀ v1 v2, flOk c f = v1 → (prOk fs f k && !tmB (fs.take k) f) = v2 → dkAt c fs k f = (v1 && v2)) := fun v1 v2 e1 e2 => by
        unfold dkAt; rw [e1, e2]
      have HBAD := hide (fun (h : dkAt c fs k f = false) => dk_bad hf h)
      have HSUC := hide (dkK_succ (c := c) hf)
      unfold flV at HM HFO
      obtain ⟨f1, f2, f3⟩ := f
      dsimp only at c0 c1 c2 HM HFO a0 a1 a2 a3 a4 hne HQN
      generalize (⟨f1.toArray⟩ : ByteArray) = x1 at c0 c1 c2 HM HFO a0 a1 a2 a3 a4 hne HQN
      clear hcell hf hr hz hbx hqn hnb HF
      cases hv1 : flOk c (f1, f2, f3)
      · have HO : Hid (dkOk c fs = false) := unhide HBAD ((unhide HT false _ hv1 rfl).trans rfl)
        rw [hv1] at HM
        clear hv1 HFO HT HBAD HSUC HA
        go_wp2_with fail
        refine wp_region_aft (by kernel_rfl) (by kernel_rfl) ?_
        repeat (go_big_quiet_step ((go_at_call 29; exact Calls.aft (unhide HM _))))
        refine wpQuiet_nil ?_
        intro _ hw'
        obtain ⟨u, hw''⟩ := hw'
        subst hw''
        have qu := hide u.q
        generalize u.to = w1 at qu ⊢
        clear a0 a1 a2 a3 a4 hne
        go_wp2_with fail
        go_ret
        exact ⟨ret_bool HO.out.symm, (unhide HQ).trans ((unhide HQN).trans (unhide qu))⟩
      · cases hv2 : (prOk fs (f1, f2, f3) k && !tmB (fs.take k) (f1, f2, f3))
        · have HO : Hid (dkOk c fs = false) := unhide HBAD ((unhide HT true false hv1 hv2).trans rfl)
          rw [hv1] at HM
          rw [hv2] at HFO
          clear hv1 hv2 HT HBAD HSUC HA
          go_wp2_with fail
          refine wp_region_aft (by kernel_rfl) (by kernel_rfl) ?_
          repeat (go_big_quiet_step (first | (go_at_call 29; exact Calls.aft (unhide HM _)) | (go_at_call 30; exact Calls.aft (unhide HFO _ ((unhide HQ).trans ((unhide HQN).trans (Aft.q _)))))))
          refine wpQuiet_nil ?_
          intro _ hw'
          obtain ⟨u, hw''⟩ := hw'
          subst hw''
          have qu := hide u.q
          generalize u.to = w1 at qu ⊢
          clear a0 a1 a2 a3 a4 hne
          go_wp2_with fail
          go_ret
          exact ⟨ret_bool HO.out.symm, (unhide HQ).trans ((unhide HQN).trans (unhide qu))⟩
        · have HO : Hid (dkK c fs (k + 1) = true) := by
            show _ = true
            rw [unhide HSUC, HA.out, unhide HT true true hv1 hv2]; rfl
          rw [hv1] at HM
          rw [hv2] at HFO
          clear hv1 hv2 HT HBAD HSUC HA
          go_wp2_with fail
          refine wp_region_aft (by kernel_rfl) (by kernel_rfl) ?_
          repeat (go_big_quiet_step (first | (go_at_call 29; exact Calls.aft (unhide HM _)) | (go_at_call 30; exact Calls.aft (unhide HFO _ ((unhide HQ).trans ((unhide HQN).trans (Aft.q _)))))))
          refine wpQuiet_nil ?_
          intro _ hw'
          obtain ⟨u, hw''⟩ := hw'
          subst hw''
          have qu := hide ((unhide HQN).trans u.q)
          generalize u.to = w1 at qu ⊢
          clear a0 a1 a2 a3 a4 hne
          go_wp2_with fail
          go_roundw
          case rel => exact ⟨k + 1, by omega, by go_num, HO, qu⟩
          case measure => simp [intOf]; omega
    · have HO : Hid (dkOk c fs = true) := by
        show _ = _
        have hkl : k = fs.length := by omega
        have h1 := HA.out
        rw [hkl] at h1
        rw [dk_end h1, unhide HCK]
      clear HA
      go_wp2_with fail
      go_ret
      exact ⟨ret_bool HO.out.symm, unhide hqw⟩

end Go.Proofs.YtjalklmgdkhekaaDoor
