/- What the document's own Find answers; the conditions: the files lie in memory, no name is longer than a string can be. -/
import Derived.Test.YtjalklmgdkhekaaDoorDkRMay
import Derived.Test.YtjalklmgdkhekaaDoorDkFind
namespace Go.Proofs.YtjalklmgdkhekaaDoor
open Go.RowKit

def nmB (n : Tx) (f : Fl) : Bool := f.1 == n
theorem fn_at {fs : List Fl} {n : Tx} {k : Nat} {f : Fl} (hf : fs[k]? = some f) (hno : (fs.take k).any (nmB n) = false) (h : nmB n f = true) : fnF fs n = some f := by
  obtain ⟨hlt, he⟩ := List.getElem?_eq_some_iff.1 hf
  unfold fnF
  rw [List.find?_eq_some_iff_getElem]
  refine ⟨h, k, hlt, he, fun j hj => ?_⟩
  have := List.any_eq_false.1 hno fs[j] (List.mem_take_iff_getElem.2 ⟨j, by omega, rfl⟩)
  simpa [nmB] using this
theorem fn_no {fs : List Fl} {n : Tx} (hno : fs.any (nmB n) = false) : fnF fs n = none := by
  unfold fnF
  rw [List.find?_eq_none]
  intro f hf
  simpa [nmB] using List.any_eq_false.1 hno f hf

set_option maxRecDepth 20000 in
set_option maxHeartbeats 8000000 in
theorem rfind_any (c : Int) (fs : List Fl) (ao : Option Addr) (cap : Nat) (n : ByteArray) (w : World) (hr : RowK w ao fs) (hz : FlZ fs) (hs : fs.length ≤ cap) (hcap : cap ≤ maxLen) :
    Calls Tryd.prog 10 #[dkV c ao fs.length cap, .string n] w fun e w' => e = .returned (.tuple #[flV (fdV c fs (bl n)), .bool (fdF c fs (bl n)).isSome]) ∧ Q w w' := by
  have b1 : Blk (w.alloc (.cells #[.int .i64 c, .slice ao fs.length cap] 24)) w.heap.size #[.int .i64 c, .slice ao fs.length cap] 24 := Blk.new w _ _
  have q1 := (Q.refl w).alloc (.cells #[.int .i64 c, .slice ao fs.length cap] 24)
  have b2 := Blk.new (w.alloc (.cells #[.int .i64 c, .slice ao fs.length cap] 24)) #[.string ⟨#[]⟩, .int .i64 0, .int .i64 0] 34
  rw [size_alloc] at b2
  have q2 := (Q.refl (w.alloc (.cells #[.int .i64 c, .slice ao fs.length cap] 24))).alloc (.cells #[.string ⟨#[]⟩, .int .i64 0, .int .i64 0] 34)
  have HB1 := hide (b1.q q2)
  have HB2 := hide b2
  have HQ := hide (q1.trans q2)
  have HM := hide (fun w' (q : Q w w') => rdkMay_any c fs ao cap w' (hr.q q) hz hs hcap)
  have hsm : fs.length ≤ maxLen := Nat.le_trans hs hcap
  unfold maxLen at hsm
  clear b1 b2 q1 q2 hz hcap
  unfold dkV at HM ⊢
  go_enter Tryd.func10, Tryd.ntmps10
  go_wp2_with fail
  generalize (w.alloc (.cells #[.int .i64 c, .slice ao fs.length cap] 24)).alloc (.cells #[.string ⟨#[]⟩, .int .i64 0, .int .i64 0] 34) = wb at *
  go_loopw [6] (fun i wr => ∃ k : Nat, k ≤ fs.length ∧ i = .int .i64 k ∧ Hid ((fs.take k).any (nmB (bl n)) = false) ∧ Hid (Q wb wr)) (fun i _ => fs.length - (intOf i).toNat)
  case atStart => exact ⟨0, Nat.zero_le _, rfl, rfl, Q.refl _⟩
  case round =>
    obtain ⟨k, hk, rfl, HA, hq⟩ := hrel
    have hqw := hide ((unhide HQ).trans (unhide hq))
    have hbx := (unhide HB1).q (unhide hq)
    have x0 := hbx.cell 0 rfl
    have x1c := hbx.cell 1 rfl
    have HBX := hide hbx
    clear hbx
    by_cases hlt : k < fs.length
    · rcases hr.q (unhide hqw) with he | ⟨g, o, rfl, hg, hcell⟩
      · rw [he] at hlt; simp at hlt
      obtain ⟨f, hf⟩ : ∃ f, fs[k]? = some f := ⟨fs[k], List.getElem?_eq_getElem hlt⟩
      have HCE : Hid (∀ w', Q wr w' → w'.cell? ⟨g, o + k * 3, none⟩ = some (.string ⟨f.1.toArray⟩) ∧ w'.cell? ⟨g, o + k * 3 + 1, none⟩ = some (.int .i64 f.2.1) ∧ w'.cell? ⟨g, o + k * 3 + 2, none⟩ = some (.int .i64 f.2.2)) := fun w' q =>
        ⟨(q.cell (p := ⟨g, o + k * 3, none⟩) hg).trans (hcell k 0 f _ hf (by decide) rfl), (q.cell (p := ⟨g, o + k * 3 + 1, none⟩) hg).trans (hcell k 1 f _ hf (by decide) rfl), (q.cell (p := ⟨g, o + k * 3 + 2, none⟩) hg).trans (hcell k 2 f _ hf (by decide) rfl)⟩
      have k0 : (0 : Int) ≤ (k : Int) := Int.natCast_nonneg _
      have k1 : (k : Int) < (fs.length : Int) := by omega
      have HF := hide hf
      have HMW := hide (unhide HM wr (unhide hqw))
      clear hcell hf
      cases hok : dkOk c fs
      · have HE : Hid (fdF c fs (bl n) = none) := by show _ = _; unfold fdF; rw [hok]; rfl
        have HV : Hid (fdV c fs (bl n) = ([], 0, 0)) := by show _ = _; unfold fdV; rw [unhide HE]; rfl
        rw [hok] at HMW
        clear hok HA
        go_wp2_with fail
        refine (unhide HMW).mono ?_
        rintro e w1 ⟨rfl, q1⟩
        have hq1 := hide ((unhide hq).trans q1)
        clear q1 x0 x1c
        have h2 := (unhide HB2).q (unhide hq1)
        have d0 := h2.cell 0 rfl
        have d1 := h2.cell 1 rfl
        have d2 := h2.cell 2 rfl
        have e0 := h2.frz 0
        have e1 := h2.frz 1
        have e2 := h2.frz 2
        have H2 := hide h2
        have HQ1 := hide ((unhide HQ).trans (unhide hq1))
        clear h2
        go_wp2_with fail
        obtain ⟨hb, fr⟩ := put3 (unhide H2) (.string ⟨#[]⟩) (.int .i64 0) (.int .i64 0)
        have HX := hide (Below.trans (unhide HQ1) (fr.below (unhide HQ1).size (fun k hk => by omega)))
        have g0 := hb.cell 0 rfl
        have g1 := hb.cell 1 rfl
        have g2 := hb.cell 2 rfl
        generalize (World.setCell (World.setCell (World.setCell _ ⟨w.heap.size + 1, 0, none⟩ (.string ⟨#[]⟩)) ⟨w.heap.size + 1, 1, none⟩ (.int .i64 0)) ⟨w.heap.size + 1, 2, none⟩ (.int .i64 0)) = wf at *
        exact bodyPost_ret (v := .tuple #[.agg #[.string ⟨#[]⟩, .int .i64 0, .int .i64 0], .bool false]) (by simp [results, Tryd.results10, go_sem, g0, g1, g2]) rfl ⟨by rw [unhide HV, unhide HE]; rfl, unhide HX⟩
      · rw [hok] at HMW
        have HTS := hide (anyt_succ (nmB (bl n)) (unhide HF))
        have htx := txt_beq f.1 n
        cases hnm : nmB (bl n) f
        · have HA2 : Hid ((fs.take (k + 1)).any (nmB (bl n)) = false) := by show _ = false; rw [unhide HTS, HA.out, hnm]; rfl
          have hnm' : (f.1 == bl n) = false := hnm
          rw [hnm'] at htx
          generalize (⟨f.1.toArray⟩ : ByteArray) = x1 at HCE htx
          clear hok hnm hnm' HTS HA
          go_wp2_with fail
          refine (unhide HMW).mono ?_
          rintro e w1 ⟨rfl, q1⟩
          obtain ⟨t0, t1, t2⟩ := unhide HCE _ q1
          have hq1 := hide ((unhide hq).trans q1)
          have x1d := ((unhide HBX).q q1).cell 1 rfl
          clear q1 x0 x1c
          go_wp2_with fail
          go_roundw
          case rel => exact ⟨k + 1, by omega, by go_num, HA2, hq1⟩
          case measure => simp [intOf]; omega
        · have HE : Hid (fdF c fs (bl n) = some f) := by show _ = _; unfold fdF; rw [hok, if_pos rfl]; exact fn_at (unhide HF) HA.out hnm
          have HV : Hid (fdV c fs (bl n) = f) := by show _ = _; unfold fdV; rw [unhide HE]; rfl
          have hnm' : (f.1 == bl n) = true := hnm
          rw [hnm'] at htx
          obtain ⟨f1, f2, f3⟩ := f
          dsimp only at HCE htx
          have HXV : Hid (flV (fdV c fs (bl n)) = .agg #[.string ⟨f1.toArray⟩, .int .i64 f2, .int .i64 f3] ∧ (fdF c fs (bl n)).isSome = true) := by show _ ∧ _; rw [unhide HV, unhide HE]; exact ⟨rfl, rfl⟩
          generalize (⟨f1.toArray⟩ : ByteArray) = x1 at HCE htx HXV
          clear hok hnm hnm' HTS HA HE HV
          go_wp2_with fail
          refine (unhide HMW).mono ?_
          rintro e w1 ⟨rfl, q1⟩
          obtain ⟨t0, t1, t2⟩ := unhide HCE _ q1
          have hq1 := hide ((unhide hq).trans q1)
          have x1d := ((unhide HBX).q q1).cell 1 rfl
          clear q1 x0 x1c
          have h2 := (unhide HB2).q (unhide hq1)
          have d0 := h2.cell 0 rfl
          have d1 := h2.cell 1 rfl
          have d2 := h2.cell 2 rfl
          have e0 := h2.frz 0
          have e1 := h2.frz 1
          have e2 := h2.frz 2
          have H2 := hide h2
          have HQ1 := hide ((unhide HQ).trans (unhide hq1))
          clear h2
          go_wp2_with fail
          obtain ⟨hb, fr⟩ := put3 (unhide H2) (.string x1) (.int .i64 f2) (.int .i64 f3)
          have HX := hide (Below.trans (unhide HQ1) (fr.below (unhide HQ1).size (fun k hk => by omega)))
          have g0 := hb.cell 0 rfl
          have g1 := hb.cell 1 rfl
          have g2 := hb.cell 2 rfl
          generalize (World.setCell (World.setCell (World.setCell _ ⟨w.heap.size + 1, 0, none⟩ (.string x1)) ⟨w.heap.size + 1, 1, none⟩ (.int .i64 f2)) ⟨w.heap.size + 1, 2, none⟩ (.int .i64 f3)) = wf at *
          exact bodyPost_ret (v := .tuple #[.agg #[.string x1, .int .i64 f2, .int .i64 f3], .bool true]) (by simp [results, Tryd.results10, go_sem, g0, g1, g2]) rfl ⟨by rw [(unhide HXV).1, (unhide HXV).2], unhide HX⟩
    · have hkl : k = fs.length := by omega
      have HE : Hid (fdF c fs (bl n) = none) := by
        show _ = _
        unfold fdF
        split
        · refine fn_no ?_
          have := HA.out
          rwa [hkl, List.take_of_length_le (Nat.le_refl _)] at this
        · rfl
      have HV : Hid (fdV c fs (bl n) = ([], 0, 0)) := by show _ = _; unfold fdV; rw [unhide HE]; rfl
      have hq1 := hq
      clear HA hkl x0
      have h2 := (unhide HB2).q (unhide hq1)
      have d0 := h2.cell 0 rfl
      have d1 := h2.cell 1 rfl
      have d2 := h2.cell 2 rfl
      have e0 := h2.frz 0
      have e1 := h2.frz 1
      have e2 := h2.frz 2
      have H2 := hide h2
      have HQ1 := hide ((unhide HQ).trans (unhide hq1))
      clear h2
      go_wp2_with fail
      obtain ⟨hb, fr⟩ := put3 (unhide H2) (.string ⟨#[]⟩) (.int .i64 0) (.int .i64 0)
      have HX := hide (Below.trans (unhide HQ1) (fr.below (unhide HQ1).size (fun k hk => by omega)))
      have g0 := hb.cell 0 rfl
      have g1 := hb.cell 1 rfl
      have g2 := hb.cell 2 rfl
      generalize (World.setCell (World.setCell (World.setCell _ ⟨w.heap.size + 1, 0, none⟩ (.string ⟨#[]⟩)) ⟨w.heap.size + 1, 1, none⟩ (.int .i64 0)) ⟨w.heap.size + 1, 2, none⟩ (.int .i64 0)) = wf at *
      exact bodyPost_ret (v := .tuple #[.agg #[.string ⟨#[]⟩, .int .i64 0, .int .i64 0], .bool false]) (by simp [results, Tryd.results10, go_sem, g0, g1, g2]) rfl ⟨by rw [unhide HV, unhide HE]; rfl, unhide HX⟩

end Go.Proofs.YtjalklmgdkhekaaDoor
