/- What the document's own RemoveFile answers; the conditions: the files lie in memory, no name is longer than a string can be. -/
import Derived.Test.YtjalklmgdkhekaaDoorDkRWo
import Derived.Test.YtjalklmgdkhekaaDoorDkRem
namespace Go.Proofs.YtjalklmgdkhekaaDoor
open Go.RowKit

set_option maxRecDepth 20000 in
set_option maxHeartbeats 8000000 in
theorem rrem_any (c : Int) (fs : List Fl) (ao : Option Addr) (cap : Nat) (n : ByteArray) (w : World) (hr : RowK w ao fs) (hz : FlZ fs) (hs : fs.length ≤ cap) (hcap : cap ≤ maxLen) (hn : n.size ≤ maxLen) :
    Calls Tryd.prog 8 #[dkV c ao fs.length cap, .string n] w (RemSays c fs (bl n) w) := by
  have b1 : Blk (w.alloc (.cells #[.int .i64 c, .slice ao fs.length cap] 24)) w.heap.size #[.int .i64 c, .slice ao fs.length cap] 24 := Blk.new w _ _
  have q1 := (Q.refl w).alloc (.cells #[.int .i64 c, .slice ao fs.length cap] 24)
  have b2 := Blk.new (w.alloc (.cells #[.int .i64 c, .slice ao fs.length cap] 24)) #[.int .i64 0, .slice none 0 0] 24
  rw [size_alloc] at b2
  have q2 := (Q.refl (w.alloc (.cells #[.int .i64 c, .slice ao fs.length cap] 24))).alloc (.cells #[.int .i64 0, .slice none 0 0] 24)
  have HB1 := hide (b1.q q2)
  have HB2 := hide b2
  have HQ := hide (q1.trans q2)
  have HM := hide (fun w' (q : Q w w') => rdkMay_any c fs ao cap w' (hr.q q) hz hs hcap)
  have HP := hide (fun w' => rpth_any n w' hn)
  clear b1 b2 q1 q2
  cases hok : dkOk c fs
  · have HE : Hid (remE c fs (bl n) = 1200) := by show _ = _; unfold remE; rw [hok]; rfl
    rw [hok] at HM
    clear hok hr hz hn
    unfold dkV at HM ⊢
    go_enter Tryd.func8, Tryd.ntmps8
    go_wp2_with fail
    generalize (w.alloc (.cells #[.int .i64 c, .slice ao fs.length cap] 24)).alloc (.cells #[.int .i64 0, .slice none 0 0] 24) = wb at *
    refine (unhide HM _ (unhide HQ)).mono ?_
    rintro e w1 ⟨rfl, q1⟩
    have hq1 := hide q1
    clear q1
    have h2 := (unhide HB2).q (unhide hq1)
    have d0 := h2.cell 0 rfl
    have d1 := h2.cell 1 rfl
    have e0 := h2.frz 0
    have e1 := h2.frz 1
    have H2 := hide h2
    have HQ1 := hide ((unhide HQ).trans (unhide hq1))
    clear h2
    go_wp2_with fail
    obtain ⟨hb, fr⟩ := put2 (unhide H2) (.int .i64 0) (.slice none 0 0)
    have HX := hide (Below.trans (unhide HQ1) (fr.below (unhide HQ1).size (fun k hk => by omega)))
    have g0 := hb.cell 0 rfl
    have g1 := hb.cell 1 rfl
    generalize (World.setCell (World.setCell _ ⟨w.heap.size + 1, 0, none⟩ (.int .i64 0)) ⟨w.heap.size + 1, 1, none⟩ (.slice none 0 0)) = wf at *
    exact bodyPost_ret (v := .tuple #[.agg #[.int .i64 0, .slice none 0 0], .int .i64 1200]) (by simp [results, Tryd.results8, go_sem, g0, g1]) rfl (rem_no (unhide HE) (by decide) (unhide HX))
  cases hok2 : pthB (bl n)
  · have HE : Hid (remE c fs (bl n) = 1200) := by show _ = _; unfold remE; rw [hok2, Bool.and_false]; rfl
    rw [hok] at HM
    rw [hok2] at HP
    clear hok hok2 hr hz hn
    unfold dkV at HM ⊢
    go_enter Tryd.func8, Tryd.ntmps8
    go_wp2_with fail
    generalize (w.alloc (.cells #[.int .i64 c, .slice ao fs.length cap] 24)).alloc (.cells #[.int .i64 0, .slice none 0 0] 24) = wb at *
    refine (unhide HM _ (unhide HQ)).mono ?_
    rintro e w0 ⟨rfl, q0⟩
    go_wp2_with fail
    refine (unhide HP _).mono ?_
    rintro e w1 ⟨rfl, q1⟩
    have hq1 := hide (q0.trans q1)
    clear q1 q0
    have h2 := (unhide HB2).q (unhide hq1)
    have d0 := h2.cell 0 rfl
    have d1 := h2.cell 1 rfl
    have e0 := h2.frz 0
    have e1 := h2.frz 1
    have H2 := hide h2
    have HQ1 := hide ((unhide HQ).trans (unhide hq1))
    clear h2
    go_wp2_with fail
    obtain ⟨hb, fr⟩ := put2 (unhide H2) (.int .i64 0) (.slice none 0 0)
    have HX := hide (Below.trans (unhide HQ1) (fr.below (unhide HQ1).size (fun k hk => by omega)))
    have g0 := hb.cell 0 rfl
    have g1 := hb.cell 1 rfl
    generalize (World.setCell (World.setCell _ ⟨w.heap.size + 1, 0, none⟩ (.int .i64 0)) ⟨w.heap.size + 1, 1, none⟩ (.slice none 0 0)) = wf at *
    exact bodyPost_ret (v := .tuple #[.agg #[.int .i64 0, .slice none 0 0], .int .i64 1200]) (by simp [results, Tryd.results8, go_sem, g0, g1]) rfl (rem_no (unhide HE) (by decide) (unhide HX))
  have hl64 : fs.length ≤ 4096 := by have := (dk_parts hok).n; omega
  have HFD := hide (fun w' (q : Q w w') => rfind_any c fs ao cap n w' (hr.q q) hz hs hcap)
  have HWO := hide (fun w' (q : Q w w') => rwo_any c fs ao cap n w' (hr.q q) hl64)
  have hfd : fdF c fs (bl n) = fnF fs (bl n) := by unfold fdF; rw [hok]; rfl
  rw [hfd] at HFD
  rw [hok] at HM
  rw [hok2] at HP
  cases hf : fnF fs (bl n) with
  | none =>
    have HE : Hid (remE c fs (bl n) = 1202) := by show _ = _; unfold remE; rw [hok, hok2, hf]; rfl
    rw [hf, Option.isSome_none] at HFD
    generalize fdV c fs (bl n) = fv0 at HFD
    obtain ⟨v1, v2, v3⟩ := fv0
    clear hok hok2 hz hr hn hf hfd hl64 HWO
    unfold flV dkV at HFD
    unfold dkV at HM ⊢
    dsimp only at HFD
    go_enter Tryd.func8, Tryd.ntmps8
    go_wp2_with fail
    generalize (w.alloc (.cells #[.int .i64 c, .slice ao fs.length cap] 24)).alloc (.cells #[.int .i64 0, .slice none 0 0] 24) = wb at *
    refine (unhide HM _ (unhide HQ)).mono ?_
    rintro e w0 ⟨rfl, q0⟩
    go_wp2_with fail
    refine (unhide HP _).mono ?_
    rintro e w1 ⟨rfl, q1⟩
    have hq1 := hide (q0.trans q1)
    clear q1 q0
    have hx1 := (unhide HB1).q (unhide hq1)
    have a0 : w1.cell? ⟨w.heap.size, 0, none⟩ = some (.int .i64 c) := hx1.cell 0 rfl
    have a1 : w1.cell? ⟨w.heap.size, 1, none⟩ = some (.slice ao fs.length cap) := hx1.cell 1 rfl
    clear hx1
    go_wp2_with fail
    refine (unhide HFD _ ((unhide HQ).trans (unhide hq1))).mono ?_
    rintro e w2 ⟨rfl, q2⟩
    have hq2 := hide ((unhide hq1).trans (q2.alloc (.cells #[.string ⟨v1.toArray⟩, .int .i64 v2, .int .i64 v3] 34)))
    clear q2 a0 a1
    have h2 := (unhide HB2).q (unhide hq2)
    have d0 := h2.cell 0 rfl
    have d1 := h2.cell 1 rfl
    have e0 := h2.frz 0
    have e1 := h2.frz 1
    have H2 := hide h2
    have HQ1 := hide ((unhide HQ).trans (unhide hq2))
    clear h2
    go_wp2_with fail
    obtain ⟨hb, fr⟩ := put2 (unhide H2) (.int .i64 0) (.slice none 0 0)
    have HX := hide (Below.trans (unhide HQ1) (fr.below (unhide HQ1).size (fun k hk => by omega)))
    have g0 := hb.cell 0 rfl
    have g1 := hb.cell 1 rfl
    generalize (World.setCell (World.setCell _ ⟨w.heap.size + 1, 0, none⟩ (.int .i64 0)) ⟨w.heap.size + 1, 1, none⟩ (.slice none 0 0)) = wf at *
    exact bodyPost_ret (v := .tuple #[.agg #[.int .i64 0, .slice none 0 0], .int .i64 1202]) (by simp [results, Tryd.results8, go_sem, g0, g1]) rfl (rem_no (unhide HE) (by decide) (unhide HX))
  | some f0 =>
    have HE : Hid (remE c fs (bl n) = 0) := by show _ = _; unfold remE; rw [hok, hok2, hf]; rfl
    rw [hf, Option.isSome_some] at HFD
    generalize fdV c fs (bl n) = fv0 at HFD
    obtain ⟨v1, v2, v3⟩ := fv0
    clear hok hok2 hz hr hn hf hfd hl64
    unfold flV dkV at HFD
    unfold dkV at HM HWO ⊢
    dsimp only at HFD
    go_enter Tryd.func8, Tryd.ntmps8
    go_wp2_with fail
    generalize (w.alloc (.cells #[.int .i64 c, .slice ao fs.length cap] 24)).alloc (.cells #[.int .i64 0, .slice none 0 0] 24) = wb at *
    refine (unhide HM _ (unhide HQ)).mono ?_
    rintro e w0 ⟨rfl, q0⟩
    go_wp2_with fail
    refine (unhide HP _).mono ?_
    rintro e w1 ⟨rfl, q1⟩
    have hq1 := hide (q0.trans q1)
    clear q1 q0
    have hx1 := (unhide HB1).q (unhide hq1)
    have a0 : w1.cell? ⟨w.heap.size, 0, none⟩ = some (.int .i64 c) := hx1.cell 0 rfl
    have a1 : w1.cell? ⟨w.heap.size, 1, none⟩ = some (.slice ao fs.length cap) := hx1.cell 1 rfl
    have HX1 := hide hx1
    clear hx1
    go_wp2_with fail
    refine (unhide HFD _ ((unhide HQ).trans (unhide hq1))).mono ?_
    rintro e w2 ⟨rfl, q2⟩
    have hq2 := hide ((unhide hq1).trans (q2.alloc (.cells #[.string ⟨v1.toArray⟩, .int .i64 v2, .int .i64 v3] 34)))
    have hx2 := (unhide HX1).q (q2.alloc (.cells #[.string ⟨v1.toArray⟩, .int .i64 v2, .int .i64 v3] 34))
    have b0 : (w2.alloc (.cells #[.string ⟨v1.toArray⟩, .int .i64 v2, .int .i64 v3] 34)).cell? ⟨w.heap.size, 0, none⟩ = some (.int .i64 c) := hx2.cell 0 rfl
    have b1 : (w2.alloc (.cells #[.string ⟨v1.toArray⟩, .int .i64 v2, .int .i64 v3] 34)).cell? ⟨w.heap.size, 1, none⟩ = some (.slice ao fs.length cap) := hx2.cell 1 rfl
    clear hx2 q2 a0 a1 HX1
    go_wp2_with fail
    refine (unhide HWO _ ((unhide HQ).trans (unhide hq2))).mono ?_
    rintro e w3 ⟨so, sc, rfl, own3, q3⟩
    have HW3 := hide own3
    have hq3 := hide ((unhide hq2).trans q3)
    have HL3 := hide (((unhide HQ).trans (unhide hq2)).size)
    clear own3 b0 b1
    have h2 := (unhide HB2).q (unhide hq3)
    have d0 := h2.cell 0 rfl
    have d1 := h2.cell 1 rfl
    have e0 := h2.frz 0
    have e1 := h2.frz 1
    have H2 := hide h2
    have HQ1 := hide ((unhide HQ).trans (unhide hq3))
    have HR2 := hide (show w.heap.size + 1 < (w2.alloc (.cells #[.string ⟨v1.toArray⟩, .int .i64 v2, .int .i64 v3] 34)).heap.size from ((unhide HB2).q (unhide hq2)).hi)
    clear h2 q3
    generalize hrl : remL fs (bl n) = rl at *
    go_wp2_with fail
    obtain ⟨hb, fr⟩ := put2 (unhide H2) (.int .i64 c) (.slice so rl.length sc)
    have HX := hide (Below.trans (unhide HQ1) (fr.below (unhide HQ1).size (fun k hk => by omega)))
    have HOX := hide (own_low (own_fr (unhide HW3) fr (fun k hk => by have h1 := ((unhide HW3).lt k hk).1; have h2 := unhide HR2; omega)) (unhide HL3))
    have g0 := hb.cell 0 rfl
    have g1 := hb.cell 1 rfl
    generalize (World.setCell (World.setCell _ ⟨w.heap.size + 1, 0, none⟩ (.int .i64 c)) ⟨w.heap.size + 1, 1, none⟩ (.slice so rl.length sc)) = wf at *
    exact bodyPost_ret (v := .tuple #[.agg #[.int .i64 c, .slice so rl.length sc], .int .i64 0]) (by simp [results, Tryd.results8, go_sem, g0, g1]) rfl (by subst hrl; exact rem_yes (unhide HE) (unhide HOX) (unhide HX))

end Go.Proofs.YtjalklmgdkhekaaDoor
