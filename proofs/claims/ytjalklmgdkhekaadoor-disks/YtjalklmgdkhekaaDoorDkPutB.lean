/- Package disk's Put at a disk that is full; the conditions: the files lie in memory. -/
import Derived.Test.YtjalklmgdkhekaaDoorDkPut
namespace Go.Proofs.YtjalklmgdkhekaaDoor
open Go.RowKit

set_option maxRecDepth 20000 in
set_option maxHeartbeats 8000000 in
theorem put_full1 (c : Int) (fs : List Fl) (ao : Option Addr) (cap : Nat) (n : ByteArray) (x : Int) (w : World) (hr : RowK w ao fs) (hz : FlZ fs) (hs : fs.length ≤ cap) (hcap : cap ≤ maxLen) (hn : n.size ≤ maxLen) (hok : dkOk c fs = true) (hok2 : (pthB (bl n) && coOk x) = true) (f0 : Fl) (hf : fnF fs (bl n) = some f0) (hm : c = 1048576) :
    Calls Tryd.prog 5 #[dkV c ao fs.length cap, .string n, .int .i64 x] w (PutSays c fs (bl n) x w) := by
  have b1 : Blk (w.alloc (.cells #[.int .i64 c, .slice ao fs.length cap] 24)) w.heap.size #[.int .i64 c, .slice ao fs.length cap] 24 := Blk.new w _ _
  have q1 := (Q.refl w).alloc (.cells #[.int .i64 c, .slice ao fs.length cap] 24)
  have b2 := Blk.new (w.alloc (.cells #[.int .i64 c, .slice ao fs.length cap] 24)) #[.int .i64 0, .slice none 0 0] 24
  rw [size_alloc] at b2
  have q2 := (Q.refl (w.alloc (.cells #[.int .i64 c, .slice ao fs.length cap] 24))).alloc (.cells #[.int .i64 0, .slice none 0 0] 24)
  have HB1 := hide (b1.q q2)
  have HB2 := hide b2
  have HQ := hide (q1.trans q2)
  have HM := hide (fun w' (q : Q w w') => dkMay_any c fs ao cap w' (hr.q q) hz hs hcap)
  have HP := hide (pthP_any n · hn)
  have HC := hide (mco_any x)
  clear b1 b2 q1 q2
  have hd := dk_parts hok
  have hpx := Bool.and_eq_true_iff.1 hok2
  have hz46 : ∀ f ∈ fs, f.1.length ≤ 4096 := fun f hf => by have := fl_len (hd.f f hf); omega
  have hl64 := hd.n
  have hc0 := hd.c0
  have hc1 := hd.c1
  have hu := hd.u
  have HPL := hide (fun w' (q : Q w w') => place_any fs n ao cap w' (hr.q q) hu (by omega))
  have HCP := hide (fun w' (q : Q w w') => dkcopy_any c fs ao cap w' (hr.q q) hz46 (by omega))
  have hnl : n.size ≤ 16 := by rw [← bl_size]; exact pth_len hpx.1
  have HCL := hide (fun w' => clone_any n w' (by omega))
  rw [hok] at HM
  rw [hpx.1] at HP
  rw [hpx.2] at HC
  have HE1 : Hid (fulB c fs (bl n) = true → putE c fs (bl n) x = 1201) := fun h => by unfold putE; rw [hok, hok2, h]; rfl
  have HE0 : Hid (fulB c fs (bl n) = false → putE c fs (bl n) x = 0) := fun h => by unfold putE; rw [hok, hok2, h]; rfl
  have HLO := hide (lo_le fs (bl n))
  have HU := hide hu
  have HY : Hid (∀ f, fnF fs (bl n) = some f → ∀ t, fs.set (loF fs (bl n)).length (bl n, x, t) = putL fs (bl n) x t ∧ fs[(loF fs (bl n)).length]? = some f) := fun f hf t => ⟨set_lo hu hf, lo_at hu hf⟩
  have HNW : Hid (∀ f, fnF fs (bl n) = none → ∀ t, (fs.take (loF fs (bl n)).length ++ f :: fs.drop (loF fs (bl n)).length).set (loF fs (bl n)).length (bl n, x, t) = putL fs (bl n) x t) := fun f hf t => set_new hu hf
  generalize (loF fs (bl n)).length = p at *
  clear hok hok2 hpx hd hz hr hn hu hz46
  unfold dkV at HM ⊢
  have HFU : Hid (fulB c fs (bl n) = (decide (c = 1048576) || ((fnF fs (bl n)).isNone && decide (fs.length = 64)))) := rfl
  rw [hf] at HFU
  rw [hf, Option.isSome_some] at HPL
  have HE : Hid (putE c fs (bl n) x = 1201) := unhide HE1 (by rw [unhide HFU, decide_eq_true hm]; rfl)
  have hm' : (c == 1048576) = true := by rw [hm]; rfl
  clear HE1 HE0 HY HNW HFU hf hm
  go_enter Tryd.func5, Tryd.ntmps5
  go_wp2_with fail
  generalize (w.alloc (.cells #[.int .i64 c, .slice ao fs.length cap] 24)).alloc (.cells #[.int .i64 0, .slice none 0 0] 24) = wb at *
  refine (unhide HM _ (unhide HQ)).mono ?_
  rintro e w0 ⟨rfl, q0⟩
  go_wp2_with fail
  refine (unhide HP _).mono ?_
  rintro e w1 ⟨rfl, q1⟩
  have hq1 := hide (q0.trans q1)
  clear q1 q0
  have hx1 := (unhide HB1).q (unhide hq1)
  have a1 : w1.cell? ⟨w.heap.size, 1, none⟩ = some (.slice ao fs.length cap) := hx1.cell 1 rfl
  have HX1 := hide hx1
  clear hx1
  go_wp2_with (go_at_call 18; refine (unhide HC _).mono ?_; rintro e w' ⟨rfl, rfl⟩)
  refine (unhide HPL _ ((unhide HQ).trans (unhide hq1))).mono ?_
  rintro e w2 ⟨rfl, q2⟩
  have hq2 := hide ((unhide hq1).trans q2)
  have hx2 := (unhide HX1).q q2
  have b0 : w2.cell? ⟨w.heap.size, 0, none⟩ = some (.int .i64 c) := hx2.cell 0 rfl
  have b1 : w2.cell? ⟨w.heap.size, 1, none⟩ = some (.slice ao fs.length cap) := hx2.cell 1 rfl
  clear hx2 q2 a1 HX1
  have h2 := (unhide HB2).q (unhide hq2)
  have d0 := h2.cell 0 rfl
  have d1 := h2.cell 1 rfl
  have e0 := h2.frz 0
  have e1 := h2.frz 1
  have H2 := hide h2
  have HQ1 := hide ((unhide HQ).trans (unhide hq2))
  clear h2
  go_wp2_with fail
  obtain ⟨hb, fr⟩ := put2 (unhide H2) (.int .i64 0) (.slice none 0 0)
  have HX := hide (Below.trans (unhide HQ1) (fr.below (unhide HQ1).size (fun k hk => by omega)))
  have g0 := hb.cell 0 rfl
  have g1 := hb.cell 1 rfl
  generalize (World.setCell (World.setCell _ ⟨w.heap.size + 1, 0, none⟩ (.int .i64 0)) ⟨w.heap.size + 1, 1, none⟩ (.slice none 0 0)) = wf at *
  exact bodyPost_ret (v := .tuple #[.agg #[.int .i64 0, .slice none 0 0], .int .i64 1201]) (by simp [results, Tryd.results5, go_sem, g0, g1]) rfl (put_no (unhide HE) (by decide) (unhide HX))

set_option maxRecDepth 20000 in
set_option maxHeartbeats 8000000 in
theorem put_full2 (c : Int) (fs : List Fl) (ao : Option Addr) (cap : Nat) (n : ByteArray) (x : Int) (w : World) (hr : RowK w ao fs) (hz : FlZ fs) (hs : fs.length ≤ cap) (hcap : cap ≤ maxLen) (hn : n.size ≤ maxLen) (hok : dkOk c fs = true) (hok2 : (pthB (bl n) && coOk x) = true) (hf : fnF fs (bl n) = none) (hm : c = 1048576) :
    Calls Tryd.prog 5 #[dkV c ao fs.length cap, .string n, .int .i64 x] w (PutSays c fs (bl n) x w) := by
  have b1 : Blk (w.alloc (.cells #[.int .i64 c, .slice ao fs.length cap] 24)) w.heap.size #[.int .i64 c, .slice ao fs.length cap] 24 := Blk.new w _ _
  have q1 := (Q.refl w).alloc (.cells #[.int .i64 c, .slice ao fs.length cap] 24)
  have b2 := Blk.new (w.alloc (.cells #[.int .i64 c, .slice ao fs.length cap] 24)) #[.int .i64 0, .slice none 0 0] 24
  rw [size_alloc] at b2
  have q2 := (Q.refl (w.alloc (.cells #[.int .i64 c, .slice ao fs.length cap] 24))).alloc (.cells #[.int .i64 0, .slice none 0 0] 24)
  have HB1 := hide (b1.q q2)
  have HB2 := hide b2
  have HQ := hide (q1.trans q2)
  have HM := hide (fun w' (q : Q w w') => dkMay_any c fs ao cap w' (hr.q q) hz hs hcap)
  have HP := hide (pthP_any n · hn)
  have HC := hide (mco_any x)
  clear b1 b2 q1 q2
  have hd := dk_parts hok
  have hpx := Bool.and_eq_true_iff.1 hok2
  have hz46 : ∀ f ∈ fs, f.1.length ≤ 4096 := fun f hf => by have := fl_len (hd.f f hf); omega
  have hl64 := hd.n
  have hc0 := hd.c0
  have hc1 := hd.c1
  have hu := hd.u
  have HPL := hide (fun w' (q : Q w w') => place_any fs n ao cap w' (hr.q q) hu (by omega))
  have HCP := hide (fun w' (q : Q w w') => dkcopy_any c fs ao cap w' (hr.q q) hz46 (by omega))
  have hnl : n.size ≤ 16 := by rw [← bl_size]; exact pth_len hpx.1
  have HCL := hide (fun w' => clone_any n w' (by omega))
  rw [hok] at HM
  rw [hpx.1] at HP
  rw [hpx.2] at HC
  have HE1 : Hid (fulB c fs (bl n) = true → putE c fs (bl n) x = 1201) := fun h => by unfold putE; rw [hok, hok2, h]; rfl
  have HE0 : Hid (fulB c fs (bl n) = false → putE c fs (bl n) x = 0) := fun h => by unfold putE; rw [hok, hok2, h]; rfl
  have HLO := hide (lo_le fs (bl n))
  have HU := hide hu
  have HY : Hid (∀ f, fnF fs (bl n) = some f → ∀ t, fs.set (loF fs (bl n)).length (bl n, x, t) = putL fs (bl n) x t ∧ fs[(loF fs (bl n)).length]? = some f) := fun f hf t => ⟨set_lo hu hf, lo_at hu hf⟩
  have HNW : Hid (∀ f, fnF fs (bl n) = none → ∀ t, (fs.take (loF fs (bl n)).length ++ f :: fs.drop (loF fs (bl n)).length).set (loF fs (bl n)).length (bl n, x, t) = putL fs (bl n) x t) := fun f hf t => set_new hu hf
  generalize (loF fs (bl n)).length = p at *
  clear hok hok2 hpx hd hz hr hn hu hz46
  unfold dkV at HM ⊢
  have HFU : Hid (fulB c fs (bl n) = (decide (c = 1048576) || ((fnF fs (bl n)).isNone && decide (fs.length = 64)))) := rfl
  rw [hf] at HFU
  rw [hf, Option.isSome_none] at HPL
  have HE : Hid (putE c fs (bl n) x = 1201) := unhide HE1 (by rw [unhide HFU, decide_eq_true hm]; rfl)
  have hm' : (c == 1048576) = true := by rw [hm]; rfl
  clear HE1 HE0 HY HNW HFU hf hm
  go_enter Tryd.func5, Tryd.ntmps5
  go_wp2_with fail
  generalize (w.alloc (.cells #[.int .i64 c, .slice ao fs.length cap] 24)).alloc (.cells #[.int .i64 0, .slice none 0 0] 24) = wb at *
  refine (unhide HM _ (unhide HQ)).mono ?_
  rintro e w0 ⟨rfl, q0⟩
  go_wp2_with fail
  refine (unhide HP _).mono ?_
  rintro e w1 ⟨rfl, q1⟩
  have hq1 := hide (q0.trans q1)
  clear q1 q0
  have hx1 := (unhide HB1).q (unhide hq1)
  have a1 : w1.cell? ⟨w.heap.size, 1, none⟩ = some (.slice ao fs.length cap) := hx1.cell 1 rfl
  have HX1 := hide hx1
  clear hx1
  go_wp2_with (go_at_call 18; refine (unhide HC _).mono ?_; rintro e w' ⟨rfl, rfl⟩)
  refine (unhide HPL _ ((unhide HQ).trans (unhide hq1))).mono ?_
  rintro e w2 ⟨rfl, q2⟩
  have hq2 := hide ((unhide hq1).trans q2)
  have hx2 := (unhide HX1).q q2
  have b0 : w2.cell? ⟨w.heap.size, 0, none⟩ = some (.int .i64 c) := hx2.cell 0 rfl
  have b1 : w2.cell? ⟨w.heap.size, 1, none⟩ = some (.slice ao fs.length cap) := hx2.cell 1 rfl
  clear hx2 q2 a1 HX1
  have h2 := (unhide HB2).q (unhide hq2)
  have d0 := h2.cell 0 rfl
  have d1 := h2.cell 1 rfl
  have e0 := h2.frz 0
  have e1 := h2.frz 1
  have H2 := hide h2
  have HQ1 := hide ((unhide HQ).trans (unhide hq2))
  clear h2
  go_wp2_with fail
  obtain ⟨hb, fr⟩ := put2 (unhide H2) (.int .i64 0) (.slice none 0 0)
  have HX := hide (Below.trans (unhide HQ1) (fr.below (unhide HQ1).size (fun k hk => by omega)))
  have g0 := hb.cell 0 rfl
  have g1 := hb.cell 1 rfl
  generalize (World.setCell (World.setCell _ ⟨w.heap.size + 1, 0, none⟩ (.int .i64 0)) ⟨w.heap.size + 1, 1, none⟩ (.slice none 0 0)) = wf at *
  exact bodyPost_ret (v := .tuple #[.agg #[.int .i64 0, .slice none 0 0], .int .i64 1201]) (by simp [results, Tryd.results5, go_sem, g0, g1]) rfl (put_no (unhide HE) (by decide) (unhide HX))

set_option maxRecDepth 20000 in
set_option maxHeartbeats 8000000 in
theorem put_full3 (c : Int) (fs : List Fl) (ao : Option Addr) (cap : Nat) (n : ByteArray) (x : Int) (w : World) (hr : RowK w ao fs) (hz : FlZ fs) (hs : fs.length ≤ cap) (hcap : cap ≤ maxLen) (hn : n.size ≤ maxLen) (hok : dkOk c fs = true) (hok2 : (pthB (bl n) && coOk x) = true) (hf : fnF fs (bl n) = none) (hm : ¬ c = 1048576) (h64 : fs.length = 64) :
    Calls Tryd.prog 5 #[dkV c ao fs.length cap, .string n, .int .i64 x] w (PutSays c fs (bl n) x w) := by
  have b1 : Blk (w.alloc (.cells #[.int .i64 c, .slice ao fs.length cap] 24)) w.heap.size #[.int .i64 c, .slice ao fs.length cap] 24 := Blk.new w _ _
  have q1 := (Q.refl w).alloc (.cells #[.int .i64 c, .slice ao fs.length cap] 24)
  have b2 := Blk.new (w.alloc (.cells #[.int .i64 c, .slice ao fs.length cap] 24)) #[.int .i64 0, .slice none 0 0] 24
  rw [size_alloc] at b2
  have q2 := (Q.refl (w.alloc (.cells #[.int .i64 c, .slice ao fs.length cap] 24))).alloc (.cells #[.int .i64 0, .slice none 0 0] 24)
  have HB1 := hide (b1.q q2)
  have HB2 := hide b2
  have HQ := hide (q1.trans q2)
  have HM := hide (fun w' (q : Q w w') => dkMay_any c fs ao cap w' (hr.q q) hz hs hcap)
  have HP := hide (pthP_any n · hn)
  have HC := hide (mco_any x)
  clear b1 b2 q1 q2
  have hd := dk_parts hok
  have hpx := Bool.and_eq_true_iff.1 hok2
  have hz46 : ∀ f ∈ fs, f.1.length ≤ 4096 := fun f hf => by have := fl_len (hd.f f hf); omega
  have hl64 := hd.n
  have hc0 := hd.c0
  have hc1 := hd.c1
  have hu := hd.u
  have HPL := hide (fun w' (q : Q w w') => place_any fs n ao cap w' (hr.q q) hu (by omega))
  have HCP := hide (fun w' (q : Q w w') => dkcopy_any c fs ao cap w' (hr.q q) hz46 (by omega))
  have hnl : n.size ≤ 16 := by rw [← bl_size]; exact pth_len hpx.1
  have HCL := hide (fun w' => clone_any n w' (by omega))
  rw [hok] at HM
  rw [hpx.1] at HP
  rw [hpx.2] at HC
  have HE1 : Hid (fulB c fs (bl n) = true → putE c fs (bl n) x = 1201) := fun h => by unfold putE; rw [hok, hok2, h]; rfl
  have HE0 : Hid (fulB c fs (bl n) = false → putE c fs (bl n) x = 0) := fun h => by unfold putE; rw [hok, hok2, h]; rfl
  have HLO := hide (lo_le fs (bl n))
  have HU := hide hu
  have HY : Hid (∀ f, fnF fs (bl n) = some f → ∀ t, fs.set (loF fs (bl n)).length (bl n, x, t) = putL fs (bl n) x t ∧ fs[(loF fs (bl n)).length]? = some f) := fun f hf t => ⟨set_lo hu hf, lo_at hu hf⟩
  have HNW : Hid (∀ f, fnF fs (bl n) = none → ∀ t, (fs.take (loF fs (bl n)).length ++ f :: fs.drop (loF fs (bl n)).length).set (loF fs (bl n)).length (bl n, x, t) = putL fs (bl n) x t) := fun f hf t => set_new hu hf
  generalize (loF fs (bl n)).length = p at *
  clear hok hok2 hpx hd hz hr hn hu hz46
  unfold dkV at HM ⊢
  have HFU : Hid (fulB c fs (bl n) = (decide (c = 1048576) || ((fnF fs (bl n)).isNone && decide (fs.length = 64)))) := rfl
  rw [hf] at HFU
  rw [hf, Option.isSome_none] at HPL
  have HE : Hid (putE c fs (bl n) x = 1201) := unhide HE1 (by rw [unhide HFU, decide_eq_true h64]; simp)
  have hm' : (c == 1048576) = false := beq_eq_false_iff_ne.2 hm
  have h64' : ((fs.length : Int) == 64) = true := by rw [h64]; rfl
  clear HE1 HE0 HY HNW HFU hf hm h64
  go_enter Tryd.func5, Tryd.ntmps5
  go_wp2_with fail
  generalize (w.alloc (.cells #[.int .i64 c, .slice ao fs.length cap] 24)).alloc (.cells #[.int .i64 0, .slice none 0 0] 24) = wb at *
  refine (unhide HM _ (unhide HQ)).mono ?_
  rintro e w0 ⟨rfl, q0⟩
  go_wp2_with fail
  refine (unhide HP _).mono ?_
  rintro e w1 ⟨rfl, q1⟩
  have hq1 := hide (q0.trans q1)
  clear q1 q0
  have hx1 := (unhide HB1).q (unhide hq1)
  have a1 : w1.cell? ⟨w.heap.size, 1, none⟩ = some (.slice ao fs.length cap) := hx1.cell 1 rfl
  have HX1 := hide hx1
  clear hx1
  go_wp2_with (go_at_call 18; refine (unhide HC _).mono ?_; rintro e w' ⟨rfl, rfl⟩)
  refine (unhide HPL _ ((unhide HQ).trans (unhide hq1))).mono ?_
  rintro e w2 ⟨rfl, q2⟩
  have hq2 := hide ((unhide hq1).trans q2)
  have hx2 := (unhide HX1).q q2
  have b0 : w2.cell? ⟨w.heap.size, 0, none⟩ = some (.int .i64 c) := hx2.cell 0 rfl
  have b1 : w2.cell? ⟨w.heap.size, 1, none⟩ = some (.slice ao fs.length cap) := hx2.cell 1 rfl
  clear hx2 q2 a1 HX1
  have h2 := (unhide HB2).q (unhide hq2)
  have d0 := h2.cell 0 rfl
  have d1 := h2.cell 1 rfl
  have e0 := h2.frz 0
  have e1 := h2.frz 1
  have H2 := hide h2
  have HQ1 := hide ((unhide HQ).trans (unhide hq2))
  clear h2
  go_wp2_with fail
  obtain ⟨hb, fr⟩ := put2 (unhide H2) (.int .i64 0) (.slice none 0 0)
  have HX := hide (Below.trans (unhide HQ1) (fr.below (unhide HQ1).size (fun k hk => by omega)))
  have g0 := hb.cell 0 rfl
  have g1 := hb.cell 1 rfl
  generalize (World.setCell (World.setCell _ ⟨w.heap.size + 1, 0, none⟩ (.int .i64 0)) ⟨w.heap.size + 1, 1, none⟩ (.slice none 0 0)) = wf at *
  exact bodyPost_ret (v := .tuple #[.agg #[.int .i64 0, .slice none 0 0], .int .i64 1201]) (by simp [results, Tryd.results5, go_sem, g0, g1]) rfl (put_no (unhide HE) (by decide) (unhide HX))

end Go.Proofs.YtjalklmgdkhekaaDoor
