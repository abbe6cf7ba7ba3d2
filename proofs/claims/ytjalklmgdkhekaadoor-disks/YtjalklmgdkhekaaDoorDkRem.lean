/- What package disk's Remove and Find answer; the conditions: the files lie in memory, no name is longer than a string can be. -/
import Derived.Test.YtjalklmgdkhekaaDoorDkPut
namespace Go.Proofs.YtjalklmgdkhekaaDoor
open Go.RowKit

/-- What a Remove answers. -/
def RemSays (c : Int) (fs : List Fl) (n : Tx) (w : World) (e : Ending) (w' : World) : Prop :=
  ∃ ao cap, e = .returned (.tuple #[dkV (remC c fs n) ao (remF c fs n).length cap, .int .i64 (remE c fs n)]) ∧ OwnK w' w.heap.size ao cap (remF c fs n) ∧ Q w w'
theorem rem_no {c : Int} {fs : List Fl} {n : Tx} {m : Int} {w w' : World} (h : remE c fs n = m) (hm : m ≠ 0) (q : Q w w') : RemSays c fs n w (.returned (.tuple #[.agg #[.int .i64 0, .slice none 0 0], .int .i64 m])) w' := by
  have h0 : remE c fs n ≠ 0 := by rw [h]; exact hm
  have e1 : remC c fs n = 0 := by unfold remC; rw [if_neg h0]
  have e2 : remF c fs n = [] := by unfold remF; rw [if_neg h0]
  exact ⟨none, 0, by rw [e1, e2, h]; rfl, by rw [e2]; exact World.ownsRow_nil _ _ _ _, q⟩
theorem rem_yes {c : Int} {fs : List Fl} {n : Tx} {w w' : World} {ao : Option Addr} {cap : Nat} (h : remE c fs n = 0) (own : OwnK w' w.heap.size ao cap (remL fs n)) (q : Q w w') : RemSays c fs n w (.returned (.tuple #[.agg #[.int .i64 c, .slice ao (remL fs n).length cap], .int .i64 0])) w' := by
  have e1 : remC c fs n = c := by unfold remC; rw [if_pos h]
  have e2 : remF c fs n = remL fs n := by unfold remF; rw [if_pos h]
  exact ⟨ao, cap, by rw [e1, e2, h], by rw [e2]; exact own, q⟩
theorem rem_td {fs : List Fl} {n : Tx} {f : Fl} (hu : Up fs) (hf : fnF fs n = some f) : fs.take (loF fs n).length ++ fs.drop ((loF fs n).length + 1) = remL fs n := by
  have h := drop_lo (n := n) hu
  rw [hf] at h
  rw [take_lo hu, rem_lo hu, ← List.drop_drop, h]
  rfl

set_option maxRecDepth 20000 in
set_option maxHeartbeats 8000000 in
theorem dkRem_any (c : Int) (fs : List Fl) (ao : Option Addr) (cap : Nat) (n : ByteArray) (w : World) (hr : RowK w ao fs) (hz : FlZ fs) (hs : fs.length ≤ cap) (hcap : cap ≤ maxLen) (hn : n.size ≤ maxLen) :
    Calls Tryd.prog 7 #[dkV c ao fs.length cap, .string n] w (RemSays c fs (bl n) w) := by
  have b1 : Blk (w.alloc (.cells #[.int .i64 c, .slice ao fs.length cap] 24)) w.heap.size #[.int .i64 c, .slice ao fs.length cap] 24 := Blk.new w _ _
  have q1 := (Q.refl w).alloc (.cells #[.int .i64 c, .slice ao fs.length cap] 24)
  have b2 := Blk.new (w.alloc (.cells #[.int .i64 c, .slice ao fs.length cap] 24)) #[.int .i64 0, .slice none 0 0] 24
  rw [size_alloc] at b2
  have q2 := (Q.refl (w.alloc (.cells #[.int .i64 c, .slice ao fs.length cap] 24))).alloc (.cells #[.int .i64 0, .slice none 0 0] 24)
  have HB1 := hide (b1.q q2)
  have HB2 := hide b2
  have HQ := hide (q1.trans q2)
  have HM := hide (fun w' (q : Q w w') => dkMay_any c fs ao cap w' (hr.q q) hz hs hcap)
  have HP := hide (pthP_any n · hn)
  clear b1 b2 q1 q2
  cases hok : dkOk c fs
  · have HE : Hid (remE c fs (bl n) = 1200) := by show _ = _; unfold remE; rw [hok]; rfl
    rw [hok] at HM
    clear hok hr hz hn
    unfold dkV at HM ⊢
    go_enter Tryd.func7, Tryd.ntmps7
    go_wp2_with fail
    generalize (w.alloc (.cells #[.int .i64 c, .slice ao fs.length cap] 24)).alloc (.cells #[.int .i64 0, .slice none 0 0] 24) = wb at *
    refine (unhide HM _ (unhide HQ)).mono ?_
    rintro e w1 ⟨rfl, q1⟩
    have hq1 := hide q1
    clear q1
    have h2 := (unhide HB2).q (unhide hq1)
    have d0 := h2.cell 0 rfl
    have d1 := h2.cell 1 rfl
    have e0 := h2.frz 0
    have e1 := h2.frz 1
    have H2 := hide h2
    have HQ1 := hide ((unhide HQ).trans (unhide hq1))
    clear h2
    go_wp2_with fail
    obtain ⟨hb, fr⟩ := put2 (unhide H2) (.int .i64 0) (.slice none 0 0)
    have HX := hide (Below.trans (unhide HQ1) (fr.below (unhide HQ1).size (fun k hk => by omega)))
    have g0 := hb.cell 0 rfl
    have g1 := hb.cell 1 rfl
    generalize (World.setCell (World.setCell _ ⟨w.heap.size + 1, 0, none⟩ (.int .i64 0)) ⟨w.heap.size + 1, 1, none⟩ (.slice none 0 0)) = wf at *
    exact bodyPost_ret (v := .tuple #[.agg #[.int .i64 0, .slice none 0 0], .int .i64 1200]) (by simp [results, Tryd.results7, go_sem, g0, g1]) rfl (rem_no (unhide HE) (by decide) (unhide HX))
  cases hok2 : pthB (bl n)
  · have HE : Hid (remE c fs (bl n) = 1200) := by show _ = _; unfold remE; rw [hok2, Bool.and_false]; rfl
    rw [hok] at HM
    rw [hok2] at HP
    clear hok hok2 hr hz hn
    unfold dkV at HM ⊢
    go_enter Tryd.func7, Tryd.ntmps7
    go_wp2_with fail
    generalize (w.alloc (.cells #[.int .i64 c, .slice ao fs.length cap] 24)).alloc (.cells #[.int .i64 0, .slice none 0 0] 24) = wb at *
    refine (unhide HM _ (unhide HQ)).mono ?_
    rintro e w0 ⟨rfl, q0⟩
    go_wp2_with fail
    refine (unhide HP _).mono ?_
    rintro e w1 ⟨rfl, q1⟩
    have hq1 := hide (q0.trans q1)
    clear q1 q0
    have h2 := (unhide HB2).q (unhide hq1)
    have d0 := h2.cell 0 rfl
    have d1 := h2.cell 1 rfl
    have e0 := h2.frz 0
    have e1 := h2.frz 1
    have H2 := hide h2
    have HQ1 := hide ((unhide HQ).trans (unhide hq1))
    clear h2
    go_wp2_with fail
    obtain ⟨hb, fr⟩ := put2 (unhide H2) (.int .i64 0) (.slice none 0 0)
    have HX := hide (Below.trans (unhide HQ1) (fr.below (unhide HQ1).size (fun k hk => by omega)))
    have g0 := hb.cell 0 rfl
    have g1 := hb.cell 1 rfl
    generalize (World.setCell (World.setCell _ ⟨w.heap.size + 1, 0, none⟩ (.int .i64 0)) ⟨w.heap.size + 1, 1, none⟩ (.slice none 0 0)) = wf at *
    exact bodyPost_ret (v := .tuple #[.agg #[.int .i64 0, .slice none 0 0], .int .i64 1200]) (by simp [results, Tryd.results7, go_sem, g0, g1]) rfl (rem_no (unhide HE) (by decide) (unhide HX))
  have hd := dk_parts hok
  have hz46 : ∀ f ∈ fs, f.1.length ≤ 4096 := fun f hf => by have := fl_len (hd.f f hf); omega
  have hl64 := hd.n
  have hu := hd.u
  have HPL := hide (fun w' (q : Q w w') => place_any fs n ao cap w' (hr.q q) hu (by omega))
  have HCP := hide (fun w' (q : Q w w') => dkcopy_any c fs ao cap w' (hr.q q) hz46 (by omega))
  rw [hok] at HM
  rw [hok2] at HP
  cases hf : fnF fs (bl n) with
  | none =>
    have HE : Hid (remE c fs (bl n) = 1202) := by show _ = _; unfold remE; rw [hok, hok2, hf]; rfl
    rw [hf, Option.isSome_none] at HPL
    generalize (loF fs (bl n)).length = p at *
    clear hok hok2 hd hz hr hn hu hz46 hf HCP
    unfold dkV at HM ⊢
    go_enter Tryd.func7, Tryd.ntmps7
    go_wp2_with fail
    generalize (w.alloc (.cells #[.int .i64 c, .slice ao fs.length cap] 24)).alloc (.cells #[.int .i64 0, .slice none 0 0] 24) = wb at *
    refine (unhide HM _ (unhide HQ)).mono ?_
    rintro e w0 ⟨rfl, q0⟩
    go_wp2_with fail
    refine (unhide HP _).mono ?_
    rintro e w1 ⟨rfl, q1⟩
    have hq1 := hide (q0.trans q1)
    clear q1 q0
    have hx1 := (unhide HB1).q (unhide hq1)
    have a1 : w1.cell? ⟨w.heap.size, 1, none⟩ = some (.slice ao fs.length cap) := hx1.cell 1 rfl
    have HX1 := hide hx1
    clear hx1
    go_wp2_with fail
    refine (unhide HPL _ ((unhide HQ).trans (unhide hq1))).mono ?_
    rintro e w2 ⟨rfl, q2⟩
    have hq2 := hide ((unhide hq1).trans q2)
    have hx2 := (unhide HX1).q q2
    have b0 : w2.cell? ⟨w.heap.size, 0, none⟩ = some (.int .i64 c) := hx2.cell 0 rfl
    have b1 : w2.cell? ⟨w.heap.size, 1, none⟩ = some (.slice ao fs.length cap) := hx2.cell 1 rfl
    clear hx2 q2 a1 HX1
    have h2 := (unhide HB2).q (unhide hq2)
    have d0 := h2.cell 0 rfl
    have d1 := h2.cell 1 rfl
    have e0 := h2.frz 0
    have e1 := h2.frz 1
    have H2 := hide h2
    have HQ1 := hide ((unhide HQ).trans (unhide hq2))
    clear h2
    go_wp2_with fail
    obtain ⟨hb, fr⟩ := put2 (unhide H2) (.int .i64 0) (.slice none 0 0)
    have HX := hide (Below.trans (unhide HQ1) (fr.below (unhide HQ1).size (fun k hk => by omega)))
    have g0 := hb.cell 0 rfl
    have g1 := hb.cell 1 rfl
    generalize (World.setCell (World.setCell _ ⟨w.heap.size + 1, 0, none⟩ (.int .i64 0)) ⟨w.heap.size + 1, 1, none⟩ (.slice none 0 0)) = wf at *
    exact bodyPost_ret (v := .tuple #[.agg #[.int .i64 0, .slice none 0 0], .int .i64 1202]) (by simp [results, Tryd.results7, go_sem, g0, g1]) rfl (rem_no (unhide HE) (by decide) (unhide HX))
  | some f0 =>
    have HE : Hid (remE c fs (bl n) = 0) := by show _ = _; unfold remE; rw [hok, hok2, hf]; rfl
    rw [hf, Option.isSome_some] at HPL
    have HS := hide (rem_td hu hf)
    have HGP := hide (lo_at hu hf)
    generalize (loF fs (bl n)).length = p at *
    clear hok hok2 hd hz hr hn hu hz46 hf
    unfold dkV at HM HCP ⊢
    go_enter Tryd.func7, Tryd.ntmps7
    go_wp2_with fail
    generalize (w.alloc (.cells #[.int .i64 c, .slice ao fs.length cap] 24)).alloc (.cells #[.int .i64 0, .slice none 0 0] 24) = wb at *
    refine (unhide HM _ (unhide HQ)).mono ?_
    rintro e w0 ⟨rfl, q0⟩
    go_wp2_with fail
    refine (unhide HP _).mono ?_
    rintro e w1 ⟨rfl, q1⟩
    have hq1 := hide (q0.trans q1)
    clear q1 q0
    have hx1 := (unhide HB1).q (unhide hq1)
    have a1 : w1.cell? ⟨w.heap.size, 1, none⟩ = some (.slice ao fs.length cap) := hx1.cell 1 rfl
    have HX1 := hide hx1
    clear hx1
    go_wp2_with fail
    refine (unhide HPL _ ((unhide HQ).trans (unhide hq1))).mono ?_
    rintro e w2 ⟨rfl, q2⟩
    have hq2 := hide ((unhide hq1).trans q2)
    have hx2 := (unhide HX1).q q2
    have b0 : w2.cell? ⟨w.heap.size, 0, none⟩ = some (.int .i64 c) := hx2.cell 0 rfl
    have b1 : w2.cell? ⟨w.heap.size, 1, none⟩ = some (.slice ao fs.length cap) := hx2.cell 1 rfl
    clear hx2 q2 a1 HX1
    have hpl : p < fs.length := (List.getElem?_eq_some_iff.1 (unhide HGP)).1
    have hw1 : IntKind.i64.wrap ((p : Int) + 1) = (p : Int) + 1 := by rw [IntKind.wrap_i64]; omega
    go_wp2_with fail
    refine (unhide HCP _ ((unhide HQ).trans (unhide hq2))).mono ?_
    rintro e w4 ⟨co, ccap, rfl, own4, q4⟩
    have HO4 := hide own4
    have hq4 := hide ((unhide hq2).trans q4)
    clear own4 q4 b0 b1
    obtain ⟨g, rfl, hgB, hg, _, _⟩ := own_some fv_len (by decide) (by omega) (unhide HO4)
    have hgw : w.heap.size ≤ g := Nat.le_trans ((unhide HQ).trans (unhide hq2)).size hgB
    have qa := (Q.refl w4).alloc (.cells #[.int .i64 c, .slice (some ⟨g, 0, none⟩) fs.length ccap] 24)
    have hY4 : Blk (w4.alloc (.cells #[.int .i64 c, .slice (some ⟨g, 0, none⟩) fs.length ccap] 24)) w4.heap.size #[.int .i64 c, .slice (some ⟨g, 0, none⟩) fs.length ccap] 24 := Blk.new w4 _ _
    have hO5 := own_q (unhide HO4) qa
    have HDL := hide (delete_any fs g ccap _ p _ hO5 (by omega) hpl)
    have HR5 := hide ((unhide HB2).q ((unhide hq4).trans qa))
    have hq5 := hide ((unhide HQ).trans ((unhide hq4).trans qa))
    have HO5 := hide hO5
    have HY4 := hide hY4
    have HYW := hide (show w.heap.size ≤ w4.heap.size from ((unhide HQ).trans (unhide hq4)).size)
    have HYR := hide (show w.heap.size + 1 ≠ w4.heap.size from fun e => by have := ((unhide HB2).q (unhide hq4)).hi; omega)
    clear qa hY4 hO5 HO4 hgB
    go_wp2_with fail
    generalize w4.alloc (.cells #[.int .i64 c, .slice (some ⟨g, 0, none⟩) fs.length ccap] 24) = w5 at *
    generalize hY : w4.heap.size = Y at *
    refine (unhide HDL).mono ?_
    rintro e w6 ⟨rfl, own6, fr6⟩
    have hY6 := (unhide HY4).fr fr6 (fun e => (unhide HY4).row (unhide HO5) (by decide) g rfl e.symm)
    have hR6 := (unhide HR5).fr fr6 (fun e => (unhide HR5).row (unhide HO5) (by decide) g rfl e.symm)
    have HW6 := hide (Below.trans (unhide hq5) (fr6.below (unhide hq5).size (fun k hk => by rw [hk]; exact hgw)))
    have y1 := hY6.cell 1 rfl
    have y2 := hY6.frz 1
    have frS := Fr.set w6 Y 1 (.slice (some ⟨g, 0, none⟩) (fs.length - 1) ccap)
    have hY7 : Blk (w6.setCell ⟨Y, 1, none⟩ (.slice (some ⟨g, 0, none⟩) (fs.length - 1) ccap)) Y #[.int .i64 c, .slice (some ⟨g, 0, none⟩) (fs.length - 1) ccap] 24 := hY6.set 1 _
    have hR7 := hR6.fr frS (fun e => unhide HYR e)
    have o7 := own_low (own_fr own6 frS (fun k hk => hY6.row own6 (by decide) k hk)) (Nat.le_trans (unhide HQ).size (unhide hq2).size)
    have HQ7 := hide (Below.trans (unhide HW6) (frS.below (unhide HW6).size (fun k hk => by rw [hk]; exact unhide HYW)))
    have hl7 : (remL fs (bl n)).length = fs.length - 1 := by rw [← unhide HS]; simp; omega
    have HO7 := hide (OwnK.as o7 (unhide HS))
    have a0 := hY7.cell 0 rfl
    have a1 := hY7.cell 1 rfl
    have d0 := hR7.cell 0 rfl
    have d1 := hR7.cell 1 rfl
    have e0 := hR7.frz 0
    have e1 := hR7.frz 1
    have H2 := hide hR7
    have HL7 := hide hl7
    clear hY6 hR6 hY7 hR7 o7 own6 fr6 frS hl7 HDL
    go_wp2_with fail
    generalize w6.setCell ⟨Y, 1, none⟩ (.slice (some ⟨g, 0, none⟩) (fs.length - 1) ccap) = w7 at *
    obtain ⟨hb, fr⟩ := put2 (unhide H2) (.int .i64 c) (.slice (some ⟨g, 0, none⟩) (fs.length - 1) ccap)
    have HX := hide (Below.trans (unhide HQ7) (fr.below (unhide HQ7).size (fun k hk => by omega)))
    have HOX := hide (own_fr (unhide HO7) fr (fun k hk => (unhide H2).row (unhide HO7) (by decide) k hk))
    have g0 := hb.cell 0 rfl
    have g1 := hb.cell 1 rfl
    generalize (World.setCell (World.setCell _ ⟨w.heap.size + 1, 0, none⟩ (.int .i64 c)) ⟨w.heap.size + 1, 1, none⟩ (.slice (some ⟨g, 0, none⟩) (fs.length - 1) ccap)) = wf at *
    exact bodyPost_ret (v := .tuple #[.agg #[.int .i64 c, .slice (some ⟨g, 0, none⟩) (fs.length - 1) ccap], .int .i64 0]) (by simp [results, Tryd.results7, go_sem, g0, g1]) rfl (by have h := rem_yes (unhide HE) (unhide HOX) (unhide HX); rw [unhide HL7] at h; exact h)

end Go.Proofs.YtjalklmgdkhekaaDoor
