/- What package disk's Put answers; the conditions: the files lie in memory, no name is longer than a string can be. -/
import Derived.Test.YtjalklmgdkhekaaDoorDkMay
import Derived.Test.YtjalklmgdkhekaaDoorDkIns
namespace Go.Proofs.YtjalklmgdkhekaaDoor
open Go.RowKit

/-- What a Put answers. -/
def PutSays (c : Int) (fs : List Fl) (n : Tx) (x : Int) (w : World) (e : Ending) (w' : World) : Prop :=
  ∃ ao cap, e = .returned (.tuple #[dkV (putC c fs n x) ao (putF c fs n x).length cap, .int .i64 (putE c fs n x)]) ∧ OwnK w' w.heap.size ao cap (putF c fs n x) ∧ Q w w'
theorem put_no {c : Int} {fs : List Fl} {n : Tx} {x m : Int} {w w' : World} (h : putE c fs n x = m) (hm : m ≠ 0) (q : Q w w') : PutSays c fs n x w (.returned (.tuple #[.agg #[.int .i64 0, .slice none 0 0], .int .i64 m])) w' := by
  have h0 : putE c fs n x ≠ 0 := by rw [h]; exact hm
  have e1 : putC c fs n x = 0 := by unfold putC; rw [if_neg h0]
  have e2 : putF c fs n x = [] := by unfold putF; rw [if_neg h0]
  exact ⟨none, 0, by rw [e1, e2, h]; rfl, by rw [e2]; exact World.ownsRow_nil _ _ _ _, q⟩
theorem put_yes {c : Int} {fs : List Fl} {n : Tx} {x : Int} {w w' : World} {ao : Option Addr} {cap : Nat} (h : putE c fs n x = 0) (own : OwnK w' w.heap.size ao cap (putL fs n x (c + 1))) (q : Q w w') : PutSays c fs n x w (.returned (.tuple #[.agg #[.int .i64 (c + 1), .slice ao (putL fs n x (c + 1)).length cap], .int .i64 0])) w' := by
  have e1 : putC c fs n x = c + 1 := by unfold putC; rw [if_pos h]
  have e2 : putF c fs n x = putL fs n x (c + 1) := by unfold putF; rw [if_pos h]
  exact ⟨ao, cap, by rw [e1, e2, h], by rw [e2]; exact own, q⟩

theorem set_lo {fs : List Fl} {n : Tx} {f : Fl} {x t : Int} (hu : Up fs) (hf : fnF fs n = some f) : fs.set (loF fs n).length (n, x, t) = putL fs n x t := by
  have e := splitF (n := n) hu
  conv => lhs; arg 1; rw [e]
  rw [hf, List.set_append_right _ _ (Nat.le_refl _), Nat.sub_self]
  rfl
theorem set_new {fs : List Fl} {n : Tx} {f : Fl} {x t : Int} (hu : Up fs) (hf : fnF fs n = none) : (fs.take (loF fs n).length ++ f :: fs.drop (loF fs n).length).set (loF fs n).length (n, x, t) = putL fs n x t := by
  rw [take_lo hu, drop_lo hu, hf, List.set_append_right _ _ (Nat.le_refl _), Nat.sub_self]
  rfl
theorem set_own {w : World} {B cap g p : Nat} {fs : List Fl} {f : Fl} (h : OwnK w B (some ⟨g, 0, none⟩) cap fs) (hf : fs[p]? = some f) (y : Fl) :
    OwnK (((w.setCell ⟨g, p * 3, none⟩ (.string ⟨y.1.toArray⟩)).setCell ⟨g, p * 3 + 1, none⟩ (.int .i64 y.2.1)).setCell ⟨g, p * 3 + 2, none⟩ (.int .i64 y.2.2)) B (some ⟨g, 0, none⟩) cap (fs.set p y) := by
  obtain ⟨hlt, _⟩ := List.getElem?_eq_some_iff.1 hf
  have h1 := own_set fv_len h p 0 f (y.1, f.2.1, f.2.2) (.string ⟨y.1.toArray⟩) hf (by decide) rfl
  rw [Nat.add_zero] at h1
  have h2 := own_set fv_len h1 p 1 (y.1, f.2.1, f.2.2) (y.1, y.2.1, f.2.2) (.int .i64 y.2.1) (List.getElem?_set_self hlt) (by decide) rfl
  have h3 := own_set fv_len h2 p 2 (y.1, y.2.1, f.2.2) y (.int .i64 y.2.2) (List.getElem?_set_self (by rw [List.length_set]; exact hlt)) (by decide) rfl
  rw [List.set_set, List.set_set] at h3
  show World.ownsRow _ _ _ _ (.slice _ (fs.set _ _).length _) (fs.set _ _).length _
  rw [List.length_set]
  exact h3
theorem row3 {w : World} {B cap g p : Nat} {fs : List Fl} {f : Fl} (h : OwnK w B (some ⟨g, 0, none⟩) cap fs) (hf : fs[p]? = some f) :
    (w.cell? ⟨g, p * 3, none⟩ = some (.string ⟨f.1.toArray⟩) ∧ w.cell? ⟨g, p * 3 + 1, none⟩ = some (.int .i64 f.2.1) ∧ w.cell? ⟨g, p * 3 + 2, none⟩ = some (.int .i64 f.2.2)) ∧
      (w.frozen? ⟨g, p * 3, none⟩ = false ∧ w.frozen? ⟨g, p * 3 + 1, none⟩ = false ∧ w.frozen? ⟨g, p * 3 + 2, none⟩ = false) ∧ B ≤ g := by
  obtain ⟨hlt, _⟩ := List.getElem?_eq_some_iff.1 hf
  obtain ⟨g', e, hB, _, hfz, hc⟩ := own_some fv_len (by decide) (by omega) h
  cases e
  exact ⟨⟨hc p 0 f _ hf (by decide) rfl, hc p 1 f _ hf (by decide) rfl, hc p 2 f _ hf (by decide) rfl⟩, ⟨hfz _, hfz _, hfz _⟩, hB⟩

/-- A file is written into its place. -/
theorem put_state {w5 : World} {Y g R B cap m p : Nat} {gs : List Fl} {fz : Fl} {c1 : Int} {n : ByteArray} {x : Int} (hY : Blk w5 Y #[.int .i64 c1, .slice (some ⟨g, 0, none⟩) m cap] 24) (hR : Blk w5 R #[.int .i64 0, .slice none 0 0] 24) (own : OwnK w5 B (some ⟨g, 0, none⟩) cap gs) (hf : gs[p]? = some fz) :
    Blk (((w5.setCell ⟨g, p * 3, none⟩ (.string n)).setCell ⟨g, p * 3 + 1, none⟩ (.int .i64 x)).setCell ⟨g, p * 3 + 2, none⟩ (.int .i64 c1)) Y #[.int .i64 c1, .slice (some ⟨g, 0, none⟩) m cap] 24 ∧
    Blk (((w5.setCell ⟨g, p * 3, none⟩ (.string n)).setCell ⟨g, p * 3 + 1, none⟩ (.int .i64 x)).setCell ⟨g, p * 3 + 2, none⟩ (.int .i64 c1)) R #[.int .i64 0, .slice none 0 0] 24 ∧
    OwnK (((w5.setCell ⟨g, p * 3, none⟩ (.string n)).setCell ⟨g, p * 3 + 1, none⟩ (.int .i64 x)).setCell ⟨g, p * 3 + 2, none⟩ (.int .i64 c1)) B (some ⟨g, 0, none⟩) cap (gs.set p (bl n, x, c1)) ∧
    Fr (fun k => k = g) w5 (((w5.setCell ⟨g, p * 3, none⟩ (.string n)).setCell ⟨g, p * 3 + 1, none⟩ (.int .i64 x)).setCell ⟨g, p * 3 + 2, none⟩ (.int .i64 c1)) := by
  have fr : Fr (fun k => k = g) w5 (((w5.setCell ⟨g, p * 3, none⟩ (.string n)).setCell ⟨g, p * 3 + 1, none⟩ (.int .i64 x)).setCell ⟨g, p * 3 + 2, none⟩ (.int .i64 c1)) :=
    (Fr.set w5 g (p * 3) _).trans ((Fr.set _ g (p * 3 + 1) _).trans (Fr.set _ g (p * 3 + 2) _))
  have h3 := set_own own hf (bl n, x, c1)
  rw [← (of_bl rfl : n = ⟨(bl n).toArray⟩)] at h3
  exact ⟨hY.fr fr (fun e => hY.row own (by decide) g rfl e.symm), hR.fr fr (fun e => hR.row own (by decide) g rfl e.symm), h3, fr⟩

set_option maxRecDepth 20000 in
set_option maxHeartbeats 8000000 in
theorem put_form1 (c : Int) (fs : List Fl) (ao : Option Addr) (cap : Nat) (n : ByteArray) (x : Int) (w : World) (hr : RowK w ao fs) (hz : FlZ fs) (hs : fs.length ≤ cap) (hcap : cap ≤ maxLen) (hn : n.size ≤ maxLen) (hok : dkOk c fs = false) :
    Calls Tryd.prog 5 #[dkV c ao fs.length cap, .string n, .int .i64 x] w (PutSays c fs (bl n) x w) := by
  have b1 : Blk (w.alloc (.cells #[.int .i64 c, .slice ao fs.length cap] 24)) w.heap.size #[.int .i64 c, .slice ao fs.length cap] 24 := Blk.new w _ _
  have q1 := (Q.refl w).alloc (.cells #[.int .i64 c, .slice ao fs.length cap] 24)
  have b2 := Blk.new (w.alloc (.cells #[.int .i64 c, .slice ao fs.length cap] 24)) #[.int .i64 0, .slice none 0 0] 24
  rw [size_alloc] at b2
  have q2 := (Q.refl (w.alloc (.cells #[.int .i64 c, .slice ao fs.length cap] 24))).alloc (.cells #[.int .i64 0, .slice none 0 0] 24)
  have HB1 := hide (b1.q q2)
  have HB2 := hide b2
  have HQ := hide (q1.trans q2)
  have HM := hide (fun w' (q : Q w w') => dkMay_any c fs ao cap w' (hr.q q) hz hs hcap)
  have HP := hide (pthP_any n · hn)
  have HC := hide (mco_any x)
  clear b1 b2 q1 q2
  have HE : Hid (putE c fs (bl n) x = 1200) := by show _ = _; unfold putE; rw [hok]; rfl
  rw [hok] at HM
  clear hok hr hz hn
  unfold dkV at HM ⊢
  go_enter Tryd.func5, Tryd.ntmps5
  go_wp2_with fail
  generalize (w.alloc (.cells #[.int .i64 c, .slice ao fs.length cap] 24)).alloc (.cells #[.int .i64 0, .slice none 0 0] 24) = wb at *
  refine (unhide HM _ (unhide HQ)).mono ?_
  rintro e w1 ⟨rfl, q1⟩
  have hq1 := hide q1
  clear q1
  have h2 := (unhide HB2).q (unhide hq1)
  have d0 := h2.cell 0 rfl
  have d1 := h2.cell 1 rfl
  have e0 := h2.frz 0
  have e1 := h2.frz 1
  have H2 := hide h2
  have HQ1 := hide ((unhide HQ).trans (unhide hq1))
  clear h2
  go_wp2_with fail
  obtain ⟨hb, fr⟩ := put2 (unhide H2) (.int .i64 0) (.slice none 0 0)
  have HX := hide (Below.trans (unhide HQ1) (fr.below (unhide HQ1).size (fun k hk => by omega)))
  have g0 := hb.cell 0 rfl
  have g1 := hb.cell 1 rfl
  generalize (World.setCell (World.setCell _ ⟨w.heap.size + 1, 0, none⟩ (.int .i64 0)) ⟨w.heap.size + 1, 1, none⟩ (.slice none 0 0)) = wf at *
  exact bodyPost_ret (v := .tuple #[.agg #[.int .i64 0, .slice none 0 0], .int .i64 1200]) (by simp [results, Tryd.results5, go_sem, g0, g1]) rfl (put_no (unhide HE) (by decide) (unhide HX))

set_option maxRecDepth 20000 in
set_option maxHeartbeats 8000000 in
theorem put_form2 (c : Int) (fs : List Fl) (ao : Option Addr) (cap : Nat) (n : ByteArray) (x : Int) (w : World) (hr : RowK w ao fs) (hz : FlZ fs) (hs : fs.length ≤ cap) (hcap : cap ≤ maxLen) (hn : n.size ≤ maxLen) (hok : dkOk c fs = true) (hok2 : (pthB (bl n) && coOk x) = false) :
    Calls Tryd.prog 5 #[dkV c ao fs.length cap, .string n, .int .i64 x] w (PutSays c fs (bl n) x w) := by
  have b1 : Blk (w.alloc (.cells #[.int .i64 c, .slice ao fs.length cap] 24)) w.heap.size #[.int .i64 c, .slice ao fs.length cap] 24 := Blk.new w _ _
  have q1 := (Q.refl w).alloc (.cells #[.int .i64 c, .slice ao fs.length cap] 24)
  have b2 := Blk.new (w.alloc (.cells #[.int .i64 c, .slice ao fs.length cap] 24)) #[.int .i64 0, .slice none 0 0] 24
  rw [size_alloc] at b2
  have q2 := (Q.refl (w.alloc (.cells #[.int .i64 c, .slice ao fs.length cap] 24))).alloc (.cells #[.int .i64 0, .slice none 0 0] 24)
  have HB1 := hide (b1.q q2)
  have HB2 := hide b2
  have HQ := hide (q1.trans q2)
  have HM := hide (fun w' (q : Q w w') => dkMay_any c fs ao cap w' (hr.q q) hz hs hcap)
  have HP := hide (pthP_any n · hn)
  have HC := hide (mco_any x)
  clear b1 b2 q1 q2
  have HE : Hid (putE c fs (bl n) x = 1200) := by show _ = _; unfold putE; rw [hok2, Bool.and_false]; rfl
  rw [hok] at HM
  clear hok hr hz hn
  unfold dkV at HM ⊢
  cases hp : pthB (bl n)
  · rw [hp] at HP
    clear hp hok2
    go_enter Tryd.func5, Tryd.ntmps5
    go_wp2_with fail
    generalize (w.alloc (.cells #[.int .i64 c, .slice ao fs.length cap] 24)).alloc (.cells #[.int .i64 0, .slice none 0 0] 24) = wb at *
    refine (unhide HM _ (unhide HQ)).mono ?_
    rintro e w0 ⟨rfl, q0⟩
    go_wp2_with fail
    refine (unhide HP _).mono ?_
    rintro e w1 ⟨rfl, q1⟩
    have hq1 := hide (q0.trans q1)
    clear q1 q0
    have h2 := (unhide HB2).q (unhide hq1)
    have d0 := h2.cell 0 rfl
    have d1 := h2.cell 1 rfl
    have e0 := h2.frz 0
    have e1 := h2.frz 1
    have H2 := hide h2
    have HQ1 := hide ((unhide HQ).trans (unhide hq1))
    clear h2
    go_wp2_with fail
    obtain ⟨hb, fr⟩ := put2 (unhide H2) (.int .i64 0) (.slice none 0 0)
    have HX := hide (Below.trans (unhide HQ1) (fr.below (unhide HQ1).size (fun k hk => by omega)))
    have g0 := hb.cell 0 rfl
    have g1 := hb.cell 1 rfl
    generalize (World.setCell (World.setCell _ ⟨w.heap.size + 1, 0, none⟩ (.int .i64 0)) ⟨w.heap.size + 1, 1, none⟩ (.slice none 0 0)) = wf at *
    exact bodyPost_ret (v := .tuple #[.agg #[.int .i64 0, .slice none 0 0], .int .i64 1200]) (by simp [results, Tryd.results5, go_sem, g0, g1]) rfl (put_no (unhide HE) (by decide) (unhide HX))
  · have hx : coOk x = false := by rw [hp] at hok2; exact hok2
    rw [hp] at HP
    rw [hx] at HC
    clear hp hok2 hx
    go_enter Tryd.func5, Tryd.ntmps5
    go_wp2_with fail
    generalize (w.alloc (.cells #[.int .i64 c, .slice ao fs.length cap] 24)).alloc (.cells #[.int .i64 0, .slice none 0 0] 24) = wb at *
    refine (unhide HM _ (unhide HQ)).mono ?_
    rintro e w0 ⟨rfl, q0⟩
    go_wp2_with fail
    refine (unhide HP _).mono ?_
    rintro e w1 ⟨rfl, q1⟩
    have hq1 := hide (q0.trans q1)
    clear q1 q0
    have h2 := (unhide HB2).q (unhide hq1)
    have d0 := h2.cell 0 rfl
    have d1 := h2.cell 1 rfl
    have e0 := h2.frz 0
    have e1 := h2.frz 1
    go_wp2_with (go_at_call 18; refine (unhide HC _).mono ?_; rintro e w' ⟨rfl, rfl⟩)
    have H2 := hide h2
    have HQ1 := hide ((unhide HQ).trans (unhide hq1))
    clear h2
    obtain ⟨hb, fr⟩ := put2 (unhide H2) (.int .i64 0) (.slice none 0 0)
    have HX := hide (Below.trans (unhide HQ1) (fr.below (unhide HQ1).size (fun k hk => by omega)))
    have g0 := hb.cell 0 rfl
    have g1 := hb.cell 1 rfl
    generalize (World.setCell (World.setCell _ ⟨w.heap.size + 1, 0, none⟩ (.int .i64 0)) ⟨w.heap.size + 1, 1, none⟩ (.slice none 0 0)) = wf at *
    exact bodyPost_ret (v := .tuple #[.agg #[.int .i64 0, .slice none 0 0], .int .i64 1200]) (by simp [results, Tryd.results5, go_sem, g0, g1]) rfl (put_no (unhide HE) (by decide) (unhide HX))

end Go.Proofs.YtjalklmgdkhekaaDoor
