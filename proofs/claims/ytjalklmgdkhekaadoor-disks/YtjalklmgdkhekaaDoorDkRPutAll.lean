/- What the document's own PutFile answers, whatever it is handed; the conditions: the files lie in memory, no name is longer than a string can be. -/
import Derived.Test.YtjalklmgdkhekaaDoorDkRPut
namespace Go.Proofs.YtjalklmgdkhekaaDoor
open Go.RowKit

set_option maxRecDepth 20000 in
set_option maxHeartbeats 8000000 in
theorem rput_any (c : Int) (fs : List Fl) (ao : Option Addr) (cap : Nat) (n : ByteArray) (x : Int) (w : World) (hr : RowK w ao fs) (hz : FlZ fs) (hs : fs.length ≤ cap) (hcap : cap ≤ maxLen) (hn : n.size ≤ maxLen) :
    Calls Tryd.prog 6 #[dkV c ao fs.length cap, .string n, .int .i64 x] w (PutSays c fs (bl n) x w) := by
  have b1 : Blk (w.alloc (.cells #[.int .i64 c, .slice ao fs.length cap] 24)) w.heap.size #[.int .i64 c, .slice ao fs.length cap] 24 := Blk.new w _ _
  have q1 := (Q.refl w).alloc (.cells #[.int .i64 c, .slice ao fs.length cap] 24)
  have b2 := Blk.new (w.alloc (.cells #[.int .i64 c, .slice ao fs.length cap] 24)) #[.int .i64 0, .slice none 0 0] 24
  rw [size_alloc] at b2
  have q2 := (Q.refl (w.alloc (.cells #[.int .i64 c, .slice ao fs.length cap] 24))).alloc (.cells #[.int .i64 0, .slice none 0 0] 24)
  have HB2 := hide b2
  have HQ := hide (q1.trans q2)
  have HM := hide (fun w' (q : Q w w') => rdkMay_any c fs ao cap w' (hr.q q) hz hs hcap)
  have HP := hide (fun w' => rpth_any n w' hn)
  clear b1 b2 q1 q2
  cases hok : dkOk c fs
  · have HE : Hid (putE c fs (bl n) x = 1200) := by show _ = _; unfold putE; rw [hok]; rfl
    rw [hok] at HM
    clear hr hz hn hok
    unfold dkV at HM ⊢
    go_enter Tryd.func6, Tryd.ntmps6
    go_wp2_with fail
    generalize (w.alloc (.cells #[.int .i64 c, .slice ao fs.length cap] 24)).alloc (.cells #[.int .i64 0, .slice none 0 0] 24) = wb at *
    refine (unhide HM _ (unhide HQ)).mono ?_
    rintro e w0 ⟨rfl, q0⟩
    have hq1 := hide q0
    have h2 := (unhide HB2).q (unhide hq1)
    have d0 := h2.cell 0 rfl
    have d1 := h2.cell 1 rfl
    have e0 := h2.frz 0
    have e1 := h2.frz 1
    have H2 := hide h2
    have HQ1 := hide ((unhide HQ).trans (unhide hq1))
    clear h2 q0
    go_wp2_with fail
    obtain ⟨hb, fr⟩ := put2 (unhide H2) (.int .i64 0) (.slice none 0 0)
    have HX := hide (Below.trans (unhide HQ1) (fr.below (unhide HQ1).size (fun k hk => by omega)))
    have g0 := hb.cell 0 rfl
    have g1 := hb.cell 1 rfl
    generalize (World.setCell (World.setCell _ ⟨w.heap.size + 1, 0, none⟩ (.int .i64 0)) ⟨w.heap.size + 1, 1, none⟩ (.slice none 0 0)) = wf at *
    exact bodyPost_ret (v := .tuple #[.agg #[.int .i64 0, .slice none 0 0], .int .i64 1200]) (by simp [results, Tryd.results6, go_sem, g0, g1]) rfl (put_no (unhide HE) (by decide) (unhide HX))
  · cases hok2 : pthB (bl n)
    · have HE : Hid (putE c fs (bl n) x = 1200) := by show _ = _; unfold putE; rw [hok2, Bool.false_and, Bool.and_false]; rfl
      rw [hok] at HM
      rw [hok2] at HP
      clear hr hz hn hok hok2
      unfold dkV at HM ⊢
      go_enter Tryd.func6, Tryd.ntmps6
      go_wp2_with fail
      generalize (w.alloc (.cells #[.int .i64 c, .slice ao fs.length cap] 24)).alloc (.cells #[.int .i64 0, .slice none 0 0] 24) = wb at *
      refine (unhide HM _ (unhide HQ)).mono ?_
      rintro e w0 ⟨rfl, q0⟩
      go_wp2_with fail
      refine (unhide HP _).mono ?_
      rintro e w1 ⟨rfl, q1⟩
      have hq1 := hide (q0.trans q1)
      have h2 := (unhide HB2).q (unhide hq1)
      have d0 := h2.cell 0 rfl
      have d1 := h2.cell 1 rfl
      have e0 := h2.frz 0
      have e1 := h2.frz 1
      have H2 := hide h2
      have HQ1 := hide ((unhide HQ).trans (unhide hq1))
      clear h2 q0 q1
      go_wp2_with fail
      obtain ⟨hb, fr⟩ := put2 (unhide H2) (.int .i64 0) (.slice none 0 0)
      have HX := hide (Below.trans (unhide HQ1) (fr.below (unhide HQ1).size (fun k hk => by omega)))
      have g0 := hb.cell 0 rfl
      have g1 := hb.cell 1 rfl
      generalize (World.setCell (World.setCell _ ⟨w.heap.size + 1, 0, none⟩ (.int .i64 0)) ⟨w.heap.size + 1, 1, none⟩ (.slice none 0 0)) = wf at *
      exact bodyPost_ret (v := .tuple #[.agg #[.int .i64 0, .slice none 0 0], .int .i64 1200]) (by simp [results, Tryd.results6, go_sem, g0, g1]) rfl (put_no (unhide HE) (by decide) (unhide HX))
    · cases hok3 : coOk x
      · have HE : Hid (putE c fs (bl n) x = 1200) := by show _ = _; unfold putE; rw [hok3, Bool.and_false, Bool.and_false]; rfl
        rw [hok] at HM
        rw [hok2] at HP
        have HU : Hid ((decide (0 ≤ x) && decide (x ≤ 2147483647)) = false) := hok3
        clear hr hz hn hok hok2 hok3
        unfold dkV at HM ⊢
        go_enter Tryd.func6, Tryd.ntmps6
        go_wp2_with fail
        generalize (w.alloc (.cells #[.int .i64 c, .slice ao fs.length cap] 24)).alloc (.cells #[.int .i64 0, .slice none 0 0] 24) = wb at *
        refine (unhide HM _ (unhide HQ)).mono ?_
        rintro e w0 ⟨rfl, q0⟩
        go_wp2_with fail
        refine (unhide HP _).mono ?_
        rintro e w1 ⟨rfl, q1⟩
        go_wp2_with fail
        refine (upTo_lit x 0 2147483647 _ (unhide HU)).mono ?_
        rintro e w2 ⟨rfl, q2⟩
        have hq1 := hide ((q0.trans q1).trans q2)
        have h2 := (unhide HB2).q (unhide hq1)
        have d0 := h2.cell 0 rfl
        have d1 := h2.cell 1 rfl
        have e0 := h2.frz 0
        have e1 := h2.frz 1
        have H2 := hide h2
        have HQ1 := hide ((unhide HQ).trans (unhide hq1))
        clear h2 q0 q1 q2
        go_wp2_with fail
        obtain ⟨hb, fr⟩ := put2 (unhide H2) (.int .i64 0) (.slice none 0 0)
        have HX := hide (Below.trans (unhide HQ1) (fr.below (unhide HQ1).size (fun k hk => by omega)))
        have g0 := hb.cell 0 rfl
        have g1 := hb.cell 1 rfl
        generalize (World.setCell (World.setCell _ ⟨w.heap.size + 1, 0, none⟩ (.int .i64 0)) ⟨w.heap.size + 1, 1, none⟩ (.slice none 0 0)) = wf at *
        exact bodyPost_ret (v := .tuple #[.agg #[.int .i64 0, .slice none 0 0], .int .i64 1200]) (by simp [results, Tryd.results6, go_sem, g0, g1]) rfl (put_no (unhide HE) (by decide) (unhide HX))
      · exact rput_go c fs ao cap n x w hr hz hs hcap hn hok hok2 hok3

end Go.Proofs.YtjalklmgdkhekaaDoor
