/- What package disk's Find answers; the conditions: the files lie in memory, no name is longer than a string can be. -/
import Derived.Test.YtjalklmgdkhekaaDoorDkMay
namespace Go.Proofs.YtjalklmgdkhekaaDoor
open Go.RowKit

def fdV (c : Int) (fs : List Fl) (n : Tx) : Fl := (fdF c fs n).getD ([], 0, 0)

set_option maxRecDepth 20000 in
set_option maxHeartbeats 8000000 in
theorem dkFind_any (c : Int) (fs : List Fl) (ao : Option Addr) (cap : Nat) (n : ByteArray) (w : World) (hr : RowK w ao fs) (hz : FlZ fs) (hs : fs.length ≤ cap) (hcap : cap ≤ maxLen) :
    Calls Tryd.prog 9 #[dkV c ao fs.length cap, .string n] w fun e w' => e = .returned (.tuple #[flV (fdV c fs (bl n)), .bool (fdF c fs (bl n)).isSome]) ∧ Q w w' := by
  have b1 : Blk (w.alloc (.cells #[.int .i64 c, .slice ao fs.length cap] 24)) w.heap.size #[.int .i64 c, .slice ao fs.length cap] 24 := Blk.new w _ _
  have q1 := (Q.refl w).alloc (.cells #[.int .i64 c, .slice ao fs.length cap] 24)
  have b2 := Blk.new (w.alloc (.cells #[.int .i64 c, .slice ao fs.length cap] 24)) #[.string ⟨#[]⟩, .int .i64 0, .int .i64 0] 34
  rw [size_alloc] at b2
  have q2 := (Q.refl (w.alloc (.cells #[.int .i64 c, .slice ao fs.length cap] 24))).alloc (.cells #[.string ⟨#[]⟩, .int .i64 0, .int .i64 0] 34)
  have HB1 := hide (b1.q q2)
  have HB2 := hide b2
  have HQ := hide (q1.trans q2)
  have HM := hide (fun w' (q : Q w w') => dkMay_any c fs ao cap w' (hr.q q) hz hs hcap)
  clear b1 b2 q1 q2
  cases hok : dkOk c fs
  · have HE : Hid (fdF c fs (bl n) = none) := by show _ = _; unfold fdF; rw [hok]; rfl
    rw [show fdV c fs (bl n) = ([], 0, 0) by unfold fdV; rw [unhide HE]; rfl, unhide HE]
    rw [hok] at HM
    clear hok hr hz
    unfold dkV at HM ⊢
    go_enter Tryd.func9, Tryd.ntmps9
    go_wp2_with fail
    generalize (w.alloc (.cells #[.int .i64 c, .slice ao fs.length cap] 24)).alloc (.cells #[.string ⟨#[]⟩, .int .i64 0, .int .i64 0] 34) = wb at *
    refine (unhide HM _ (unhide HQ)).mono ?_
    rintro e w1 ⟨rfl, q1⟩
    have hq1 := hide q1
    clear q1
    have h2 := (unhide HB2).q (unhide hq1)
    have d0 := h2.cell 0 rfl
    have d1 := h2.cell 1 rfl
    have d2 := h2.cell 2 rfl
    have e0 := h2.frz 0
    have e1 := h2.frz 1
    have e2 := h2.frz 2
    have H2 := hide h2
    have HQ1 := hide ((unhide HQ).trans (unhide hq1))
    clear h2
    go_wp2_with fail
    obtain ⟨hb, fr⟩ := put3 (unhide H2) (.string ⟨#[]⟩) (.int .i64 0) (.int .i64 0)
    have HX := hide (Below.trans (unhide HQ1) (fr.below (unhide HQ1).size (fun k hk => by omega)))
    have g0 := hb.cell 0 rfl
    have g1 := hb.cell 1 rfl
    have g2 := hb.cell 2 rfl
    generalize (World.setCell (World.setCell (World.setCell _ ⟨w.heap.size + 1, 0, none⟩ (.string ⟨#[]⟩)) ⟨w.heap.size + 1, 1, none⟩ (.int .i64 0)) ⟨w.heap.size + 1, 2, none⟩ (.int .i64 0)) = wf at *
    exact bodyPost_ret (v := .tuple #[.agg #[.string ⟨#[]⟩, .int .i64 0, .int .i64 0], .bool false]) (by simp [results, Tryd.results9, go_sem, g0, g1, g2]) rfl ⟨rfl, unhide HX⟩
  have hd := dk_parts hok
  have hz46 : ∀ f ∈ fs, f.1.length ≤ 4096 := fun f hf => by have := fl_len (hd.f f hf); omega
  have hl64 := hd.n
  have hu := hd.u
  have HPL := hide (fun w' (q : Q w w') => place_any fs n ao cap w' (hr.q q) hu (by omega))
  rw [hok] at HM
  cases hf : fnF fs (bl n) with
  | none =>
    have HE : Hid (fdF c fs (bl n) = none) := by show _ = _; unfold fdF; rw [hok, hf]; rfl
    rw [show fdV c fs (bl n) = ([], 0, 0) by unfold fdV; rw [unhide HE]; rfl, unhide HE]
    rw [hf, Option.isSome_none] at HPL
    generalize (loF fs (bl n)).length = p at *
    clear hok hd hz hr hu hz46 hf
    unfold dkV at HM ⊢
    go_enter Tryd.func9, Tryd.ntmps9
    go_wp2_with fail
    generalize (w.alloc (.cells #[.int .i64 c, .slice ao fs.length cap] 24)).alloc (.cells #[.string ⟨#[]⟩, .int .i64 0, .int .i64 0] 34) = wb at *
    refine (unhide HM _ (unhide HQ)).mono ?_
    rintro e w1 ⟨rfl, q1⟩
    have hq1 := hide q1
    clear q1
    have hx1 := (unhide HB1).q (unhide hq1)
    have a1 : w1.cell? ⟨w.heap.size, 1, none⟩ = some (.slice ao fs.length cap) := hx1.cell 1 rfl
    have HX1 := hide hx1
    clear hx1
    go_wp2_with fail
    refine (unhide HPL _ ((unhide HQ).trans (unhide hq1))).mono ?_
    rintro e w2 ⟨rfl, q2⟩
    have hq2 := hide ((unhide hq1).trans q2)
    have hx2 := (unhide HX1).q q2
    have b1 : w2.cell? ⟨w.heap.size, 1, none⟩ = some (.slice ao fs.length cap) := hx2.cell 1 rfl
    clear hx2 q2 a1 HX1
    have h2 := (unhide HB2).q (unhide hq2)
    have d0 := h2.cell 0 rfl
    have d1 := h2.cell 1 rfl
    have d2 := h2.cell 2 rfl
    have e0 := h2.frz 0
    have e1 := h2.frz 1
    have e2 := h2.frz 2
    have H2 := hide h2
    have HQ1 := hide ((unhide HQ).trans (unhide hq2))
    clear h2
    go_wp2_with fail
    obtain ⟨hb, fr⟩ := put3 (unhide H2) (.string ⟨#[]⟩) (.int .i64 0) (.int .i64 0)
    have HX := hide (Below.trans (unhide HQ1) (fr.below (unhide HQ1).size (fun k hk => by omega)))
    have g0 := hb.cell 0 rfl
    have g1 := hb.cell 1 rfl
    have g2 := hb.cell 2 rfl
    generalize (World.setCell (World.setCell (World.setCell _ ⟨w.heap.size + 1, 0, none⟩ (.string ⟨#[]⟩)) ⟨w.heap.size + 1, 1, none⟩ (.int .i64 0)) ⟨w.heap.size + 1, 2, none⟩ (.int .i64 0)) = wf at *
    exact bodyPost_ret (v := .tuple #[.agg #[.string ⟨#[]⟩, .int .i64 0, .int .i64 0], .bool false]) (by simp [results, Tryd.results9, go_sem, g0, g1, g2]) rfl ⟨rfl, unhide HX⟩
  | some f0 =>
    have HE : Hid (fdF c fs (bl n) = some f0) := by show _ = _; unfold fdF; rw [hok, hf]; rfl
    rw [show fdV c fs (bl n) = f0 by unfold fdV; rw [unhide HE]; rfl, unhide HE]
    rw [hf, Option.isSome_some] at HPL
    have hgp := lo_at hu hf
    have HOW := hide (fun w' => dkown_any f0 w' (hz46 f0 (fn_mem hf)))
    have hrl := hr
    generalize (loF fs (bl n)).length = p at *
    have hpl : p < fs.length := (List.getElem?_eq_some_iff.1 hgp).1
    have k0 : (0 : Int) ≤ (p : Int) := by omega
    have k1 : (p : Int) < (fs.length : Int) := by omega
    rcases hr with he | ⟨g, o, rfl, hg, hcell⟩
    · rw [he] at hpl; simp at hpl
    have HCE := hide (fun (w' : World) (q : Q w w') => (⟨(q.cell (p := ⟨g, o + p * 3, none⟩) hg).trans (hcell p 0 f0 _ hgp (by decide) rfl), (q.cell (p := ⟨g, o + p * 3 + 1, none⟩) hg).trans (hcell p 1 f0 _ hgp (by decide) rfl), (q.cell (p := ⟨g, o + p * 3 + 2, none⟩) hg).trans (hcell p 2 f0 _ hgp (by decide) rfl)⟩ : w'.cell? ⟨g, o + p * 3, none⟩ = some (.string ⟨f0.1.toArray⟩) ∧ w'.cell? ⟨g, o + p * 3 + 1, none⟩ = some (.int .i64 f0.2.1) ∧ w'.cell? ⟨g, o + p * 3 + 2, none⟩ = some (.int .i64 f0.2.2)))
    clear hok hd hz hrl hu hz46 hf hcell hgp
    unfold flV at HOW ⊢
    obtain ⟨f1, f2, f3⟩ := f0
    dsimp only at HOW HCE ⊢
    generalize (⟨f1.toArray⟩ : ByteArray) = x1 at HOW HCE ⊢
    clear HE
    unfold dkV at HM ⊢
    go_enter Tryd.func9, Tryd.ntmps9
    go_wp2_with fail
    generalize (w.alloc (.cells #[.int .i64 c, .slice (some ⟨g, o, none⟩) fs.length cap] 24)).alloc (.cells #[.string ⟨#[]⟩, .int .i64 0, .int .i64 0] 34) = wb at *
    refine (unhide HM _ (unhide HQ)).mono ?_
    rintro e w1 ⟨rfl, q1⟩
    have hq1 := hide q1
    clear q1
    have hx1 := (unhide HB1).q (unhide hq1)
    have a1 : w1.cell? ⟨w.heap.size, 1, none⟩ = some (.slice (some ⟨g, o, none⟩) fs.length cap) := hx1.cell 1 rfl
    have HX1 := hide hx1
    clear hx1
    go_wp2_with fail
    refine (unhide HPL _ ((unhide HQ).trans (unhide hq1))).mono ?_
    rintro e w2 ⟨rfl, q2⟩
    have hq2 := hide ((unhide hq1).trans q2)
    have hx2 := (unhide HX1).q q2
    have b1 : w2.cell? ⟨w.heap.size, 1, none⟩ = some (.slice (some ⟨g, o, none⟩) fs.length cap) := hx2.cell 1 rfl
    clear hx2 q2 a1 HX1
    obtain ⟨t0, t1, t2⟩ := unhide HCE _ ((unhide HQ).trans (unhide hq2))
    go_wp2_with fail
    refine (unhide HOW _).mono ?_
    rintro e w4 ⟨rfl, q4⟩
    have hq4 := hide ((unhide hq2).trans q4)
    clear q4 t0 t1 t2
    have h2 := (unhide HB2).q (unhide hq4)
    have d0 := h2.cell 0 rfl
    have d1 := h2.cell 1 rfl
    have d2 := h2.cell 2 rfl
    have e0 := h2.frz 0
    have e1 := h2.frz 1
    have e2 := h2.frz 2
    have H2 := hide h2
    have HQ1 := hide ((unhide HQ).trans (unhide hq4))
    clear h2
    go_wp2_with fail
    obtain ⟨hb, fr⟩ := put3 (unhide H2) (.string x1) (.int .i64 f2) (.int .i64 f3)
    have HX := hide (Below.trans (unhide HQ1) (fr.below (unhide HQ1).size (fun k hk => by omega)))
    have g0 := hb.cell 0 rfl
    have g1 := hb.cell 1 rfl
    have g2 := hb.cell 2 rfl
    generalize (World.setCell (World.setCell (World.setCell _ ⟨w.heap.size + 1, 0, none⟩ (.string x1)) ⟨w.heap.size + 1, 1, none⟩ (.int .i64 f2)) ⟨w.heap.size + 1, 2, none⟩ (.int .i64 f3)) = wf at *
    exact bodyPost_ret (v := .tuple #[.agg #[.string x1, .int .i64 f2, .int .i64 f3], .bool true]) (by simp [results, Tryd.results9, go_sem, g0, g1, g2]) rfl ⟨rfl, unhide HX⟩

end Go.Proofs.YtjalklmgdkhekaaDoor
