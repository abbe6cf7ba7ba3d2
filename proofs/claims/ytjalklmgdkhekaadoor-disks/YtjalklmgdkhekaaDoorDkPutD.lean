/- Package disk's Put at a name that isn't there; the conditions: the files lie in memory. -/
import Derived.Test.YtjalklmgdkhekaaDoorDkPut
namespace Go.Proofs.YtjalklmgdkhekaaDoor
open Go.RowKit

set_option maxRecDepth 20000 in
set_option maxHeartbeats 8000000 in
theorem put_fresh (c : Int) (fs : List Fl) (ao : Option Addr) (cap : Nat) (n : ByteArray) (x : Int) (w : World) (hr : RowK w ao fs) (hz : FlZ fs) (hs : fs.length ≤ cap) (hcap : cap ≤ maxLen) (hn : n.size ≤ maxLen) (hok : dkOk c fs = true) (hok2 : (pthB (bl n) && coOk x) = true) (hf : fnF fs (bl n) = none) (hm : ¬ c = 1048576) (h64 : ¬ fs.length = 64) :
    Calls Tryd.prog 5 #[dkV c ao fs.length cap, .string n, .int .i64 x] w (PutSays c fs (bl n) x w) := by
  have b1 : Blk (w.alloc (.cells #[.int .i64 c, .slice ao fs.length cap] 24)) w.heap.size #[.int .i64 c, .slice ao fs.length cap] 24 := Blk.new w _ _
  have q1 := (Q.refl w).alloc (.cells #[.int .i64 c, .slice ao fs.length cap] 24)
  have b2 := Blk.new (w.alloc (.cells #[.int .i64 c, .slice ao fs.length cap] 24)) #[.int .i64 0, .slice none 0 0] 24
  rw [size_alloc] at b2
  have q2 := (Q.refl (w.alloc (.cells #[.int .i64 c, .slice ao fs.length cap] 24))).alloc (.cells #[.int .i64 0, .slice none 0 0] 24)
  have HB1 := hide (b1.q q2)
  have HB2 := hide b2
  have HQ := hide (q1.trans q2)
  have HM := hide (fun w' (q : Q w w') => dkMay_any c fs ao cap w' (hr.q q) hz hs hcap)
  have HP := hide (pthP_any n · hn)
  have HC := hide (mco_any x)
  clear b1 b2 q1 q2
  have hd := dk_parts hok
  have hpx := Bool.and_eq_true_iff.1 hok2
  have hz46 : ∀ f ∈ fs, f.1.length ≤ 4096 := fun f hf => by have := fl_len (hd.f f hf); omega
  have hl64 := hd.n
  have hc0 := hd.c0
  have hc1 := hd.c1
  have hu := hd.u
  have HPL := hide (fun w' (q : Q w w') => place_any fs n ao cap w' (hr.q q) hu (by omega))
  have HCP := hide (fun w' (q : Q w w') => dkcopy_any c fs ao cap w' (hr.q q) hz46 (by omega))
  have hnl : n.size ≤ 16 := by rw [← bl_size]; exact pth_len hpx.1
  have HCL := hide (fun w' => clone_any n w' (by omega))
  rw [hok] at HM
  rw [hpx.1] at HP
  rw [hpx.2] at HC
  have HE1 : Hid (fulB c fs (bl n) = true → putE c fs (bl n) x = 1201) := fun h => by unfold putE; rw [hok, hok2, h]; rfl
  have HE0 : Hid (fulB c fs (bl n) = false → putE c fs (bl n) x = 0) := fun h => by unfold putE; rw [hok, hok2, h]; rfl
  have HLO := hide (lo_le fs (bl n))
  have HU := hide hu
  have HY : Hid (∀ f, fnF fs (bl n) = some f → ∀ t, fs.set (loF fs (bl n)).length (bl n, x, t) = putL fs (bl n) x t ∧ fs[(loF fs (bl n)).length]? = some f) := fun f hf t => ⟨set_lo hu hf, lo_at hu hf⟩
  have HNW : Hid (∀ f, fnF fs (bl n) = none → ∀ t, (fs.take (loF fs (bl n)).length ++ f :: fs.drop (loF fs (bl n)).length).set (loF fs (bl n)).length (bl n, x, t) = putL fs (bl n) x t) := fun f hf t => set_new hu hf
  generalize (loF fs (bl n)).length = p at *
  clear hok hok2 hpx hd hz hr hn hu hz46
  unfold dkV at HM HCP ⊢
  have HFU : Hid (fulB c fs (bl n) = (decide (c = 1048576) || ((fnF fs (bl n)).isNone && decide (fs.length = 64)))) := rfl
  rw [hf] at HFU
  rw [hf, Option.isSome_none] at HPL
  have HE : Hid (putE c fs (bl n) x = 0) := unhide HE0 (by rw [unhide HFU, decide_eq_false hm, decide_eq_false h64]; rfl)
  have hm' : (c == 1048576) = false := beq_eq_false_iff_ne.2 hm
  have h64' : ((fs.length : Int) == 64) = false := beq_eq_false_iff_ne.2 (by omega)
  have HS := hide (fun f => unhide HNW f hf)
  clear HE1 HE0 HY HNW HFU hf hm h64
  go_enter Tryd.func5, Tryd.ntmps5
  go_wp2_with fail
  generalize (w.alloc (.cells #[.int .i64 c, .slice ao fs.length cap] 24)).alloc (.cells #[.int .i64 0, .slice none 0 0] 24) = wb at *
  refine (unhide HM _ (unhide HQ)).mono ?_
  rintro e w0 ⟨rfl, q0⟩
  go_wp2_with fail
  refine (unhide HP _).mono ?_
  rintro e w1 ⟨rfl, q1⟩
  have hq1 := hide (q0.trans q1)
  clear q1 q0
  have hx1 := (unhide HB1).q (unhide hq1)
  have a1 : w1.cell? ⟨w.heap.size, 1, none⟩ = some (.slice ao fs.length cap) := hx1.cell 1 rfl
  have HX1 := hide hx1
  clear hx1
  go_wp2_with (go_at_call 18; refine (unhide HC _).mono ?_; rintro e w' ⟨rfl, rfl⟩)
  refine (unhide HPL _ ((unhide HQ).trans (unhide hq1))).mono ?_
  rintro e w2 ⟨rfl, q2⟩
  have hq2 := hide ((unhide hq1).trans q2)
  have hx2 := (unhide HX1).q q2
  have b0 : w2.cell? ⟨w.heap.size, 0, none⟩ = some (.int .i64 c) := hx2.cell 0 rfl
  have b1 : w2.cell? ⟨w.heap.size, 1, none⟩ = some (.slice ao fs.length cap) := hx2.cell 1 rfl
  clear hx2 q2 a1 HX1
  have hw1 : IntKind.i64.wrap (c + 1) = c + 1 := by rw [IntKind.wrap_i64]; omega
  go_wp2_with fail
  refine (unhide HCP _ ((unhide HQ).trans (unhide hq2))).mono ?_
  rintro e w4 ⟨co, ccap, rfl, own4, q4⟩
  have HO4 := hide own4
  have hq4 := hide ((unhide hq2).trans q4)
  have hp4 := hide q4
  clear own4 q4 b0 b1
  go_wp2_with fail
  have qa := (Q.refl w4).alloc (.cells #[.int .i64 (c + 1), .slice co fs.length ccap] 24)
  have hY4 : Blk (w4.alloc (.cells #[.int .i64 (c + 1), .slice co fs.length ccap] 24)) w4.heap.size #[.int .i64 (c + 1), .slice co fs.length ccap] 24 := Blk.new w4 _ _
  have hO4 := own_q (unhide HO4) qa
  have hq4a := (unhide hq4).trans qa
  have hsz4 : (w4.alloc (.cells #[.int .i64 (c + 1), .slice co fs.length ccap] 24)).heap.size = w4.heap.size + 1 := size_alloc _ _
  generalize w4.alloc (.cells #[.int .i64 (c + 1), .slice co fs.length ccap] 24) = w5a at *
  have qb := (Q.refl w5a).alloc (.cells #[.string ⟨#[]⟩, .int .i64 0, .int .i64 0] 34)
  have hvb : Blk (w5a.alloc (.cells #[.string ⟨#[]⟩, .int .i64 0, .int .i64 0] 34)) w5a.heap.size (fv ([], 0, 0)).toArray 34 := Blk.new w5a _ _
  have hbw2 : w2.heap.size ≤ w5a.heap.size := by have := (unhide hp4).size; omega
  have hnv : (Value.slice co fs.length ccap).ownBlock ≠ some w5a.heap.size := fun e => by have := (hO4.lt _ e).2; omega
  have HI := hide (insert_any fs ([], 0, 0) co ccap w2.heap.size w5a.heap.size p (w5a.alloc (.cells #[.string ⟨#[]⟩, .int .i64 0, .int .i64 0] 34)) (own_q hO4 qb) hvb (le_alloc hbw2 _) (by omega) HLO.out hnv)
  rw [hsz4] at HI
  refine (unhide HI).mono ?_
  rintro e w6 ⟨io, icap, rfl, own6, fr6⟩
  have hnY : ∀ k, (Value.slice co fs.length ccap).ownBlock = some k → k ≠ w4.heap.size := fun k hk => hY4.row hO4 (by decide) k hk
  have hY6 := (hY4.q qb).fr fr6 (fun e => hnY _ e rfl)
  have hR6 := ((unhide HB2).q (hq4a.trans qb)).fr fr6 (fun e => ((unhide HB2).q hq4a).row hO4 (by decide) _ e rfl)
  have qw6 := Below.trans ((unhide HQ).trans (hq4a.trans qb)) (fr6.below ((unhide HQ).trans (hq4a.trans qb)).size (fun k hk => Nat.le_trans ((unhide HQ).trans (unhide hq2)).size (hO4.lt k hk).1))
  obtain ⟨g, rfl, hgB, hg, _, _⟩ := own_some fv_len (by decide) (by simp; omega) own6
  have hgw : w.heap.size ≤ g := Nat.le_trans ((unhide HQ).trans (unhide hq2)).size hgB
  have y1 := hY6.cell 1 rfl
  have y2 := hY6.frz 1
  have HY6 := hide hY6
  have HR6 := hide hR6
  have HO6 := hide own6
  have HW6 := hide qw6
  clear HI HO4 hY4 hO4 hq4a qb qa hvb hbw2 hnv own6 fr6 hnY hY6 hR6 qw6 hgB hsz4
  generalize hY : w4.heap.size = Y at *
  have hls : (fs.take p ++ (([], 0, 0) : Fl) :: fs.drop p).length = fs.length + 1 := by have := HLO.out; simp; omega
  have HGP : Hid ((fs.take p ++ (([], 0, 0) : Fl) :: fs.drop p)[p]? = some ([], 0, 0)) := by
    show _ = _
    have := HLO.out
    rw [List.getElem?_append_right (by simp; omega), List.length_take, Nat.min_eq_left this, Nat.sub_self]; rfl
  go_wp2_with fail
  have frS := Fr.set w6 Y 1 (.slice (some ⟨g, 0, none⟩) (fs.length + 1) icap)
  have HY5 : Hid (Blk (w6.setCell ⟨Y, 1, none⟩ (.slice (some ⟨g, 0, none⟩) (fs.length + 1) icap)) Y #[.int .i64 (c + 1), .slice (some ⟨g, 0, none⟩) (fs.length + 1) icap] 24) := (unhide HY6).set 1 _
  have HR5 := hide ((unhide HR6).fr frS (fun e => by have := (unhide hp4).size; have := (unhide hq2).size; have := (unhide HB2).hi; omega))
  have HO5 := hide (own_fr (unhide HO6) frS (fun k hk => (unhide HY6).row (unhide HO6) (by decide) k hk))
  have hq5 := hide (Below.trans (unhide HW6) (frS.below (unhide HW6).size (fun k hk => by have := (unhide hp4).size; have := ((unhide HQ).trans (unhide hq2)).size; omega)))
  have k0 : (0 : Int) ≤ (p : Int) := by omega
  have k1 : (p : Int) < (fs.length : Int) + 1 := by have := HLO.out; omega
  have k2 : p < fs.length + 1 := by have := HLO.out; omega
  clear frS y1 y2 HY6 HR6 HO6 HW6
  generalize w6.setCell ⟨Y, 1, none⟩ (.slice (some ⟨g, 0, none⟩) (fs.length + 1) icap) = w5 at *
  have S0 : w5.drew.cell? ⟨Y, 0, none⟩ = some (.int .i64 (c + 1)) ∧ w5.drew.cell? ⟨Y, 1, none⟩ = some (.slice (some ⟨g, 0, none⟩) (fs.length + 1) icap) := ⟨(unhide HY5).cell 0 rfl, (unhide HY5).cell 1 rfl⟩
  have HA := hide (fun (w6 : World) (q : Q w5 w6) => (⟨(row3 (own_q (unhide HO5) q) (unhide HGP)).1, (row3 (own_q (unhide HO5) q) (unhide HGP)).2.1, (unhide HY5).q q, (unhide HR5).q q, own_q (unhide HO5) q⟩ : _ ∧ _ ∧ _ ∧ _ ∧ _))
  go_region_held3 (fun w' => w'.cell? ⟨Y, 0, none⟩ = some (.int .i64 (c + 1)) ∧ w'.cell? ⟨Y, 1, none⟩ = some (.slice (some ⟨g, 0, none⟩) (fs.length + 1) icap))
    (first | exact S0 | exact S1 | exact S2)
    (first
      | (go_at_call 22; refine (unhide HCL _).mono ?_; rintro e w6 ⟨rfl, q6⟩
         obtain ⟨⟨r0, r1, r2⟩, ⟨z0, z1, z2⟩, y6, t6, o6⟩ := unhide HA w6 ((Q.refl _).drew.trans q6)
         have S1 : w6.cell? ⟨Y, 0, none⟩ = some (.int .i64 (c + 1)) ∧ w6.cell? ⟨Y, 1, none⟩ = some (.slice (some ⟨g, 0, none⟩) (fs.length + 1) icap) := ⟨y6.cell 0 rfl, y6.cell 1 rfl⟩
         have HP6 := hide (put_state (n := n) (x := x) y6 t6 o6 (unhide HGP))
         have S2 : (((w6.setCell ⟨g, p * 3, none⟩ (.string n)).setCell ⟨g, p * 3 + 1, none⟩ (.int .i64 x)).setCell ⟨g, p * 3 + 2, none⟩ (.int .i64 (c + 1))).cell? ⟨Y, 0, none⟩ = some (.int .i64 (c + 1)) ∧ (((w6.setCell ⟨g, p * 3, none⟩ (.string n)).setCell ⟨g, p * 3 + 1, none⟩ (.int .i64 x)).setCell ⟨g, p * 3 + 2, none⟩ (.int .i64 (c + 1))).cell? ⟨Y, 1, none⟩ = some (.slice (some ⟨g, 0, none⟩) (fs.length + 1) icap) := ⟨(unhide HP6).1.cell 0 rfl, (unhide HP6).1.cell 1 rfl⟩
         have HQ6 := hide ((Q.refl w5).drew.trans q6)
         clear y6 t6 o6 q6))
  obtain ⟨y7, t7, o7, f7⟩ := unhide HP6
  have HQ7 := hide (Below.trans (Q.trans (unhide hq5) (unhide HQ6)) (f7.below (Q.trans (unhide hq5) (unhide HQ6)).size (fun k hk => by rw [hk]; exact hgw)))
  have o7' := own_low (o7.as (unhide HS ([], 0, 0) (c + 1))) (Nat.le_trans (unhide HQ).size (unhide hq2).size)
  generalize ((w6.setCell ⟨g, p * 3, none⟩ (.string n)).setCell ⟨g, p * 3 + 1, none⟩ (.int .i64 x)).setCell ⟨g, p * 3 + 2, none⟩ (.int .i64 (c + 1)) = w7 at *
  have hl7 : (putL fs (bl n) x (c + 1)).length = fs.length + 1 := by rw [← (unhide HS ([], 0, 0) (c + 1)), List.length_set]; exact hls
  have a0 := y7.cell 0 rfl
  have a1 := y7.cell 1 rfl
  have d0 := t7.cell 0 rfl
  have d1 := t7.cell 1 rfl
  have e0 := t7.frz 0
  have e1 := t7.frz 1
  have H2 := hide t7
  have HO7 := hide o7'
  have HL7 := hide hl7
  clear y7 t7 o7 f7 o7' hl7 S0 S1 S2 r0 r1 r2 z0 z1 z2 HP6 HA hq5 HQ6
  go_wp2_with fail
  obtain ⟨hb, fr⟩ := put2 (unhide H2) (.int .i64 (c + 1)) (.slice (some ⟨g, 0, none⟩) (fs.length + 1) icap)
  have HX := hide (Below.trans (unhide HQ7) (fr.below (unhide HQ7).size (fun k hk => by omega)))
  have HOX := hide (own_fr (unhide HO7) fr (fun k hk => (unhide H2).row (unhide HO7) (by decide) k hk))
  have g0 := hb.cell 0 rfl
  have g1 := hb.cell 1 rfl
  generalize (World.setCell (World.setCell _ ⟨w.heap.size + 1, 0, none⟩ (.int .i64 (c + 1))) ⟨w.heap.size + 1, 1, none⟩ (.slice (some ⟨g, 0, none⟩) (fs.length + 1) icap)) = wf at *
  exact bodyPost_ret (v := .tuple #[.agg #[.int .i64 (c + 1), .slice (some ⟨g, 0, none⟩) (fs.length + 1) icap], .int .i64 0]) (by simp [results, Tryd.results5, go_sem, g0, g1]) rfl (by have h := put_yes (unhide HE) (unhide HOX) (unhide HX); rw [unhide HL7] at h; exact h)

end Go.Proofs.YtjalklmgdkhekaaDoor
