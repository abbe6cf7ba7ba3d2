/- Disks, whole: any disk, any name, any content: what a write, a file taken away, a look answer is what the document's own text answers; the disk that was handed stays; no conditions. -/
import Derived.Test.YtjalklmgdkhekaaDoorRows
import Derived.Test.YtjalklmgdkhekaaDoorCards
import Derived.Test.YtjalklmgdkhekaaDoorTie
import Derived.LaidMore
import Derived.Lay
import Derived.SevenTiedAt
import Derived.Stop.Joined
import Derived.ProofKit
import Derived.OpenShut
import Derived.ShutString
import Derived.ChangeOld
import Derived.Below
import Derived.SizedLaws
import Derived.Test.YtjalklmgdkhekaaDoorDkDisks
namespace Go.Proofs.YtjalklmgdkhekaaDoor
open Go.ChangeShapes Go.WideShapes Go.ChangeAt Go.RowKit
open Go.ChangeMaps (open_string shut_string)

set_option maxRecDepth 20000 in
set_option maxHeartbeats 16000000 in
theorem disks_any (w : World) (c : Int) (fs : List Fl) (ao : Option Addr) (cap : Nat) (hd : IsDk w fs ao cap) (n : ByteArray) (hn : n.size ≤ maxLen) (x : Int) (_ : Lit.wf (.int .i64 x) = true) :
    Calls Tryd.prog 3 #[dkV c ao fs.length cap, .string n, .int .i64 x] w fun e w' => e = .returned (.bool true) ∧ Q w w' := by
  have HRR := hide hd.r
  have HZ := hide hd.z
  have HN := hide hd.n
  have HC := hide hd.cap
  have HL := hide hd.len
  have H32 : Hid (fs.length * 32 ≤ 140737488355328) := by show _ ≤ _; have h1 := hd.s; have h2 := hd.n; unfold reachBytes at h1; omega
  have HNS := hide hn
  have HPL := hide (putF_le (c := c) (fs := fs) (n := bl n) (x := x))
  have HRL := hide (remF_le (c := c) (fs := fs) (n := bl n))
  obtain ⟨pC, hpC⟩ : ∃ y, putC c fs (bl n) x = y := ⟨_, rfl⟩
  obtain ⟨pF, hpF⟩ : ∃ y, putF c fs (bl n) x = y := ⟨_, rfl⟩
  obtain ⟨pE, hpE⟩ : ∃ y, putE c fs (bl n) x = y := ⟨_, rfl⟩
  obtain ⟨rC, hrC⟩ : ∃ y, remC c fs (bl n) = y := ⟨_, rfl⟩
  obtain ⟨rF, hrF⟩ : ∃ y, remF c fs (bl n) = y := ⟨_, rfl⟩
  obtain ⟨rE, hrE⟩ : ∃ y, remE c fs (bl n) = y := ⟨_, rfl⟩
  rw [hpF] at HPL
  rw [hrF] at HRL
  have HP := hide (⟨hpC, hpF, hpE⟩ : putC c fs (bl n) x = pC ∧ putF c fs (bl n) x = pF ∧ putE c fs (bl n) x = pE)
  have HR := hide (⟨hrC, hrF, hrE⟩ : remC c fs (bl n) = rC ∧ remF c fs (bl n) = rF ∧ remE c fs (bl n) = rE)
  obtain ⟨xf, hxf⟩ : ∃ xf, fdV c fs (bl n) = xf := ⟨_, rfl⟩
  obtain ⟨xi, hxi⟩ : ∃ xi, (fdF c fs (bl n)).isSome = xi := ⟨_, rfl⟩
  have HX := hide (⟨hxf, hxi⟩ : fdV c fs (bl n) = xf ∧ (fdF c fs (bl n)).isSome = xi)
  obtain ⟨v, hv⟩ : ∃ v, dkOk c fs = v := ⟨_, rfl⟩
  have HD := hide hv
  clear hpC hpF hpE hrC hrF hrE hxf hxi hv hd hn
  obtain ⟨xt, hxt⟩ : ∃ xt, (⟨xf.1.toArray⟩ : ByteArray) = xt := ⟨_, rfl⟩
  obtain ⟨x1, hx1⟩ : ∃ x1, xf.2.1 = x1 := ⟨_, rfl⟩
  obtain ⟨x2, hx2⟩ : ∃ x2, xf.2.2 = x2 := ⟨_, rfl⟩
  have HXT := hide hxt
  have HX1 := hide hx1
  have HX2 := hide hx2
  clear hxt hx1 hx2
  have heq := eqK
  have hgd := Tryd.guardK
  have hxs : (xt.toList == xt.toList) = true := by simp
  have HQ := hide ((Q.refl w).alloc (.cells #[.int .i64 c, .slice ao fs.length cap] 24))
  have HB0 : Hid (Blk (w.alloc (.cells #[.int .i64 c, .slice ao fs.length cap] 24)) w.heap.size #[.int .i64 c, .slice ao fs.length cap] 24) := Blk.new w _ _
  replace HRR := hide ((unhide HRR).q (unhide HQ))
  generalize hgD : w.heap.size = D0 at HB0
  unfold dkV
  go_enter Tryd.func3, Tryd.ntmps3
  have ldd0 : (w.alloc (.cells #[.int .i64 c, .slice ao fs.length cap] 24)).cell? ⟨D0, 0, none⟩ = some (.int .i64 c) := (unhide HB0).cell 0 rfl
  have ldd1 : (w.alloc (.cells #[.int .i64 c, .slice ao fs.length cap] 24)).cell? ⟨D0, 1, none⟩ = some (.slice ao fs.length cap) := (unhide HB0).cell 1 rfl
  go_wp2_with fail
  clear ldd0 ldd1
  refine (cpd_any' c fs ao cap _ (unhide HRR) (unhide H32)).mono ?_
  rintro e w1 ⟨xo, xc, rfl, own1, q1⟩
  have LX := hide (own_le own1)
  have HXR := hide (own1.row)
  clear own1
  have qa := (Q.refl w1).alloc (.cells #[.int .i64 c, .slice xo fs.length xc] 24)
  have HXB : Hid (Blk (w1.alloc (.cells #[.int .i64 c, .slice xo fs.length xc] 24)) w1.heap.size #[.int .i64 c, .slice xo fs.length xc] 24) := Blk.new w1 _ _
  replace HXR := hide ((unhide HXR).q qa)
  replace HQ := hide ((unhide HQ).trans (q1.trans qa))
  replace HB0 := hide ((unhide HB0).q (q1.trans qa))
  replace HRR := hide ((unhide HRR).q (q1.trans qa))
  clear q1 qa
  generalize hgNX : w1.heap.size = NX at *
  have ld0 : (w1.alloc (.cells #[.int .i64 c, .slice xo fs.length xc] 24)).cell? ⟨NX, 0, none⟩ = some (.int .i64 c) := (unhide HXB).cell 0 rfl
  have ld1 : (w1.alloc (.cells #[.int .i64 c, .slice xo fs.length xc] 24)).cell? ⟨NX, 1, none⟩ = some (.slice xo fs.length xc) := (unhide HXB).cell 1 rfl
  go_wp2_with fail
  generalize (w1.alloc (.cells #[.int .i64 c, .slice xo fs.length xc] 24)) = vw1 at *
  have HXR1 := HXR
  have HRR1 := HRR
  have HXB1 := HXB
  have HB01 := HB0
  have HQ0 := HQ
  have HQ1 := hide (Q.refl vw1)
  clear ld0 ld1
  refine (put_any' c fs xo xc n x vw1 ⟨(unhide HP).1, (unhide HP).2.1, (unhide HP).2.2, rfl⟩ (unhide HXR) (unhide HZ) (unhide LX).1 (unhide LX).2.1 (unhide HNS)).mono ?_
  rintro e w2 ⟨po, pc, rfl, own2, q2⟩
  have LA := hide (own_le own2)
  have HAR := hide (own2.row)
  have HOA : Hid (OwS w2 vw1.heap.size po pc pF) := ⟨own2⟩
  clear own2
  have qa := (Q.refl w2).alloc (.cells #[.int .i64 pC, .slice po pF.length pc] 24)
  have HA : Hid (Blk (w2.alloc (.cells #[.int .i64 pC, .slice po pF.length pc] 24)) w2.heap.size #[.int .i64 pC, .slice po pF.length pc] 24) := Blk.new w2 _ _
  replace HAR := hide ((unhide HAR).q qa)
  replace HOA := hide ((unhide HOA).q qa)
  replace HQ := hide ((unhide HQ).trans (q2.trans qa))
  replace HB0 := hide ((unhide HB0).q (q2.trans qa))
  replace HRR := hide ((unhide HRR).q (q2.trans qa))
  replace HXR := hide ((unhide HXR).q (q2.trans qa))
  replace HXB := hide ((unhide HXB).q (q2.trans qa))
  replace HQ1 := hide ((unhide HQ1).trans (q2.trans qa))
  clear q2 qa
  generalize hgNA : w2.heap.size = NA at *
  have ld0 : (w2.alloc (.cells #[.int .i64 pC, .slice po pF.length pc] 24)).cell? ⟨D0, 0, none⟩ = some (.int .i64 c) := (unhide HB0).cell 0 rfl
  have ld1 : (w2.alloc (.cells #[.int .i64 pC, .slice po pF.length pc] 24)).cell? ⟨D0, 1, none⟩ = some (.slice ao fs.length cap) := (unhide HB0).cell 1 rfl
  go_wp2_with fail
  generalize (w2.alloc (.cells #[.int .i64 pC, .slice po pF.length pc] 24)) = vw2 at *
  clear ld0 ld1
  refine (rput_any' c fs ao cap n x vw2 ⟨(unhide HP).1, (unhide HP).2.1, (unhide HP).2.2, rfl⟩ (unhide HRR) (unhide HZ) (unhide HN) (unhide HC) (unhide HNS)).mono ?_
  rintro e w3 ⟨bo, bc, rfl, own3, q3⟩
  have HBR := hide (own3.row)
  clear own3
  have qa := (Q.refl w3).alloc (.cells #[.int .i64 pC, .slice bo pF.length bc] 24)
  have HB : Hid (Blk (w3.alloc (.cells #[.int .i64 pC, .slice bo pF.length bc] 24)) w3.heap.size #[.int .i64 pC, .slice bo pF.length bc] 24) := Blk.new w3 _ _
  replace HBR := hide ((unhide HBR).q qa)
  replace HQ := hide ((unhide HQ).trans (q3.trans qa))
  replace HB0 := hide ((unhide HB0).q (q3.trans qa))
  replace HRR := hide ((unhide HRR).q (q3.trans qa))
  replace HXR := hide ((unhide HXR).q (q3.trans qa))
  replace HXB := hide ((unhide HXB).q (q3.trans qa))
  replace HQ1 := hide ((unhide HQ1).trans (q3.trans qa))
  replace HAR := hide ((unhide HAR).q (q3.trans qa))
  replace HOA := hide ((unhide HOA).q (q3.trans qa))
  replace HA := hide ((unhide HA).q (q3.trans qa))
  clear q3 qa
  generalize hgNB : w3.heap.size = NB at *
  have ld0 : (w3.alloc (.cells #[.int .i64 pC, .slice bo pF.length bc] 24)).cell? ⟨NX, 0, none⟩ = some (.int .i64 c) := (unhide HXB).cell 0 rfl
  have ld1 : (w3.alloc (.cells #[.int .i64 pC, .slice bo pF.length bc] 24)).cell? ⟨NX, 1, none⟩ = some (.slice xo fs.length xc) := (unhide HXB).cell 1 rfl
  go_wp2_with fail
  generalize (w3.alloc (.cells #[.int .i64 pC, .slice bo pF.length bc] 24)) = vw3 at *
  have HV3 := hide (unhide HQ1).size
  have HAC := hide (fun k hk => ((unhide HOA).h.lt k hk).2)
  clear ld0 ld1
  refine (rem_any' c fs xo xc n vw3 ⟨(unhide HR).1, (unhide HR).2.1, (unhide HR).2.2, rfl⟩ (unhide HXR) (unhide HZ) (unhide LX).1 (unhide LX).2.1 (unhide HNS)).mono ?_
  rintro e w4 ⟨ro, rc, rfl, own4, q4⟩
  have HCR := hide (own4.row)
  have HOC : Hid (OwS w4 vw3.heap.size ro rc rF) := ⟨own4⟩
  clear own4
  have qa := (Q.refl w4).alloc (.cells #[.int .i64 rC, .slice ro rF.length rc] 24)
  have HCB : Hid (Blk (w4.alloc (.cells #[.int .i64 rC, .slice ro rF.length rc] 24)) w4.heap.size #[.int .i64 rC, .slice ro rF.length rc] 24) := Blk.new w4 _ _
  replace HCR := hide ((unhide HCR).q qa)
  replace HOC := hide ((unhide HOC).q qa)
  replace HQ := hide ((unhide HQ).trans (q4.trans qa))
  replace HB0 := hide ((unhide HB0).q (q4.trans qa))
  replace HRR := hide ((unhide HRR).q (q4.trans qa))
  replace HXR := hide ((unhide HXR).q (q4.trans qa))
  replace HXB := hide ((unhide HXB).q (q4.trans qa))
  replace HQ1 := hide ((unhide HQ1).trans (q4.trans qa))
  replace HAR := hide ((unhide HAR).q (q4.trans qa))
  replace HOA := hide ((unhide HOA).q (q4.trans qa))
  replace HA := hide ((unhide HA).q (q4.trans qa))
  replace HBR := hide ((unhide HBR).q (q4.trans qa))
  replace HB := hide ((unhide HB).q (q4.trans qa))
  clear q4 qa
  generalize hgNC : w4.heap.size = NC at *
  have ld0 : (w4.alloc (.cells #[.int .i64 rC, .slice ro rF.length rc] 24)).cell? ⟨D0, 0, none⟩ = some (.int .i64 c) := (unhide HB0).cell 0 rfl
  have ld1 : (w4.alloc (.cells #[.int .i64 rC, .slice ro rF.length rc] 24)).cell? ⟨D0, 1, none⟩ = some (.slice ao fs.length cap) := (unhide HB0).cell 1 rfl
  go_wp2_with fail
  generalize (w4.alloc (.cells #[.int .i64 rC, .slice ro rF.length rc] 24)) = vw4 at *
  clear ld0 ld1
  refine (rrem_any' c fs ao cap n vw4 ⟨(unhide HR).1, (unhide HR).2.1, (unhide HR).2.2, rfl⟩ (unhide HRR) (unhide HZ) (unhide HN) (unhide HC) (unhide HNS)).mono ?_
  rintro e w5 ⟨so, sc, rfl, own5, q5⟩
  have HPR := hide (own5.row)
  clear own5
  have qa := (Q.refl w5).alloc (.cells #[.int .i64 rC, .slice so rF.length sc] 24)
  have HPB : Hid (Blk (w5.alloc (.cells #[.int .i64 rC, .slice so rF.length sc] 24)) w5.heap.size #[.int .i64 rC, .slice so rF.length sc] 24) := Blk.new w5 _ _
  replace HPR := hide ((unhide HPR).q qa)
  replace HQ := hide ((unhide HQ).trans (q5.trans qa))
  replace HB0 := hide ((unhide HB0).q (q5.trans qa))
  replace HRR := hide ((unhide HRR).q (q5.trans qa))
  replace HXR := hide ((unhide HXR).q (q5.trans qa))
  replace HXB := hide ((unhide HXB).q (q5.trans qa))
  replace HQ1 := hide ((unhide HQ1).trans (q5.trans qa))
  replace HAR := hide ((unhide HAR).q (q5.trans qa))
  replace HOA := hide ((unhide HOA).q (q5.trans qa))
  replace HA := hide ((unhide HA).q (q5.trans qa))
  replace HBR := hide ((unhide HBR).q (q5.trans qa))
  replace HB := hide ((unhide HB).q (q5.trans qa))
  replace HCR := hide ((unhide HCR).q (q5.trans qa))
  replace HOC := hide ((unhide HOC).q (q5.trans qa))
  replace HCB := hide ((unhide HCB).q (q5.trans qa))
  clear q5 qa
  generalize hgNP : w5.heap.size = NP at *
  have ld0 : (w5.alloc (.cells #[.int .i64 rC, .slice so rF.length sc] 24)).cell? ⟨NX, 0, none⟩ = some (.int .i64 c) := (unhide HXB).cell 0 rfl
  have ld1 : (w5.alloc (.cells #[.int .i64 rC, .slice so rF.length sc] 24)).cell? ⟨NX, 1, none⟩ = some (.slice xo fs.length xc) := (unhide HXB).cell 1 rfl
  go_wp2_with fail
  generalize (w5.alloc (.cells #[.int .i64 rC, .slice so rF.length sc] 24)) = vw5 at *
  clear ld0 ld1
  refine (find_lit c fs xo xc n vw5 (unhide HX) (unhide HXT) (unhide HX1) (unhide HX2) (unhide HXR) (unhide HZ) (unhide LX).1 (unhide LX).2.1).mono ?_
  rintro e w6 ⟨rfl, q6⟩
  have qa := (Q.refl w6).alloc (.cells #[.string xt, .int .i64 x1, .int .i64 x2] 34)
  have HY : Hid (Blk (w6.alloc (.cells #[.string xt, .int .i64 x1, .int .i64 x2] 34)) w6.heap.size #[.string xt, .int .i64 x1, .int .i64 x2] 34) := Blk.new w6 _ _
  replace HQ := hide ((unhide HQ).trans (q6.trans qa))
  replace HB0 := hide ((unhide HB0).q (q6.trans qa))
  replace HRR := hide ((unhide HRR).q (q6.trans qa))
  replace HXR := hide ((unhide HXR).q (q6.trans qa))
  replace HXB := hide ((unhide HXB).q (q6.trans qa))
  replace HQ1 := hide ((unhide HQ1).trans (q6.trans qa))
  replace HAR := hide ((unhide HAR).q (q6.trans qa))
  replace HOA := hide ((unhide HOA).q (q6.trans qa))
  replace HA := hide ((unhide HA).q (q6.trans qa))
  replace HBR := hide ((unhide HBR).q (q6.trans qa))
  replace HB := hide ((unhide HB).q (q6.trans qa))
  replace HCR := hide ((unhide HCR).q (q6.trans qa))
  replace HOC := hide ((unhide HOC).q (q6.trans qa))
  replace HCB := hide ((unhide HCB).q (q6.trans qa))
  replace HPR := hide ((unhide HPR).q (q6.trans qa))
  replace HPB := hide ((unhide HPB).q (q6.trans qa))
  clear q6 qa
  generalize hgNY : w6.heap.size = NY at *
  have ld0 : (w6.alloc (.cells #[.string xt, .int .i64 x1, .int .i64 x2] 34)).cell? ⟨D0, 0, none⟩ = some (.int .i64 c) := (unhide HB0).cell 0 rfl
  have ld1 : (w6.alloc (.cells #[.string xt, .int .i64 x1, .int .i64 x2] 34)).cell? ⟨D0, 1, none⟩ = some (.slice ao fs.length cap) := (unhide HB0).cell 1 rfl
  go_wp2_with fail
  generalize (w6.alloc (.cells #[.string xt, .int .i64 x1, .int .i64 x2] 34)) = vw6 at *
  clear ld0 ld1
  refine (rfind_lit c fs ao cap n vw6 (unhide HX) (unhide HXT) (unhide HX1) (unhide HX2) (unhide HRR) (unhide HZ) (unhide HN) (unhide HC)).mono ?_
  rintro e w7 ⟨rfl, q7⟩
  have qa := (Q.refl w7).alloc (.cells #[.string xt, .int .i64 x1, .int .i64 x2] 34)
  have HZB : Hid (Blk (w7.alloc (.cells #[.string xt, .int .i64 x1, .int .i64 x2] 34)) w7.heap.size #[.string xt, .int .i64 x1, .int .i64 x2] 34) := Blk.new w7 _ _
  replace HQ := hide ((unhide HQ).trans (q7.trans qa))
  replace HB0 := hide ((unhide HB0).q (q7.trans qa))
  replace HRR := hide ((unhide HRR).q (q7.trans qa))
  replace HXR := hide ((unhide HXR).q (q7.trans qa))
  replace HXB := hide ((unhide HXB).q (q7.trans qa))
  replace HQ1 := hide ((unhide HQ1).trans (q7.trans qa))
  replace HAR := hide ((unhide HAR).q (q7.trans qa))
  replace HOA := hide ((unhide HOA).q (q7.trans qa))
  replace HA := hide ((unhide HA).q (q7.trans qa))
  replace HBR := hide ((unhide HBR).q (q7.trans qa))
  replace HB := hide ((unhide HB).q (q7.trans qa))
  replace HCR := hide ((unhide HCR).q (q7.trans qa))
  replace HOC := hide ((unhide HOC).q (q7.trans qa))
  replace HCB := hide ((unhide HCB).q (q7.trans qa))
  replace HPR := hide ((unhide HPR).q (q7.trans qa))
  replace HPB := hide ((unhide HPB).q (q7.trans qa))
  replace HY := hide ((unhide HY).q (q7.trans qa))
  clear q7 qa
  generalize hgNZ : w7.heap.size = NZ at *
  have ld0 : (w7.alloc (.cells #[.string xt, .int .i64 x1, .int .i64 x2] 34)).cell? ⟨NA, 0, none⟩ = some (.int .i64 pC) := (unhide HA).cell 0 rfl
  have ld1 : (w7.alloc (.cells #[.string xt, .int .i64 x1, .int .i64 x2] 34)).cell? ⟨NA, 1, none⟩ = some (.slice po pF.length pc) := (unhide HA).cell 1 rfl
  have ld2 : (w7.alloc (.cells #[.string xt, .int .i64 x1, .int .i64 x2] 34)).cell? ⟨NB, 0, none⟩ = some (.int .i64 pC) := (unhide HB).cell 0 rfl
  have ld3 : (w7.alloc (.cells #[.string xt, .int .i64 x1, .int .i64 x2] 34)).cell? ⟨NB, 1, none⟩ = some (.slice bo pF.length bc) := (unhide HB).cell 1 rfl
  go_wp2_with fail
  generalize (w7.alloc (.cells #[.string xt, .int .i64 x1, .int .i64 x2] 34)) = vw7 at *
  clear ld0 ld1 ld2 ld3
  have hNA0 : ∀ u : Aft vw7, u.to.cell? ⟨NA, 0, none⟩ = some (.int .i64 pC) := Aft.cell ((unhide HA).cell 0 rfl) (unhide HA).hi
  have hNA1 : ∀ u : Aft vw7, u.to.cell? ⟨NA, 1, none⟩ = some (.slice po pF.length pc) := Aft.cell ((unhide HA).cell 1 rfl) (unhide HA).hi
  have hNB0 : ∀ u : Aft vw7, u.to.cell? ⟨NB, 0, none⟩ = some (.int .i64 pC) := Aft.cell ((unhide HB).cell 0 rfl) (unhide HB).hi
  have hNB1 : ∀ u : Aft vw7, u.to.cell? ⟨NB, 1, none⟩ = some (.slice bo pF.length bc) := Aft.cell ((unhide HB).cell 1 rfl) (unhide HB).hi
  have hNC0 : ∀ u : Aft vw7, u.to.cell? ⟨NC, 0, none⟩ = some (.int .i64 rC) := Aft.cell ((unhide HCB).cell 0 rfl) (unhide HCB).hi
  have hNC1 : ∀ u : Aft vw7, u.to.cell? ⟨NC, 1, none⟩ = some (.slice ro rF.length rc) := Aft.cell ((unhide HCB).cell 1 rfl) (unhide HCB).hi
  have hNP0 : ∀ u : Aft vw7, u.to.cell? ⟨NP, 0, none⟩ = some (.int .i64 rC) := Aft.cell ((unhide HPB).cell 0 rfl) (unhide HPB).hi
  have hNP1 : ∀ u : Aft vw7, u.to.cell? ⟨NP, 1, none⟩ = some (.slice so rF.length sc) := Aft.cell ((unhide HPB).cell 1 rfl) (unhide HPB).hi
  have hNY0 : ∀ u : Aft vw7, u.to.cell? ⟨NY, 0, none⟩ = some (.string xt) := Aft.cell ((unhide HY).cell 0 rfl) (unhide HY).hi
  have hNY1 : ∀ u : Aft vw7, u.to.cell? ⟨NY, 1, none⟩ = some (.int .i64 x1) := Aft.cell ((unhide HY).cell 1 rfl) (unhide HY).hi
  have hNY2 : ∀ u : Aft vw7, u.to.cell? ⟨NY, 2, none⟩ = some (.int .i64 x2) := Aft.cell ((unhide HY).cell 2 rfl) (unhide HY).hi
  have hNZ0 : ∀ u : Aft vw7, u.to.cell? ⟨NZ, 0, none⟩ = some (.string xt) := Aft.cell ((unhide HZB).cell 0 rfl) (unhide HZB).hi
  have hNZ1 : ∀ u : Aft vw7, u.to.cell? ⟨NZ, 1, none⟩ = some (.int .i64 x1) := Aft.cell ((unhide HZB).cell 1 rfl) (unhide HZB).hi
  have hNZ2 : ∀ u : Aft vw7, u.to.cell? ⟨NZ, 2, none⟩ = some (.int .i64 x2) := Aft.cell ((unhide HZB).cell 2 rfl) (unhide HZB).hi
  have hNX0 : ∀ u : Aft vw7, u.to.cell? ⟨NX, 0, none⟩ = some (.int .i64 c) := Aft.cell ((unhide HXB).cell 0 rfl) (unhide HXB).hi
  have hNX1 : ∀ u : Aft vw7, u.to.cell? ⟨NX, 1, none⟩ = some (.slice xo fs.length xc) := Aft.cell ((unhide HXB).cell 1 rfl) (unhide HXB).hi
  have hD00 : ∀ u : Aft vw7, u.to.cell? ⟨D0, 0, none⟩ = some (.int .i64 c) := Aft.cell ((unhide HB0).cell 0 rfl) (unhide HB0).hi
  have hD01 : ∀ u : Aft vw7, u.to.cell? ⟨D0, 1, none⟩ = some (.slice ao fs.length cap) := Aft.cell ((unhide HB0).cell 1 rfl) (unhide HB0).hi
  have HSA : Hid (∀ u : Aft vw7, _) := fun u : Aft vw7 => same_litK (v := true) pC pC po bo pc bc pF pF u.to (by simp) ((unhide HAR).q u.q) ((unhide HBR).q u.q) (by have := unhide HPL; unfold maxLen; omega)
  have HSC : Hid (∀ u : Aft vw7, _) := fun u : Aft vw7 => same_litK (v := true) rC rC ro so rc sc rF rF u.to (by simp) ((unhide HCR).q u.q) ((unhide HPR).q u.q) (by have := unhide HRL; unfold maxLen; omega)
  have HMX : Hid (∀ u : Aft vw7, _) := fun u : Aft vw7 => may_litK c fs xo xc u.to (unhide HD) ((unhide HXR).q u.q) (unhide HZ) (unhide LX).1 (unhide LX).2.1
  have HMD : Hid (∀ u : Aft vw7, _) := fun u : Aft vw7 => rmay_lit c fs ao cap u.to (unhide HD) ((unhide HRR).q u.q) (unhide HZ) (unhide HN) (unhide HC)
  have hne := Aft.ne vw7
  refine wp_region_aft (by kernel_rfl) (by kernel_rfl) ?_
  repeat (go_big_quiet_step (first | (go_at_call 13; exact Calls.aft (unhide HMX _)) | (go_at_call 14; exact Calls.aft (unhide HMD _)) | (go_at_call_of 11 (Value.agg #[.int .i64 pC, .slice po pF.length pc]); exact Calls.aft (unhide HSA _)) | (go_at_call_of 11 (Value.agg #[.int .i64 rC, .slice ro rF.length rc]); exact Calls.aft (unhide HSC _)) | (go_at_call 12; exact Calls.aft ((num_any _ _).mono (fun e w' ⟨h1, h2⟩ => ⟨h1, h2 ▸ Q.refl _⟩)))))
  refine wpQuiet_nil ?_
  intro _ hw'
  obtain ⟨u, hw''⟩ := hw'
  subst hw''
  have q11 := u.q
  generalize u.to = w11 at q11 ⊢
  clear hne hNA0 hNA1 hNB0 hNB1 hNC0 hNC1 hNP0 hNP1 hNY0 hNY1 hNY2 hNZ0 hNZ1 hNZ2 hNX0 hNX1 hD00 hD01
  replace HQ := hide ((unhide HQ).trans q11)
  replace HB0 := hide ((unhide HB0).q q11)
  replace HRR := hide ((unhide HRR).q q11)
  replace HXR := hide ((unhide HXR).q q11)
  replace HXB := hide ((unhide HXB).q q11)
  replace HQ1 := hide ((unhide HQ1).trans q11)
  replace HAR := hide ((unhide HAR).q q11)
  replace HOA := hide ((unhide HOA).q q11)
  replace HA := hide ((unhide HA).q q11)
  replace HBR := hide ((unhide HBR).q q11)
  replace HB := hide ((unhide HB).q q11)
  replace HCR := hide ((unhide HCR).q q11)
  replace HOC := hide ((unhide HOC).q q11)
  replace HCB := hide ((unhide HCB).q q11)
  replace HPR := hide ((unhide HPR).q q11)
  replace HPB := hide ((unhide HPB).q q11)
  replace HY := hide ((unhide HY).q q11)
  replace HZB := hide ((unhide HZB).q q11)
  clear q11
  have ld0 : w11.cell? ⟨NA, 0, none⟩ = some (.int .i64 pC) := (unhide HA).cell 0 rfl
  have ld1 : w11.cell? ⟨NA, 1, none⟩ = some (.slice po pF.length pc) := (unhide HA).cell 1 rfl
  go_wp2_with fail
  clear ld0 ld1
  refine (spoilF2_any po pc vw1.heap.size pF w11 (unhide HOA).h (by have := unhide HPL; omega)).mono ?_
  rintro e w12 ⟨rfl, f12⟩
  have HF12 := hide f12
  clear f12
  have HCB2 := hide ((unhide HCB).fr (unhide HF12) (fun e => (unhide HCB).row (unhide HOA).h (by decide) _ e rfl))
  have HOC2 : Hid (OwS w12 vw3.heap.size ro rc rF) := ⟨own_fr (unhide HOC).h (unhide HF12) (fun k hk hk2 => by have h1 := unhide HAC k hk2; have h2 := ((unhide HOC).h.lt k hk).1; omega)⟩
  have HV13 : Hid (vw1.heap.size ≤ vw3.heap.size) := unhide HV3
  have HQ12 := hide (Below.trans (unhide HQ1) ((unhide HF12).below (unhide HQ1).size (fun k hk => ((unhide HOA).h.lt k hk).1)))
  have lc1 : w12.cell? ⟨NC, 1, none⟩ = some (.slice ro rF.length rc) := (unhide HCB2).cell 1 rfl
  go_wp2_with fail
  refine (spoilF2_any ro rc vw3.heap.size rF w12 (unhide HOC2).h (by have := unhide HRL; omega)).mono ?_
  rintro e w13 ⟨rfl, f13⟩
  have HF13 := hide f13
  clear f13 lc1
  have HQ13 := hide (Below.trans (unhide HQ12) ((unhide HF13).below (unhide HQ12).size (fun k hk => Nat.le_trans (unhide HV13) ((unhide HOC2).h.lt k hk).1)))
  have HXR13 := hide ((unhide HXR1).q (unhide HQ13))
  have HRR13 := hide ((unhide HRR1).q (unhide HQ13))
  have HXB13 := hide ((unhide HXB1).q (unhide HQ13))
  have HB013 := hide ((unhide HB01).q (unhide HQ13))
  have lx0 : w13.cell? ⟨NX, 0, none⟩ = some (.int .i64 c) := (unhide HXB13).cell 0 rfl
  have lx1 : w13.cell? ⟨NX, 1, none⟩ = some (.slice xo fs.length xc) := (unhide HXB13).cell 1 rfl
  have ld0' : w13.cell? ⟨D0, 0, none⟩ = some (.int .i64 c) := (unhide HB013).cell 0 rfl
  have ld1' : w13.cell? ⟨D0, 1, none⟩ = some (.slice ao fs.length cap) := (unhide HB013).cell 1 rfl
  go_wp2_with fail
  refine (same_litK (v := true) c c xo ao xc cap fs fs w13 (by simp) (unhide HXR13) (unhide HRR13) (unhide HL)).mono ?_
  rintro e w14 ⟨rfl, q14⟩
  go_wp2_with fail
  refine (dkawake_any _).mono ?_
  rintro e w15 ⟨rfl, q15⟩
  go_wp2_with fail
  go_ret
  exact ⟨rfl, Q.trans (unhide HQ0) (Q.trans (show Q vw1 w13 from unhide HQ13) (q14.trans q15))⟩

theorem Tryd.laidOut : laidOutB Tryd.prog = true := by kernel_rfl
set_option maxRecDepth 100000 in
theorem disks_lifted (os : Os) (started : os.Started) (H : Type) (enc : TypeId × Value → H) :
    ReturnsInHanded {} Tryd.checked os 3 .any (fun w args => (Rows.disksSpec.pre enc Tryd.prog Tryd.f3 [] false w args ∧ laidMetH Tryd.prog Rows.disksRow.laid w) ∧ sizedMet enc Tryd.prog Tryd.f3 (OpenSpec.ofChange Rows.disksSpec) false w args) (Rows.disksSpec.post enc Tryd.prog Tryd.f3 false true false false) := by
  refine returnsInHanded_of_change_and (C := Tryd.checked) (X := fun w _ => laidMetH Tryd.prog Rows.disksRow.laid w) (fun _ _ _ hh h => h.of_heap hh) Tryd.own started (by kernel_rfl) Tryd.func3
    (ChangeSpec.witness_shaped (enc := enc) (C := Tryd.checked) (os := os) (X := fun w _ => laidMetH Tryd.prog Rows.disksRow.laid w) false (World.laidAll Tryd.prog os Rows.disksRow.laid) #[.agg #[.int .i64 0, .slice none 0 0], .string ByteArray.empty, .int .i64 0] 8 (World.laidAll_os _ _ _)
      (World.shaped_of_ZipB (by kernel_rfl) (by kernel_rfl)) (by kernel_rfl) (by kernel_rfl) (by kernel_rfl)
      (by rw [MakeChecks.laidMetH_plain _ _ _ (by kernel_rfl)]; exact laidMet_laidAll _ (by kernel_rfl) (by kernel_rfl))) ?_
  intro W base args ds gs before hval0 hW _ hsz0 hL _
  have hval : ∀ (j : Nat) t v, Tryd.f3.params[j]? = some t → args[j]? = some v → Value.okWide Tryd.prog W .any base t v := hval0
  have hW' := hW
  obtain ⟨p, q, hA0, hV, rfl, hfz, hnd⟩ := hW
  have hA : DataW.TrodAll enc Tryd.prog W 0 (fun _ => true) true Tryd.f3.params.toList args.toList ds p := hA0
  rw [Tryd.params3] at hA hval
  rw [Tryd.params3] at hsz0
  obtain ⟨v0, vs0, d0, ds0, p0, q0, hargs, rfl, rfl, h0, r0⟩ := trodAll_cons hA
  obtain ⟨v1, vs1, d1, ds1, p1, q1, rfl, rfl, rfl, h1, r1⟩ := trodAll_cons r0
  obtain ⟨v2, vs2, d2, ds2, p2, q2, rfl, rfl, rfl, h2, r2⟩ := trodAll_cons r1
  obtain ⟨rfl, rfl, rfl⟩ := trodAll_nil r2
  obtain rfl : args = #[v0, v1, v2] := by cases args; simp_all
  obtain ⟨rfl, rfl⟩ := trodVars_none hV
  have k0 := h0
  have lt0 : ∀ x ∈ p0, x.block < W.heap.size := by obtain ⟨m, hm⟩ := k0; exact DataW.trod_lt m _ _ _ hm
  obtain ⟨c0, fs0, ao0, cap0, rfl, w0⟩ := Tryd.is_disk (hval 0 24 v0 rfl rfl) h0 (fun m hm => by simpa using List.all_eq_true.1 hsz0 m (DataW.weights_mem_each (j := 0) (t := 24) rfl rfl m hm))
  obtain ⟨a1, rfl, rfl, rfl, w1⟩ := open_string Tryd.underlying9 (hval 1 9 v1 rfl rfl) h1
  obtain ⟨a2, rfl, rfl, rfl, w2⟩ := open_int Tryd.underlying3 (hval 2 3 v2 rfl rfl) h2
  clear hA0 hval0
  refine (disks_any W c0 fs0 ao0 cap0 w0 a1 w1 a2 w2).mono fun e W' ⟨he, bel⟩ => ?_
  subst he
  exact ⟨_, rfl, _, _, _, [], _, [], hW', trodAll_mk1 (shut_bool Tryd.underlying4 _), (trodAll_cons_mk (Below.trod Tryd.laidOut (by kernel_rfl) (of_decide_eq_true (by kernel_rfl)) k0 bel lt0) (trodAll_cons_mk (shut_string Tryd.underlying9 w1) (trodAll_cons_mk (shut_int Tryd.underlying3 w2) trodAll_mk0))), rfl, bel.frame _, fun h => by cases h⟩

theorem disks_holds : Rows.DisksSaid :=
  OpenClaim.holds_of_wide 3 Tryd.f3 rfl rfl rfl rfl rfl rfl rfl ⟨rfl, rfl, rfl, rfl, rfl⟩ rfl rfl rfl rfl rfl (by kernel_rfl) Tryd.func3 (by kernel_rfl)
    (of_decide_eq_true (by kernel_rfl)) (by unfold Func.isWrapper; first | (rw [if_pos (by decide +kernel)]; kernel_rfl) | (rw [if_neg (by decide +kernel)]; exact ⟨rfl, rfl⟩))
    (fun os started H enc _ => disks_lifted os started H enc)
theorem disks_card : Rows.DisksCardSaid :=
  Claim7.holds_tied_plain_at .later [] [.data, .pinned] true (true, "0461c3ae3dfcb9af3f6d607bd12cbd606d26bc7098da0f6f639dfc1aac10f55d") false disks_holds (fun _ h => by cases h) (by kernel_rfl) (fun _ h => by cases h) disks_row_tie rfl ⟨rfl, rfl⟩ (by kernel_rfl) rfl
    (fun f fn hf hfn => by
      obtain rfl : f = 3 := Option.some.inj ((show Tryd.prog.funcNamed Rows.disksRow.func = some 3 by kernel_rfl).symm.trans hf) |>.symm
      obtain rfl : fn = Tryd.f3 := (Option.some.inj (Tryd.func3.symm.trans hfn)).symm
      exact ⟨by kernel_rfl, fun j t ht => by
        rw [Tryd.params3] at ht
        have hm : t ∈ [24, 9, 3] := by simpa using Array.mem_of_getElem? ht
        have hall : ([24, 9, 3].all fun u => !Tryd.prog.wantsStandIn u) = true := by kernel_rfl
        exact (show Tryd.prog.wantsStandIn t = false by simpa using List.all_eq_true.1 hall t hm)⟩)
    (by kernel_rfl)
#print axioms disks_card
end Go.Proofs.YtjalklmgdkhekaaDoor
