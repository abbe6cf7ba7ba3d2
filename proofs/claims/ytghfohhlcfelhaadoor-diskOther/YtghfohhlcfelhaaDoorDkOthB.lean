/- DiskOther where the write goes through, the removal does not; no conditions. -/
import Derived.Test.YtghfohhlcfelhaaDoorDkOther
namespace Go.Proofs.YtghfohhlcfelhaaDoor
open Go.RowKit

set_option maxRecDepth 20000 in
set_option maxHeartbeats 8000000 in
theorem other_01s (w : World) (c : Int) (fs : List Fl) (ao : Option Addr) (cap : Nat) (hd : IsDk w fs ao cap) (n : ByteArray) (hn : n.size ≤ maxLen) (x : Int)
    (hP : putE c fs (bl n) (x % 65536) = 0) (hR : ¬ remE c fs (bl n) = 0) :
    Calls Tryd.prog 6 #[dkV c ao fs.length cap, .string n, .int .i64 x, .string n] w fun e w' => e = .returned (.bool true) ∧ Q w w' := by
  have hbit := and65535 x
  generalize x % 65536 = ct at *
  have HRR := hide hd.r
  have HZ := hide hd.z
  have HN := hide hd.n
  have HC := hide hd.cap
  have HL := hide hd.len
  have HNS := hide hn
  have HPO := hide (put_ok hP).1.1
  have HPM := hide (put_may hP)
  have HP : Hid (putC c fs (bl n) ct = c + 1 ∧ putF c fs (bl n) ct = putL fs (bl n) ct (c + 1) ∧ putE c fs (bl n) ct = 0) := ⟨by unfold putC; rw [if_pos hP], by unfold putF; rw [if_pos hP], hP⟩
  have HF1 : Hid (fdV (c + 1) (putL fs (bl n) ct (c + 1)) (bl n) = (bl n, ct, c + 1) ∧ (fdF (c + 1) (putL fs (bl n) ct (c + 1)) (bl n)).isSome = true) := by
    show _ ∧ _
    unfold fdV fdF
    rw [dk_of (unhide HPM), if_pos rfl, fn_put (unhide HPO).u, if_pos rfl]; exact ⟨rfl, rfl⟩
  have hc0 := (unhide HPO).c0
  have hc1 := (unhide HPO).c1
  have hw1 : IntKind.i64.wrap (c + 1) = c + 1 := by rw [IntKind.wrap_i64]; omega
  have HPW := hide (unhide HPM)
  have HDP := hide (dk_of (unhide HPM))
  have HZP : Hid (FlZ (putL fs (bl n) ct (c + 1))) := fun f hf => by have := fl_len ((unhide HPM).f f hf); unfold maxLen; omega
  have HLP : Hid ((putL fs (bl n) ct (c + 1)).length ≤ 64) := (unhide HPM).n
  generalize putL fs (bl n) ct (c + 1) = ps at *
  obtain ⟨re, hre⟩ : ∃ re, re = remE c fs (bl n) := ⟨_, rfl⟩
  have HR : Hid (remC c fs (bl n) = 0 ∧ remF c fs (bl n) = [] ∧ remE c fs (bl n) = re) := ⟨by unfold remC; rw [if_neg hR], by unfold remF; rw [if_neg hR], hre.symm⟩
  have hrm : (re == 0) = false := by rw [hre]; exact beq_eq_false_iff_ne.2 hR
  have hrm2 : (re != 0) = true := by unfold bne; rw [hrm]; rfl
  clear hre
  have HX : Hid (fdV c fs (bl n) = fdV c fs (bl n) ∧ (fdF c fs (bl n)).isSome = (fdF c fs (bl n)).isSome) := ⟨rfl, rfl⟩
  obtain ⟨xf, hxf⟩ : ∃ xf, xf = fdV c fs (bl n) := ⟨_, rfl⟩
  obtain ⟨xi, hxi⟩ : ∃ xi, xi = (fdF c fs (bl n)).isSome := ⟨_, rfl⟩
  replace HX : Hid (fdV c fs (bl n) = xf ∧ (fdF c fs (bl n)).isSome = xi) := ⟨hxf.symm, hxi.symm⟩
  have hso : (n.toList == n.toList) = true := by simp
  clear hxf hxi hP hR hd hn
  obtain ⟨xt, hxt⟩ : ∃ xt, (⟨xf.1.toArray⟩ : ByteArray) = xt := ⟨_, rfl⟩
  obtain ⟨x1, hx1⟩ : ∃ x1, xf.2.1 = x1 := ⟨_, rfl⟩
  obtain ⟨x2, hx2⟩ : ∃ x2, xf.2.2 = x2 := ⟨_, rfl⟩
  have HXT := hide hxt
  have HX1 := hide hx1
  have HX2 := hide hx2
  clear hxt hx1 hx2
  have heq := eqK
  have hgd := Tryd.guardK
  have hxs : (xt.toList == xt.toList) = true := by simp
  have hns : (n.toList == n.toList) = true := by simp
  have HQ := hide ((Q.refl w).alloc (.cells #[.int .i64 c, .slice ao fs.length cap] 24))
  have HB0 : Hid (Blk (w.alloc (.cells #[.int .i64 c, .slice ao fs.length cap] 24)) w.heap.size #[.int .i64 c, .slice ao fs.length cap] 24) := Blk.new w _ _
  replace HRR := hide ((unhide HRR).q (unhide HQ))
  generalize hgD : w.heap.size = D0 at HB0
  unfold dkV
  go_enter Tryd.func6, Tryd.ntmps6
  go_wp2_with fail
  refine (dkawake_any _).mono ?_
  rintro e w1 ⟨rfl, q1⟩
  replace HQ := hide ((unhide HQ).trans q1)
  replace HB0 := hide ((unhide HB0).q q1)
  replace HRR := hide ((unhide HRR).q q1)
  clear q1
  have ld0 : w1.cell? ⟨D0, 0, none⟩ = some (.int .i64 c) := (unhide HB0).cell 0 rfl
  have ld1 : w1.cell? ⟨D0, 1, none⟩ = some (.slice ao fs.length cap) := (unhide HB0).cell 1 rfl
  go_wp2_with fail
  clear ld0 ld1
  refine (put_any' c fs ao cap n ct w1 ⟨(unhide HP).1, (unhide HP).2.1, (unhide HP).2.2, rfl⟩ (unhide HRR) (unhide HZ) (unhide HN) (unhide HC) (unhide HNS)).mono ?_
  rintro e w2 ⟨po, pc, rfl, own2, q2⟩
  have LP := hide (own_le own2)
  have HPR := hide (own2.row)
  clear own2
  have qa := (Q.refl w2).alloc (.cells #[.int .i64 (c + 1), .slice po ps.length pc] 24)
  have HA : Hid (Blk (w2.alloc (.cells #[.int .i64 (c + 1), .slice po ps.length pc] 24)) w2.heap.size #[.int .i64 (c + 1), .slice po ps.length pc] 24) := Blk.new w2 _ _
  replace HPR := hide ((unhide HPR).q qa)
  replace HQ := hide ((unhide HQ).trans (q2.trans qa))
  replace HB0 := hide ((unhide HB0).q (q2.trans qa))
  replace HRR := hide ((unhide HRR).q (q2.trans qa))
  clear q2 qa
  generalize hgNA : w2.heap.size = NA at *
  have ld0 : (w2.alloc (.cells #[.int .i64 (c + 1), .slice po ps.length pc] 24)).cell? ⟨D0, 0, none⟩ = some (.int .i64 c) := (unhide HB0).cell 0 rfl
  have ld1 : (w2.alloc (.cells #[.int .i64 (c + 1), .slice po ps.length pc] 24)).cell? ⟨D0, 1, none⟩ = some (.slice ao fs.length cap) := (unhide HB0).cell 1 rfl
  go_wp2_with fail
  generalize (w2.alloc (.cells #[.int .i64 (c + 1), .slice po ps.length pc] 24)) = vw2 at *
  clear ld0 ld1
  refine (rem_any' c fs ao cap n vw2 ⟨(unhide HR).1, (unhide HR).2.1, (unhide HR).2.2, rfl⟩ (unhide HRR) (unhide HZ) (unhide HN) (unhide HC) (unhide HNS)).mono ?_
  rintro e w3 ⟨ro, rc, rfl, own3, q3⟩
  have HRW := hide (own3.row)
  clear own3
  have qa := (Q.refl w3).alloc (.cells #[.int .i64 0, .slice ro 0 rc] 24)
  have HB : Hid (Blk (w3.alloc (.cells #[.int .i64 0, .slice ro 0 rc] 24)) w3.heap.size #[.int .i64 0, .slice ro 0 rc] 24) := Blk.new w3 _ _
  replace HRW := hide ((unhide HRW).q qa)
  replace HQ := hide ((unhide HQ).trans (q3.trans qa))
  replace HB0 := hide ((unhide HB0).q (q3.trans qa))
  replace HRR := hide ((unhide HRR).q (q3.trans qa))
  replace HPR := hide ((unhide HPR).q (q3.trans qa))
  replace HA := hide ((unhide HA).q (q3.trans qa))
  clear q3 qa
  generalize hgNB : w3.heap.size = NB at *
  have ld0 : (w3.alloc (.cells #[.int .i64 0, .slice ro 0 rc] 24)).cell? ⟨D0, 0, none⟩ = some (.int .i64 c) := (unhide HB0).cell 0 rfl
  have ld1 : (w3.alloc (.cells #[.int .i64 0, .slice ro 0 rc] 24)).cell? ⟨D0, 1, none⟩ = some (.slice ao fs.length cap) := (unhide HB0).cell 1 rfl
  go_wp2_with fail
  generalize (w3.alloc (.cells #[.int .i64 0, .slice ro 0 rc] 24)) = vw3 at *
  clear ld0 ld1
  refine (find_lit c fs ao cap n vw3 (unhide HX) (unhide HXT) (unhide HX1) (unhide HX2) (unhide HRR) (unhide HZ) (unhide HN) (unhide HC)).mono ?_
  rintro e w4 ⟨rfl, q4⟩
  have qa := (Q.refl w4).alloc (.cells #[.string xt, .int .i64 x1, .int .i64 x2] 34)
  have HX4 : Hid (Blk (w4.alloc (.cells #[.string xt, .int .i64 x1, .int .i64 x2] 34)) w4.heap.size #[.string xt, .int .i64 x1, .int .i64 x2] 34) := Blk.new w4 _ _
  replace HQ := hide ((unhide HQ).trans (q4.trans qa))
  replace HB0 := hide ((unhide HB0).q (q4.trans qa))
  replace HRR := hide ((unhide HRR).q (q4.trans qa))
  replace HPR := hide ((unhide HPR).q (q4.trans qa))
  replace HA := hide ((unhide HA).q (q4.trans qa))
  replace HRW := hide ((unhide HRW).q (q4.trans qa))
  replace HB := hide ((unhide HB).q (q4.trans qa))
  clear q4 qa
  generalize hgNX : w4.heap.size = NX at *
  have ld0 : (w4.alloc (.cells #[.string xt, .int .i64 x1, .int .i64 x2] 34)).cell? ⟨NA, 0, none⟩ = some (.int .i64 (c + 1)) := (unhide HA).cell 0 rfl
  have ld1 : (w4.alloc (.cells #[.string xt, .int .i64 x1, .int .i64 x2] 34)).cell? ⟨NA, 1, none⟩ = some (.slice po ps.length pc) := (unhide HA).cell 1 rfl
  go_wp2_with (go_at_call 17; refine (num_any _ _).mono ?_; rintro e w' ⟨rfl, hw'⟩; have hw2 := hw'.symm; clear hw'; subst hw2)
  generalize (w4.alloc (.cells #[.string xt, .int .i64 x1, .int .i64 x2] 34)) = vw4 at *
  clear ld0 ld1
  refine (find_lit (t := n) (x := ct) (y := c + 1) (c + 1) ps po pc n vw4 (unhide HF1) (of_bl rfl).symm rfl rfl (unhide HPR) (unhide HZP) (unhide LP).1 (unhide LP).2.1).mono ?_
  rintro e w5 ⟨rfl, q5⟩
  have qa := (Q.refl w5).alloc (.cells #[.string n, .int .i64 ct, .int .i64 (c + 1)] 34)
  have HY : Hid (Blk (w5.alloc (.cells #[.string n, .int .i64 ct, .int .i64 (c + 1)] 34)) w5.heap.size #[.string n, .int .i64 ct, .int .i64 (c + 1)] 34) := Blk.new w5 _ _
  replace HQ := hide ((unhide HQ).trans (q5.trans qa))
  replace HB0 := hide ((unhide HB0).q (q5.trans qa))
  replace HRR := hide ((unhide HRR).q (q5.trans qa))
  replace HPR := hide ((unhide HPR).q (q5.trans qa))
  replace HA := hide ((unhide HA).q (q5.trans qa))
  replace HRW := hide ((unhide HRW).q (q5.trans qa))
  replace HB := hide ((unhide HB).q (q5.trans qa))
  replace HX4 := hide ((unhide HX4).q (q5.trans qa))
  clear q5 qa
  generalize hgNY : w5.heap.size = NY at *
  have ld0 : (w5.alloc (.cells #[.string n, .int .i64 ct, .int .i64 (c + 1)] 34)).cell? ⟨NA, 0, none⟩ = some (.int .i64 (c + 1)) := (unhide HA).cell 0 rfl
  have ld1 : (w5.alloc (.cells #[.string n, .int .i64 ct, .int .i64 (c + 1)] 34)).cell? ⟨NA, 1, none⟩ = some (.slice po ps.length pc) := (unhide HA).cell 1 rfl
  go_wp2_with fail
  generalize (w5.alloc (.cells #[.string n, .int .i64 ct, .int .i64 (c + 1)] 34)) = vw5 at *
  clear ld0 ld1
  refine (find_lit (t := n) (x := ct) (y := c + 1) (c + 1) ps po pc n vw5 (unhide HF1) (of_bl rfl).symm rfl rfl (unhide HPR) (unhide HZP) (unhide LP).1 (unhide LP).2.1).mono ?_
  rintro e w6 ⟨rfl, q6⟩
  have qa := (Q.refl w6).alloc (.cells #[.string n, .int .i64 ct, .int .i64 (c + 1)] 34)
  have HZ6 : Hid (Blk (w6.alloc (.cells #[.string n, .int .i64 ct, .int .i64 (c + 1)] 34)) w6.heap.size #[.string n, .int .i64 ct, .int .i64 (c + 1)] 34) := Blk.new w6 _ _
  replace HQ := hide ((unhide HQ).trans (q6.trans qa))
  replace HB0 := hide ((unhide HB0).q (q6.trans qa))
  replace HRR := hide ((unhide HRR).q (q6.trans qa))
  replace HPR := hide ((unhide HPR).q (q6.trans qa))
  replace HA := hide ((unhide HA).q (q6.trans qa))
  replace HRW := hide ((unhide HRW).q (q6.trans qa))
  replace HB := hide ((unhide HB).q (q6.trans qa))
  replace HX4 := hide ((unhide HX4).q (q6.trans qa))
  replace HY := hide ((unhide HY).q (q6.trans qa))
  clear q6 qa
  generalize hgNZ : w6.heap.size = NZ at *
  have ld0 : (w6.alloc (.cells #[.string n, .int .i64 ct, .int .i64 (c + 1)] 34)).cell? ⟨D0, 0, none⟩ = some (.int .i64 c) := (unhide HB0).cell 0 rfl
  have ld1 : (w6.alloc (.cells #[.string n, .int .i64 ct, .int .i64 (c + 1)] 34)).cell? ⟨D0, 1, none⟩ = some (.slice ao fs.length cap) := (unhide HB0).cell 1 rfl
  have ld2 : (w6.alloc (.cells #[.string n, .int .i64 ct, .int .i64 (c + 1)] 34)).cell? ⟨NA, 0, none⟩ = some (.int .i64 (c + 1)) := (unhide HA).cell 0 rfl
  have ld3 : (w6.alloc (.cells #[.string n, .int .i64 ct, .int .i64 (c + 1)] 34)).cell? ⟨NA, 1, none⟩ = some (.slice po ps.length pc) := (unhide HA).cell 1 rfl
  go_wp2_with fail
  generalize (w6.alloc (.cells #[.string n, .int .i64 ct, .int .i64 (c + 1)] 34)) = vw6 at *
  clear ld0 ld1 ld2 ld3
  refine (may_litK (c + 1) ps po pc vw6 (unhide HDP) (unhide HPR) (unhide HZP) (unhide LP).1 (unhide LP).2.1).mono ?_
  rintro e w7 ⟨rfl, q7⟩
  replace HQ := hide ((unhide HQ).trans q7)
  replace HB0 := hide ((unhide HB0).q q7)
  replace HRR := hide ((unhide HRR).q q7)
  replace HPR := hide ((unhide HPR).q q7)
  replace HA := hide ((unhide HA).q q7)
  replace HRW := hide ((unhide HRW).q q7)
  replace HB := hide ((unhide HB).q q7)
  replace HX4 := hide ((unhide HX4).q q7)
  replace HY := hide ((unhide HY).q q7)
  replace HZ6 := hide ((unhide HZ6).q q7)
  clear q7
  have ld0 : w7.cell? ⟨NB, 0, none⟩ = some (.int .i64 0) := (unhide HB).cell 0 rfl
  have ld1 : w7.cell? ⟨NB, 1, none⟩ = some (.slice ro 0 rc) := (unhide HB).cell 1 rfl
  go_wp2_with (go_at_call 17; refine (num_any _ _).mono ?_; rintro e w' ⟨rfl, hw'⟩; have hw2 := hw'.symm; clear hw'; subst hw2)
  clear ld0 ld1
  refine (same_litK (v := true) 0 0 ro none rc 0 [] [] w7 (by decide) (Or.inl rfl) (Or.inl rfl) (by decide)).mono ?_
  rintro e w9 ⟨rfl, q9⟩
  replace HQ := hide ((unhide HQ).trans q9)
  replace HB0 := hide ((unhide HB0).q q9)
  replace HRR := hide ((unhide HRR).q q9)
  replace HPR := hide ((unhide HPR).q q9)
  replace HA := hide ((unhide HA).q q9)
  replace HRW := hide ((unhide HRW).q q9)
  replace HB := hide ((unhide HB).q q9)
  replace HX4 := hide ((unhide HX4).q q9)
  replace HY := hide ((unhide HY).q q9)
  replace HZ6 := hide ((unhide HZ6).q q9)
  clear q9
  go_wp2_with fail
  go_ret
  exact ⟨rfl, unhide HQ⟩

set_option maxRecDepth 20000 in
set_option maxHeartbeats 8000000 in
theorem other_01d (w : World) (c : Int) (fs : List Fl) (ao : Option Addr) (cap : Nat) (hd : IsDk w fs ao cap) (n : ByteArray) (hn : n.size ≤ maxLen) (x : Int) (o : ByteArray)
    (hP : putE c fs (bl n) (x % 65536) = 0) (hR : ¬ remE c fs (bl n) = 0) (hO : ¬ bl o = bl n) :
    Calls Tryd.prog 6 #[dkV c ao fs.length cap, .string n, .int .i64 x, .string o] w fun e w' => e = .returned (.bool true) ∧ Q w w' := by
  have hbit := and65535 x
  generalize x % 65536 = ct at *
  have HRR := hide hd.r
  have HZ := hide hd.z
  have HN := hide hd.n
  have HC := hide hd.cap
  have HL := hide hd.len
  have HNS := hide hn
  have HPO := hide (put_ok hP).1.1
  have HPM := hide (put_may hP)
  have HP : Hid (putC c fs (bl n) ct = c + 1 ∧ putF c fs (bl n) ct = putL fs (bl n) ct (c + 1) ∧ putE c fs (bl n) ct = 0) := ⟨by unfold putC; rw [if_pos hP], by unfold putF; rw [if_pos hP], hP⟩
  have HF1 : Hid (fdV (c + 1) (putL fs (bl n) ct (c + 1)) (bl n) = (bl n, ct, c + 1) ∧ (fdF (c + 1) (putL fs (bl n) ct (c + 1)) (bl n)).isSome = true) := by
    show _ ∧ _
    unfold fdV fdF
    rw [dk_of (unhide HPM), if_pos rfl, fn_put (unhide HPO).u, if_pos rfl]; exact ⟨rfl, rfl⟩
  have hc0 := (unhide HPO).c0
  have hc1 := (unhide HPO).c1
  have hw1 : IntKind.i64.wrap (c + 1) = c + 1 := by rw [IntKind.wrap_i64]; omega
  have HF2 : Hid (fdV (c + 1) (putL fs (bl n) ct (c + 1)) (bl o) = fdV c fs (bl o) ∧ (fdF (c + 1) (putL fs (bl n) ct (c + 1)) (bl o)).isSome = (fdF c fs (bl o)).isSome) := by
    show _ ∧ _
    unfold fdV fdF
    rw [dk_of (unhide HPM), if_pos rfl, fn_put (unhide HPO).u, if_neg hO, dk_of (unhide HPO), if_pos rfl]; exact ⟨rfl, rfl⟩
  have HPW := hide (unhide HPM)
  have HDP := hide (dk_of (unhide HPM))
  have HZP : Hid (FlZ (putL fs (bl n) ct (c + 1))) := fun f hf => by have := fl_len ((unhide HPM).f f hf); unfold maxLen; omega
  have HLP : Hid ((putL fs (bl n) ct (c + 1)).length ≤ 64) := (unhide HPM).n
  generalize putL fs (bl n) ct (c + 1) = ps at *
  obtain ⟨re, hre⟩ : ∃ re, re = remE c fs (bl n) := ⟨_, rfl⟩
  have HR : Hid (remC c fs (bl n) = 0 ∧ remF c fs (bl n) = [] ∧ remE c fs (bl n) = re) := ⟨by unfold remC; rw [if_neg hR], by unfold remF; rw [if_neg hR], hre.symm⟩
  have hrm : (re == 0) = false := by rw [hre]; exact beq_eq_false_iff_ne.2 hR
  have hrm2 : (re != 0) = true := by unfold bne; rw [hrm]; rfl
  clear hre
  have HX : Hid (fdV c fs (bl o) = fdV c fs (bl o) ∧ (fdF c fs (bl o)).isSome = (fdF c fs (bl o)).isSome) := ⟨rfl, rfl⟩
  obtain ⟨xf, hxf⟩ : ∃ xf, xf = fdV c fs (bl o) := ⟨_, rfl⟩
  obtain ⟨xi, hxi⟩ : ∃ xi, xi = (fdF c fs (bl o)).isSome := ⟨_, rfl⟩
  replace HX : Hid (fdV c fs (bl o) = xf ∧ (fdF c fs (bl o)).isSome = xi) := ⟨hxf.symm, hxi.symm⟩
  replace HF2 : Hid (fdV (c + 1) ps (bl o) = xf ∧ (fdF (c + 1) ps (bl o)).isSome = xi) := ⟨(unhide HF2).1.trans hxf.symm, (unhide HF2).2.trans hxi.symm⟩
  have hso : (o.toList == n.toList) = false := by rw [bl_toList, bl_toList]; exact beq_eq_false_iff_ne.2 hO
  clear hO
  clear hxf hxi hP hR hd hn
  obtain ⟨xt, hxt⟩ : ∃ xt, (⟨xf.1.toArray⟩ : ByteArray) = xt := ⟨_, rfl⟩
  obtain ⟨x1, hx1⟩ : ∃ x1, xf.2.1 = x1 := ⟨_, rfl⟩
  obtain ⟨x2, hx2⟩ : ∃ x2, xf.2.2 = x2 := ⟨_, rfl⟩
  have HXT := hide hxt
  have HX1 := hide hx1
  have HX2 := hide hx2
  clear hxt hx1 hx2
  have heq := eqK
  have hgd := Tryd.guardK
  have hxs : (xt.toList == xt.toList) = true := by simp
  have hns : (n.toList == n.toList) = true := by simp
  have HQ := hide ((Q.refl w).alloc (.cells #[.int .i64 c, .slice ao fs.length cap] 24))
  have HB0 : Hid (Blk (w.alloc (.cells #[.int .i64 c, .slice ao fs.length cap] 24)) w.heap.size #[.int .i64 c, .slice ao fs.length cap] 24) := Blk.new w _ _
  replace HRR := hide ((unhide HRR).q (unhide HQ))
  generalize hgD : w.heap.size = D0 at HB0
  unfold dkV
  go_enter Tryd.func6, Tryd.ntmps6
  go_wp2_with fail
  refine (dkawake_any _).mono ?_
  rintro e w1 ⟨rfl, q1⟩
  replace HQ := hide ((unhide HQ).trans q1)
  replace HB0 := hide ((unhide HB0).q q1)
  replace HRR := hide ((unhide HRR).q q1)
  clear q1
  have ld0 : w1.cell? ⟨D0, 0, none⟩ = some (.int .i64 c) := (unhide HB0).cell 0 rfl
  have ld1 : w1.cell? ⟨D0, 1, none⟩ = some (.slice ao fs.length cap) := (unhide HB0).cell 1 rfl
  go_wp2_with fail
  clear ld0 ld1
  refine (put_any' c fs ao cap n ct w1 ⟨(unhide HP).1, (unhide HP).2.1, (unhide HP).2.2, rfl⟩ (unhide HRR) (unhide HZ) (unhide HN) (unhide HC) (unhide HNS)).mono ?_
  rintro e w2 ⟨po, pc, rfl, own2, q2⟩
  have LP := hide (own_le own2)
  have HPR := hide (own2.row)
  clear own2
  have qa := (Q.refl w2).alloc (.cells #[.int .i64 (c + 1), .slice po ps.length pc] 24)
  have HA : Hid (Blk (w2.alloc (.cells #[.int .i64 (c + 1), .slice po ps.length pc] 24)) w2.heap.size #[.int .i64 (c + 1), .slice po ps.length pc] 24) := Blk.new w2 _ _
  replace HPR := hide ((unhide HPR).q qa)
  replace HQ := hide ((unhide HQ).trans (q2.trans qa))
  replace HB0 := hide ((unhide HB0).q (q2.trans qa))
  replace HRR := hide ((unhide HRR).q (q2.trans qa))
  clear q2 qa
  generalize hgNA : w2.heap.size = NA at *
  have ld0 : (w2.alloc (.cells #[.int .i64 (c + 1), .slice po ps.length pc] 24)).cell? ⟨D0, 0, none⟩ = some (.int .i64 c) := (unhide HB0).cell 0 rfl
  have ld1 : (w2.alloc (.cells #[.int .i64 (c + 1), .slice po ps.length pc] 24)).cell? ⟨D0, 1, none⟩ = some (.slice ao fs.length cap) := (unhide HB0).cell 1 rfl
  go_wp2_with fail
  generalize (w2.alloc (.cells #[.int .i64 (c + 1), .slice po ps.length pc] 24)) = vw2 at *
  clear ld0 ld1
  refine (rem_any' c fs ao cap n vw2 ⟨(unhide HR).1, (unhide HR).2.1, (unhide HR).2.2, rfl⟩ (unhide HRR) (unhide HZ) (unhide HN) (unhide HC) (unhide HNS)).mono ?_
  rintro e w3 ⟨ro, rc, rfl, own3, q3⟩
  have HRW := hide (own3.row)
  clear own3
  have qa := (Q.refl w3).alloc (.cells #[.int .i64 0, .slice ro 0 rc] 24)
  have HB : Hid (Blk (w3.alloc (.cells #[.int .i64 0, .slice ro 0 rc] 24)) w3.heap.size #[.int .i64 0, .slice ro 0 rc] 24) := Blk.new w3 _ _
  replace HRW := hide ((unhide HRW).q qa)
  replace HQ := hide ((unhide HQ).trans (q3.trans qa))
  replace HB0 := hide ((unhide HB0).q (q3.trans qa))
  replace HRR := hide ((unhide HRR).q (q3.trans qa))
  replace HPR := hide ((unhide HPR).q (q3.trans qa))
  replace HA := hide ((unhide HA).q (q3.trans qa))
  clear q3 qa
  generalize hgNB : w3.heap.size = NB at *
  have ld0 : (w3.alloc (.cells #[.int .i64 0, .slice ro 0 rc] 24)).cell? ⟨D0, 0, none⟩ = some (.int .i64 c) := (unhide HB0).cell 0 rfl
  have ld1 : (w3.alloc (.cells #[.int .i64 0, .slice ro 0 rc] 24)).cell? ⟨D0, 1, none⟩ = some (.slice ao fs.length cap) := (unhide HB0).cell 1 rfl
  go_wp2_with fail
  generalize (w3.alloc (.cells #[.int .i64 0, .slice ro 0 rc] 24)) = vw3 at *
  clear ld0 ld1
  refine (find_lit c fs ao cap o vw3 (unhide HX) (unhide HXT) (unhide HX1) (unhide HX2) (unhide HRR) (unhide HZ) (unhide HN) (unhide HC)).mono ?_
  rintro e w4 ⟨rfl, q4⟩
  have qa := (Q.refl w4).alloc (.cells #[.string xt, .int .i64 x1, .int .i64 x2] 34)
  have HX4 : Hid (Blk (w4.alloc (.cells #[.string xt, .int .i64 x1, .int .i64 x2] 34)) w4.heap.size #[.string xt, .int .i64 x1, .int .i64 x2] 34) := Blk.new w4 _ _
  replace HQ := hide ((unhide HQ).trans (q4.trans qa))
  replace HB0 := hide ((unhide HB0).q (q4.trans qa))
  replace HRR := hide ((unhide HRR).q (q4.trans qa))
  replace HPR := hide ((unhide HPR).q (q4.trans qa))
  replace HA := hide ((unhide HA).q (q4.trans qa))
  replace HRW := hide ((unhide HRW).q (q4.trans qa))
  replace HB := hide ((unhide HB).q (q4.trans qa))
  clear q4 qa
  generalize hgNX : w4.heap.size = NX at *
  have ld0 : (w4.alloc (.cells #[.string xt, .int .i64 x1, .int .i64 x2] 34)).cell? ⟨NA, 0, none⟩ = some (.int .i64 (c + 1)) := (unhide HA).cell 0 rfl
  have ld1 : (w4.alloc (.cells #[.string xt, .int .i64 x1, .int .i64 x2] 34)).cell? ⟨NA, 1, none⟩ = some (.slice po ps.length pc) := (unhide HA).cell 1 rfl
  go_wp2_with (go_at_call 17; refine (num_any _ _).mono ?_; rintro e w' ⟨rfl, hw'⟩; have hw2 := hw'.symm; clear hw'; subst hw2)
  generalize (w4.alloc (.cells #[.string xt, .int .i64 x1, .int .i64 x2] 34)) = vw4 at *
  clear ld0 ld1
  refine (find_lit (c + 1) ps po pc o vw4 (unhide HF2) (unhide HXT) (unhide HX1) (unhide HX2) (unhide HPR) (unhide HZP) (unhide LP).1 (unhide LP).2.1).mono ?_
  rintro e w5 ⟨rfl, q5⟩
  have qa := (Q.refl w5).alloc (.cells #[.string xt, .int .i64 x1, .int .i64 x2] 34)
  have HY : Hid (Blk (w5.alloc (.cells #[.string xt, .int .i64 x1, .int .i64 x2] 34)) w5.heap.size #[.string xt, .int .i64 x1, .int .i64 x2] 34) := Blk.new w5 _ _
  replace HQ := hide ((unhide HQ).trans (q5.trans qa))
  replace HB0 := hide ((unhide HB0).q (q5.trans qa))
  replace HRR := hide ((unhide HRR).q (q5.trans qa))
  replace HPR := hide ((unhide HPR).q (q5.trans qa))
  replace HA := hide ((unhide HA).q (q5.trans qa))
  replace HRW := hide ((unhide HRW).q (q5.trans qa))
  replace HB := hide ((unhide HB).q (q5.trans qa))
  replace HX4 := hide ((unhide HX4).q (q5.trans qa))
  clear q5 qa
  generalize hgNY : w5.heap.size = NY at *
  have ld0 : (w5.alloc (.cells #[.string xt, .int .i64 x1, .int .i64 x2] 34)).cell? ⟨NA, 0, none⟩ = some (.int .i64 (c + 1)) := (unhide HA).cell 0 rfl
  have ld1 : (w5.alloc (.cells #[.string xt, .int .i64 x1, .int .i64 x2] 34)).cell? ⟨NA, 1, none⟩ = some (.slice po ps.length pc) := (unhide HA).cell 1 rfl
  go_wp2_with fail
  generalize (w5.alloc (.cells #[.string xt, .int .i64 x1, .int .i64 x2] 34)) = vw5 at *
  clear ld0 ld1
  refine (find_lit (t := n) (x := ct) (y := c + 1) (c + 1) ps po pc n vw5 (unhide HF1) (of_bl rfl).symm rfl rfl (unhide HPR) (unhide HZP) (unhide LP).1 (unhide LP).2.1).mono ?_
  rintro e w6 ⟨rfl, q6⟩
  have qa := (Q.refl w6).alloc (.cells #[.string n, .int .i64 ct, .int .i64 (c + 1)] 34)
  have HZ6 : Hid (Blk (w6.alloc (.cells #[.string n, .int .i64 ct, .int .i64 (c + 1)] 34)) w6.heap.size #[.string n, .int .i64 ct, .int .i64 (c + 1)] 34) := Blk.new w6 _ _
  replace HQ := hide ((unhide HQ).trans (q6.trans qa))
  replace HB0 := hide ((unhide HB0).q (q6.trans qa))
  replace HRR := hide ((unhide HRR).q (q6.trans qa))
  replace HPR := hide ((unhide HPR).q (q6.trans qa))
  replace HA := hide ((unhide HA).q (q6.trans qa))
  replace HRW := hide ((unhide HRW).q (q6.trans qa))
  replace HB := hide ((unhide HB).q (q6.trans qa))
  replace HX4 := hide ((unhide HX4).q (q6.trans qa))
  replace HY := hide ((unhide HY).q (q6.trans qa))
  clear q6 qa
  generalize hgNZ : w6.heap.size = NZ at *
  have ld0 : (w6.alloc (.cells #[.string n, .int .i64 ct, .int .i64 (c + 1)] 34)).cell? ⟨NY, 0, none⟩ = some (.string xt) := (unhide HY).cell 0 rfl
  have ld1 : (w6.alloc (.cells #[.string n, .int .i64 ct, .int .i64 (c + 1)] 34)).cell? ⟨NY, 1, none⟩ = some (.int .i64 x1) := (unhide HY).cell 1 rfl
  have ld2 : (w6.alloc (.cells #[.string n, .int .i64 ct, .int .i64 (c + 1)] 34)).cell? ⟨NY, 2, none⟩ = some (.int .i64 x2) := (unhide HY).cell 2 rfl
  have ld3 : (w6.alloc (.cells #[.string n, .int .i64 ct, .int .i64 (c + 1)] 34)).cell? ⟨NX, 0, none⟩ = some (.string xt) := (unhide HX4).cell 0 rfl
  have ld4 : (w6.alloc (.cells #[.string n, .int .i64 ct, .int .i64 (c + 1)] 34)).cell? ⟨NX, 1, none⟩ = some (.int .i64 x1) := (unhide HX4).cell 1 rfl
  have ld5 : (w6.alloc (.cells #[.string n, .int .i64 ct, .int .i64 (c + 1)] 34)).cell? ⟨NX, 2, none⟩ = some (.int .i64 x2) := (unhide HX4).cell 2 rfl
  have ld6 : (w6.alloc (.cells #[.string n, .int .i64 ct, .int .i64 (c + 1)] 34)).cell? ⟨D0, 0, none⟩ = some (.int .i64 c) := (unhide HB0).cell 0 rfl
  have ld7 : (w6.alloc (.cells #[.string n, .int .i64 ct, .int .i64 (c + 1)] 34)).cell? ⟨D0, 1, none⟩ = some (.slice ao fs.length cap) := (unhide HB0).cell 1 rfl
  have ld8 : (w6.alloc (.cells #[.string n, .int .i64 ct, .int .i64 (c + 1)] 34)).cell? ⟨NA, 0, none⟩ = some (.int .i64 (c + 1)) := (unhide HA).cell 0 rfl
  have ld9 : (w6.alloc (.cells #[.string n, .int .i64 ct, .int .i64 (c + 1)] 34)).cell? ⟨NA, 1, none⟩ = some (.slice po ps.length pc) := (unhide HA).cell 1 rfl
  go_wp2_with fail
  generalize (w6.alloc (.cells #[.string n, .int .i64 ct, .int .i64 (c + 1)] 34)) = vw6 at *
  clear ld0 ld1 ld2 ld3 ld4 ld5 ld6 ld7 ld8 ld9
  refine (may_litK (c + 1) ps po pc vw6 (unhide HDP) (unhide HPR) (unhide HZP) (unhide LP).1 (unhide LP).2.1).mono ?_
  rintro e w7 ⟨rfl, q7⟩
  replace HQ := hide ((unhide HQ).trans q7)
  replace HB0 := hide ((unhide HB0).q q7)
  replace HRR := hide ((unhide HRR).q q7)
  replace HPR := hide ((unhide HPR).q q7)
  replace HA := hide ((unhide HA).q q7)
  replace HRW := hide ((unhide HRW).q q7)
  replace HB := hide ((unhide HB).q q7)
  replace HX4 := hide ((unhide HX4).q q7)
  replace HY := hide ((unhide HY).q q7)
  replace HZ6 := hide ((unhide HZ6).q q7)
  clear q7
  have ld0 : w7.cell? ⟨NB, 0, none⟩ = some (.int .i64 0) := (unhide HB).cell 0 rfl
  have ld1 : w7.cell? ⟨NB, 1, none⟩ = some (.slice ro 0 rc) := (unhide HB).cell 1 rfl
  go_wp2_with (go_at_call 17; refine (num_any _ _).mono ?_; rintro e w' ⟨rfl, hw'⟩; have hw2 := hw'.symm; clear hw'; subst hw2)
  clear ld0 ld1
  refine (same_litK (v := true) 0 0 ro none rc 0 [] [] w7 (by decide) (Or.inl rfl) (Or.inl rfl) (by decide)).mono ?_
  rintro e w9 ⟨rfl, q9⟩
  replace HQ := hide ((unhide HQ).trans q9)
  replace HB0 := hide ((unhide HB0).q q9)
  replace HRR := hide ((unhide HRR).q q9)
  replace HPR := hide ((unhide HPR).q q9)
  replace HA := hide ((unhide HA).q q9)
  replace HRW := hide ((unhide HRW).q q9)
  replace HB := hide ((unhide HB).q q9)
  replace HX4 := hide ((unhide HX4).q q9)
  replace HY := hide ((unhide HY).q q9)
  replace HZ6 := hide ((unhide HZ6).q q9)
  clear q9
  go_wp2_with fail
  go_ret
  exact ⟨rfl, unhide HQ⟩

end Go.Proofs.YtghfohhlcfelhaaDoor
