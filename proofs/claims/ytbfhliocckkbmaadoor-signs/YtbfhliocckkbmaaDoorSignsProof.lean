/- Signs, whole: what Of answers is what the document's own Sign answers, the edge stays, and one sign has one making, for any two edges; no conditions. -/
import Derived.Test.YtbfhliocckkbmaaDoorRows
import Derived.Test.YtbfhliocckkbmaaDoorCards
import Derived.Test.YtbfhliocckkbmaaDoorTie
import Derived.LaidMore
import Derived.Lay
import Derived.SevenTiedAt
import Derived.Stop.Joined
import Derived.ProofKit
import Derived.OpenShut
import Derived.ShutString
import Derived.ChangeOld
import Derived.Below
import Derived.SizedLaws
import Derived.Test.YtbfhliocckkbmaaDoorSgOpen
import Derived.Test.YtbfhliocckkbmaaDoorSgRef
import Derived.Test.YtbfhliocckkbmaaDoorGfCopy
import Derived.Test.YtbfhliocckkbmaaDoorGfSameE
namespace Go.Proofs.YtbfhliocckkbmaaDoor
open Go.ChangeShapes Go.WideShapes Go.ChangeAt Go.RowKit

theorem int_ne (a : Int) : (a != a) = false := by simp
theorem txt_ne (a : ByteArray) : (a.toList != a.toList) = false := by simp

set_option maxRecDepth 20000 in
set_option maxHeartbeats 16000000 in
theorem signs_any (W : World) (x : EdA) (hx : EdO W x) (y : EdA) (hy : EdO W y) :
    Calls Tryd.prog 3 #[edV' x, edV' y] W fun e w' => e = .returned (.bool true) ∧ Q W w' := by
  obtain ⟨b1, b2, qb⟩ := bxE_facts W x y
  have HC := hide (copyE_any x (bxE W x y) (hx.q qb))
  have HB1 := hide (fun w2 (q : Q (bxE W x y) w2) => b1.q q)
  have HB2 := hide (fun w2 (q : Q (bxE W x y) w2) => b2.q q)
  have HXO := hide (fun w2 (q : Q (bxE W x y) w2) => hx.q (qb.trans q))
  have HYO := hide (fun w2 (q : Q (bxE W x y) w2) => hy.q (qb.trans q))
  clear b1 b2 hx hy
  go_enter Tryd.func3, Tryd.ntmps3
  go_wp2_with fail
  change Calls _ _ _ (bxE W x y) _
  generalize bxE W x y = wb at *
  generalize hG : W.heap.size = G at HB1 HB2 ⊢
  refine (unhide HC).mono ?_
  rintro e w1 ⟨z, rfl, hz1, hzr, q1⟩
  clear HC
  have bz : Blk (bx1' w1 z) w1.heap.size (ev z).toArray 24 := Blk.new w1 _ _
  have qz : Q w1 (bx1' w1 z) := (Q.refl w1).alloc _
  have qbz := q1.trans qz
  have HZC := hide (EdR.c' hzr)
  have HZR := hide (fun w2 (q : Q (bx1' w1 z) w2) => (EdR.rd hzr).q (qz.trans q))
  have HBZ := hide (fun w2 (q : Q (bx1' w1 z) w2) => bz.q q)
  have HZZ : Hid (EdZ z.1) := by show EdZ z.1; rw [hz1]; exact (unhide HXO wb (Q.refl _)).z.2
  have HO1 := hide (sgOf_any z (bx1' w1 z) (unhide HZR _ (Q.refl _)) (unhide HZZ) (unhide HZC))
  rw [hz1] at HO1
  have HZ1 := hide hz1
  clear bz hz1 hzr
  go_wp2_with fail
  change Calls _ _ _ (bx1' w1 z) _
  generalize bx1' w1 z = w2 at *
  generalize hN : w1.heap.size = N at HBZ ⊢
  refine (unhide HO1).mono ?_
  rintro e w3 ⟨rfl, q3⟩
  have qb3 := qbz.trans q3
  have HRS := hide (rsign_any x w3 (unhide HXO _ qb3).z.1 (unhide HXO _ qb3).z.2)
  have x1 := unhide HB1 _ qb3
  have c0 : w3.cell? ⟨G, 0, none⟩ = some x.v1 := x1.cell 0 rfl
  have c1 : w3.cell? ⟨G, 1, none⟩ = some x.v2 := x1.cell 1 rfl
  have c2 : w3.cell? ⟨G, 2, none⟩ = some x.v3 := x1.cell 2 rfl
  have c3 : w3.cell? ⟨G, 3, none⟩ = some x.v4 := x1.cell 3 rfl
  have c4 : w3.cell? ⟨G, 4, none⟩ = some (.string ⟨x.1.2.2.2.2.1.toArray⟩) := x1.cell 4 rfl
  have c5 : w3.cell? ⟨G, 5, none⟩ = some (.bool x.1.2.2.2.2.2.1) := x1.cell 5 rfl
  have c6 : w3.cell? ⟨G, 6, none⟩ = some (.string ⟨x.1.2.2.2.2.2.2.toArray⟩) := x1.cell 6 rfl
  clear x1 HO1
  go_wp2_with fail
  refine (unhide HRS).mono ?_
  rintro e w4 ⟨rfl, q4⟩
  have qb4 := qb3.trans q4
  have HO2 := hide (sgOf_any y w4 (unhide HYO _ qb4).z.1 (unhide HYO _ qb4).z.2 (unhide HYO _ qb4).c')
  have y1 := unhide HB2 _ qb4
  have e0 : w4.cell? ⟨G + 1, 0, none⟩ = some y.v1 := y1.cell 0 rfl
  have e1 : w4.cell? ⟨G + 1, 1, none⟩ = some y.v2 := y1.cell 1 rfl
  have e2 : w4.cell? ⟨G + 1, 2, none⟩ = some y.v3 := y1.cell 2 rfl
  have e3 : w4.cell? ⟨G + 1, 3, none⟩ = some y.v4 := y1.cell 3 rfl
  have e4 : w4.cell? ⟨G + 1, 4, none⟩ = some (.string ⟨y.1.2.2.2.2.1.toArray⟩) := y1.cell 4 rfl
  have e5 : w4.cell? ⟨G + 1, 5, none⟩ = some (.bool y.1.2.2.2.2.2.1) := y1.cell 5 rfl
  have e6 : w4.cell? ⟨G + 1, 6, none⟩ = some (.string ⟨y.1.2.2.2.2.2.2.toArray⟩) := y1.cell 6 rfl
  clear c0 c1 c2 c3 c4 c5 c6 y1 HRS
  go_wp2_with fail
  refine (unhide HO2).mono ?_
  rintro e w5 ⟨rfl, q5⟩
  have qb5 := qb4.trans q5
  have q25 := q3.trans (q4.trans q5)
  have zz := unhide HZZ
  have HSE := hide (sameE_any z x w5 (unhide HZR _ q25) (unhide HXO _ qb5).z.1 zz.a.n zz.b.n zz.c.n zz.d.n)
  rw [(eqEd_iff z.1 x.1).2 (unhide HZ1)] at HSE
  have z5 := unhide HBZ _ q25
  have x5 := unhide HB1 _ qb5
  have f0 : w5.cell? ⟨N, 0, none⟩ = some z.v1 := z5.cell 0 rfl
  have f1 : w5.cell? ⟨N, 1, none⟩ = some z.v2 := z5.cell 1 rfl
  have f2 : w5.cell? ⟨N, 2, none⟩ = some z.v3 := z5.cell 2 rfl
  have f3 : w5.cell? ⟨N, 3, none⟩ = some z.v4 := z5.cell 3 rfl
  have f4 : w5.cell? ⟨N, 4, none⟩ = some (.string ⟨z.1.2.2.2.2.1.toArray⟩) := z5.cell 4 rfl
  have f5 : w5.cell? ⟨N, 5, none⟩ = some (.bool z.1.2.2.2.2.2.1) := z5.cell 5 rfl
  have f6 : w5.cell? ⟨N, 6, none⟩ = some (.string ⟨z.1.2.2.2.2.2.2.toArray⟩) := z5.cell 6 rfl
  have g0 : w5.cell? ⟨G, 0, none⟩ = some x.v1 := x5.cell 0 rfl
  have g1 : w5.cell? ⟨G, 1, none⟩ = some x.v2 := x5.cell 1 rfl
  have g2 : w5.cell? ⟨G, 2, none⟩ = some x.v3 := x5.cell 2 rfl
  have g3 : w5.cell? ⟨G, 3, none⟩ = some x.v4 := x5.cell 3 rfl
  have g4 : w5.cell? ⟨G, 4, none⟩ = some (.string ⟨x.1.2.2.2.2.1.toArray⟩) := x5.cell 4 rfl
  have g5 : w5.cell? ⟨G, 5, none⟩ = some (.bool x.1.2.2.2.2.2.1) := x5.cell 5 rfl
  have g6 : w5.cell? ⟨G, 6, none⟩ = some (.string ⟨x.1.2.2.2.2.2.2.toArray⟩) := x5.cell 6 rfl
  have n1 := txt_ne ⟨(sgS x.1).toArray⟩
  have n2 := int_ne (sgE x.1)
  have HXZ := hide ((unhide HXO _ (Q.refl _)).z.2)
  have HX := hide (fun w2 (q : Q w5 w2) => (unhide HXO _ (qb5.trans q)).z.1)
  have HY := hide (fun w2 (q : Q w5 w2) => (unhide HYO _ (qb5.trans q)).z.1)
  have HCX := hide (fun w2 (q : Q w5 w2) => unhide HB1 _ (qb5.trans q))
  have HCY := hide (fun w2 (q : Q w5 w2) => unhide HB2 _ (qb5.trans q))
  have qW : Q W w5 := qb.trans qb5
  clear e0 e1 e2 e3 e4 e5 e6 zz z5 x5 HO2 HB1 HB2 HXO HYO HBZ HZR HZZ HZC HZ1 q1 qz qbz q3 qb3 q4 qb4 q5 qb5 q25 qb
  cases hox : edOk x.1
  · obtain ⟨t1, t2⟩ := sg_no hox
    rw [t2] at n2 ⊢
    clear t1 t2 hox HX HY HCX HCY HXZ
    generalize (⟨(sgS x.1).toArray⟩ : ByteArray) = S1 at *
    generalize (⟨(sgS y.1).toArray⟩ : ByteArray) = S2 at *
    generalize sgE y.1 = E2 at *
    go_wp2_with (first | (go_at_call 10; refine (num_any _ _).mono ?_; rintro e w6 ⟨rfl, rfl⟩) | (go_at_call 11; refine (unhide HSE).mono ?_; rintro e w7 ⟨rfl, q7⟩))
    refine (sawake_any _).mono ?_
    rintro e w8 ⟨rfl, q8⟩
    go_wp2_with fail
    go_ret
    exact ⟨rfl, (qW.trans q7).trans q8⟩
  obtain ⟨t1, t2⟩ := sg_yes hox
  rw [t2] at n2 ⊢
  cases hoy : edOk y.1
  · obtain ⟨t3, t4⟩ := sg_no hoy
    rw [t4]
    clear t1 t2 t3 t4 hox hoy HX HY HCX HCY HXZ
    generalize (⟨(sgS x.1).toArray⟩ : ByteArray) = S1 at *
    generalize (⟨(sgS y.1).toArray⟩ : ByteArray) = S2 at *
    go_wp2_with (first | (go_at_call 10; refine (num_any _ _).mono ?_; rintro e w6 ⟨rfl, rfl⟩) | (go_at_call 11; refine (unhide HSE).mono ?_; rintro e w7 ⟨rfl, q7⟩))
    refine (sawake_any _).mono ?_
    rintro e w8 ⟨rfl, q8⟩
    go_wp2_with fail
    go_ret
    exact ⟨rfl, (qW.trans q7).trans q8⟩
  obtain ⟨t3, t4⟩ := sg_yes hoy
  rw [t4]
  have HF : Hid (((⟨(sgS x.1).toArray⟩ : ByteArray).toList == (⟨(sgS y.1).toArray⟩ : ByteArray).toList) = sgEq x.1 y.1) := by
    show _ = _
    rw [← sg_inj hox hoy, bl_toList, bl_toList, t1, t3]; rfl
  clear t1 t2 t3 t4 hox hoy
  unfold sgEq at HF
  have HT1 := hide (fun w2 (q : Q w5 w2) => sameT_any x.2.1.1 y.2.1.1 x.2.1.2 y.2.1.2 x.1.1 y.1.1 w2 (unhide HX _ q).a (unhide HY _ q).a (by have := (unhide HXZ).a.n; omega))
  have HT2 := hide (fun w2 (q : Q w5 w2) => sameT_any x.2.2.1.1 y.2.2.1.1 x.2.2.1.2 y.2.2.1.2 x.1.2.1 y.1.2.1 w2 (unhide HX _ q).b (unhide HY _ q).b (by have := (unhide HXZ).b.n; omega))
  have HT3 := hide (fun w2 (q : Q w5 w2) => sameT_any x.2.2.2.1.1 y.2.2.2.1.1 x.2.2.2.1.2 y.2.2.2.1.2 x.1.2.2.1 y.1.2.2.1 w2 (unhide HX _ q).c (unhide HY _ q).c (by have := (unhide HXZ).c.n; omega))
  generalize (⟨(sgS x.1).toArray⟩ : ByteArray) = S1 at *
  generalize (⟨(sgS y.1).toArray⟩ : ByteArray) = S2 at *
  generalize decide (x.1.1 = y.1.1) = d1 at *
  generalize decide (x.1.2.1 = y.1.2.1) = d2 at *
  generalize decide (x.1.2.2.1 = y.1.2.2.1) = d3 at *
  clear HX HY HXZ
  go_upto_region 9 with (first | (go_at_call 10; refine (num_any _ _).mono ?_; rintro e w6 ⟨rfl, rfl⟩) | (go_at_call 11; refine (unhide HSE).mono ?_; rintro e w7 ⟨rfl, q7⟩))
  have x0 := (unhide HCX) _ q7
  have y0 := (unhide HCY) _ q7
  have a0 : w6.cell? ⟨G, 0, none⟩ = some (.slice x.2.1.1 x.1.1.length x.2.1.2) := x0.cell 0 rfl
  have b0 : w6.cell? ⟨G + 1, 0, none⟩ = some (.slice y.2.1.1 y.1.1.length y.2.1.2) := y0.cell 0 rfl
  clear x0 y0
  have q57 := q7
  have HT1' := hide (unhide HT1 _ q7)
  clear HT1 n1 n2 HSE q7
  cases d1
  · have hs : (S1.toList == S2.toList) = false := HF.out
    clear HF HT2 HT3 HCX HCY
    go_wp2_with (go_at_call 13; refine (unhide HT1').mono ?_; rintro e w8 ⟨rfl, q8⟩)
    refine (sawake_any _).mono ?_
    rintro e wl ⟨rfl, ql⟩
    go_wp2_with fail
    go_ret
    exact ⟨rfl, ((qW.trans q57).trans q8).trans ql⟩
  cases d2
  · have hs : (S1.toList == S2.toList) = false := HF.out
    clear HF
    go_wp2_with (first | (go_at_call_of 13 (Value.slice x.2.1.1 x.1.1.length x.2.1.2); refine (unhide HT1').mono ?_; rintro e w8 ⟨rfl, q8⟩; have q58 := q57.trans q8; have x1 := (unhide HCX) _ q58; have y1 := (unhide HCY) _ q58; have a1 : w8.cell? ⟨G, 1, none⟩ = some (.slice x.2.2.1.1 x.1.2.1.length x.2.2.1.2) := x1.cell 1 rfl; have b1 : w8.cell? ⟨G + 1, 1, none⟩ = some (.slice y.2.2.1.1 y.1.2.1.length y.2.2.1.2) := y1.cell 1 rfl; clear x1 y1) | (go_at_call_of 13 (Value.slice x.2.2.1.1 x.1.2.1.length x.2.2.1.2); refine (unhide HT2 _ q58).mono ?_; rintro e w9 ⟨rfl, q9⟩; have q59 := q58.trans q9; have x2 := (unhide HCX) _ q59; have y2 := (unhide HCY) _ q59; have a2 : w9.cell? ⟨G, 2, none⟩ = some (.slice x.2.2.2.1.1 x.1.2.2.1.length x.2.2.2.1.2) := x2.cell 2 rfl; have b2 : w9.cell? ⟨G + 1, 2, none⟩ = some (.slice y.2.2.2.1.1 y.1.2.2.1.length y.2.2.2.1.2) := y2.cell 2 rfl; clear x2 y2) | (go_at_call 12; refine (sawake_any _).mono ?_; rintro e wl ⟨rfl, ql⟩))
    go_ret
    exact ⟨rfl, (qW.trans q59).trans ql⟩
  cases d3
  · have hs : (S1.toList == S2.toList) = false := HF.out
    clear HF
    go_wp2_with (first | (go_at_call_of 13 (Value.slice x.2.1.1 x.1.1.length x.2.1.2); refine (unhide HT1').mono ?_; rintro e w8 ⟨rfl, q8⟩; have q58 := q57.trans q8; have x1 := (unhide HCX) _ q58; have y1 := (unhide HCY) _ q58; have a1 : w8.cell? ⟨G, 1, none⟩ = some (.slice x.2.2.1.1 x.1.2.1.length x.2.2.1.2) := x1.cell 1 rfl; have b1 : w8.cell? ⟨G + 1, 1, none⟩ = some (.slice y.2.2.1.1 y.1.2.1.length y.2.2.1.2) := y1.cell 1 rfl; clear x1 y1) | (go_at_call_of 13 (Value.slice x.2.2.1.1 x.1.2.1.length x.2.2.1.2); refine (unhide HT2 _ q58).mono ?_; rintro e w9 ⟨rfl, q9⟩; have q59 := q58.trans q9; have x2 := (unhide HCX) _ q59; have y2 := (unhide HCY) _ q59; have a2 : w9.cell? ⟨G, 2, none⟩ = some (.slice x.2.2.2.1.1 x.1.2.2.1.length x.2.2.2.1.2) := x2.cell 2 rfl; have b2 : w9.cell? ⟨G + 1, 2, none⟩ = some (.slice y.2.2.2.1.1 y.1.2.2.1.length y.2.2.2.1.2) := y2.cell 2 rfl; clear x2 y2) | (go_at_call_of 13 (Value.slice x.2.2.2.1.1 x.1.2.2.1.length x.2.2.2.1.2); refine (unhide HT3 _ q59).mono ?_; rintro e wa ⟨rfl, qa⟩; have q5a := q59.trans qa; have x3 := (unhide HCX) _ q5a; have y3 := (unhide HCY) _ q5a; have a4 : wa.cell? ⟨G, 4, none⟩ = some (.string ⟨x.1.2.2.2.2.1.toArray⟩) := x3.cell 4 rfl; have b4 : wa.cell? ⟨G + 1, 4, none⟩ = some (.string ⟨y.1.2.2.2.2.1.toArray⟩) := y3.cell 4 rfl; have a5 : wa.cell? ⟨G, 5, none⟩ = some (.bool x.1.2.2.2.2.2.1) := x3.cell 5 rfl; have b5 : wa.cell? ⟨G + 1, 5, none⟩ = some (.bool y.1.2.2.2.2.2.1) := y3.cell 5 rfl; clear x3 y3) | (go_at_call 12; refine (sawake_any _).mono ?_; rintro e wl ⟨rfl, ql⟩))
    go_ret
    exact ⟨rfl, (qW.trans q5a).trans ql⟩
  cases g1 : (x.1.2.2.2.2.1 == y.1.2.2.2.2.1)
  all_goals cases g2 : (x.1.2.2.2.2.2.1 == y.1.2.2.2.2.2.1)
  all_goals
    rw [g1, g2] at HF
    have hs := HF.out
    clear HF
    go_wp2_with (first | (go_at_call_of 13 (Value.slice x.2.1.1 x.1.1.length x.2.1.2); refine (unhide HT1').mono ?_; rintro e w8 ⟨rfl, q8⟩; have q58 := q57.trans q8; have x1 := (unhide HCX) _ q58; have y1 := (unhide HCY) _ q58; have a1 : w8.cell? ⟨G, 1, none⟩ = some (.slice x.2.2.1.1 x.1.2.1.length x.2.2.1.2) := x1.cell 1 rfl; have b1 : w8.cell? ⟨G + 1, 1, none⟩ = some (.slice y.2.2.1.1 y.1.2.1.length y.2.2.1.2) := y1.cell 1 rfl; clear x1 y1) | (go_at_call_of 13 (Value.slice x.2.2.1.1 x.1.2.1.length x.2.2.1.2); refine (unhide HT2 _ q58).mono ?_; rintro e w9 ⟨rfl, q9⟩; have q59 := q58.trans q9; have x2 := (unhide HCX) _ q59; have y2 := (unhide HCY) _ q59; have a2 : w9.cell? ⟨G, 2, none⟩ = some (.slice x.2.2.2.1.1 x.1.2.2.1.length x.2.2.2.1.2) := x2.cell 2 rfl; have b2 : w9.cell? ⟨G + 1, 2, none⟩ = some (.slice y.2.2.2.1.1 y.1.2.2.1.length y.2.2.2.1.2) := y2.cell 2 rfl; clear x2 y2) | (go_at_call_of 13 (Value.slice x.2.2.2.1.1 x.1.2.2.1.length x.2.2.2.1.2); refine (unhide HT3 _ q59).mono ?_; rintro e wa ⟨rfl, qa⟩; have q5a := q59.trans qa; have x3 := (unhide HCX) _ q5a; have y3 := (unhide HCY) _ q5a; have a4 : wa.cell? ⟨G, 4, none⟩ = some (.string ⟨x.1.2.2.2.2.1.toArray⟩) := x3.cell 4 rfl; have b4 : wa.cell? ⟨G + 1, 4, none⟩ = some (.string ⟨y.1.2.2.2.2.1.toArray⟩) := y3.cell 4 rfl; have a5 : wa.cell? ⟨G, 5, none⟩ = some (.bool x.1.2.2.2.2.2.1) := x3.cell 5 rfl; have b5 : wa.cell? ⟨G + 1, 5, none⟩ = some (.bool y.1.2.2.2.2.2.1) := y3.cell 5 rfl; clear x3 y3) | (go_at_call 12; refine (sawake_any _).mono ?_; rintro e wl ⟨rfl, ql⟩))
    go_ret
    exact ⟨rfl, (qW.trans q5a).trans ql⟩

theorem Tryd.laidOut : laidOutB Tryd.prog = true := by kernel_rfl
set_option maxRecDepth 100000 in
theorem signs_lifted (os : Os) (started : os.Started) (H : Type) (enc : TypeId × Value → H) :
    ReturnsInHanded {} Tryd.checked os 3 .any (fun w args => (Rows.signsSpec.pre enc Tryd.prog Tryd.f3 [] false w args ∧ laidMetH Tryd.prog Rows.signsRow.laid w) ∧ sizedMet enc Tryd.prog Tryd.f3 (OpenSpec.ofChange Rows.signsSpec) false w args) (Rows.signsSpec.post enc Tryd.prog Tryd.f3 false true false false) := by
  refine returnsInHanded_of_change_and (C := Tryd.checked) (X := fun w _ => laidMetH Tryd.prog Rows.signsRow.laid w) (fun _ _ _ hh h => h.of_heap hh) Tryd.own started (by kernel_rfl) Tryd.func3
    (ChangeSpec.witness_shaped (enc := enc) (C := Tryd.checked) (os := os) (X := fun w _ => laidMetH Tryd.prog Rows.signsRow.laid w) false (World.laidAll Tryd.prog os Rows.signsRow.laid) #[.agg #[.slice none 0 0, .slice none 0 0, .slice none 0 0, .slice none 0 0, .string ByteArray.empty, .bool false, .string ByteArray.empty], .agg #[.slice none 0 0, .slice none 0 0, .slice none 0 0, .slice none 0 0, .string ByteArray.empty, .bool false, .string ByteArray.empty]] 8 (World.laidAll_os _ _ _)
      (World.shaped_of_ZipB (by kernel_rfl) (by kernel_rfl)) (by kernel_rfl) (by kernel_rfl) (by kernel_rfl)
      (by rw [MakeChecks.laidMetH_plain _ _ _ (by kernel_rfl)]; exact laidMet_laidAll _ (by kernel_rfl) (by kernel_rfl))) ?_
  intro W base args ds gs before hval0 hW _ hsz0 hL _
  have hval : ∀ (j : Nat) t v, Tryd.f3.params[j]? = some t → args[j]? = some v → Value.okWide Tryd.prog W .any base t v := hval0
  have hW' := hW
  obtain ⟨p, q, hA0, hV, rfl, hfz, hnd⟩ := hW
  have hA : DataW.TrodAll enc Tryd.prog W 0 (fun _ => true) true Tryd.f3.params.toList args.toList ds p := hA0
  rw [Tryd.params3] at hA hval
  rw [Tryd.params3] at hsz0
  obtain ⟨v0, vs0, d0, ds0, p0, q0, hargs, rfl, rfl, h0, r0⟩ := trodAll_cons hA
  obtain ⟨v1, vs1, d1, ds1, p1, q1, rfl, rfl, rfl, h1, r1⟩ := trodAll_cons r0
  obtain ⟨rfl, rfl, rfl⟩ := trodAll_nil r1
  obtain rfl : args = #[v0, v1] := by cases args; simp_all
  obtain ⟨rfl, rfl⟩ := trodVars_none hV
  have k0 := h0
  have lt0 : ∀ x ∈ p0, x.block < W.heap.size := by obtain ⟨m, hm⟩ := k0; exact DataW.trod_lt m _ _ _ hm
  obtain ⟨x0, rfl, w0⟩ := Tryd.is_edgeV (hval 0 24 v0 rfl rfl) h0 (fun m hm => by simpa using List.all_eq_true.1 hsz0 m (DataW.weights_mem_each (j := 0) (t := 24) rfl rfl m hm))
  have k1 := h1
  have lt1 : ∀ x ∈ p1, x.block < W.heap.size := by obtain ⟨m, hm⟩ := k1; exact DataW.trod_lt m _ _ _ hm
  obtain ⟨x1, rfl, w1⟩ := Tryd.is_edgeV (hval 1 24 v1 rfl rfl) h1 (fun m hm => by simpa using List.all_eq_true.1 hsz0 m (DataW.weights_mem_each (j := 1) (t := 24) rfl rfl m hm))
  clear hA0 hval0
  refine (signs_any W x0 w0 x1 w1).mono fun e W' ⟨he, bel⟩ => ?_
  subst he
  exact ⟨_, rfl, _, _, _, [], _, [], hW', trodAll_mk1 (shut_bool Tryd.underlying4 _), (trodAll_cons_mk (Below.trod Tryd.laidOut (by kernel_rfl) (of_decide_eq_true (by kernel_rfl)) k0 bel lt0) (trodAll_cons_mk (Below.trod Tryd.laidOut (by kernel_rfl) (of_decide_eq_true (by kernel_rfl)) k1 bel lt1) trodAll_mk0)), rfl, bel.frame _, fun h => by cases h⟩

theorem signs_holds : Rows.SignsSaid :=
  OpenClaim.holds_of_wide 3 Tryd.f3 rfl rfl rfl rfl rfl rfl rfl ⟨rfl, rfl, rfl, rfl, rfl⟩ rfl rfl rfl rfl rfl (by kernel_rfl) Tryd.func3 (by kernel_rfl)
    (of_decide_eq_true (by kernel_rfl)) (by unfold Func.isWrapper; first | (rw [if_pos (by decide +kernel)]; kernel_rfl) | (rw [if_neg (by decide +kernel)]; exact ⟨rfl, rfl⟩))
    (fun os started H enc _ => signs_lifted os started H enc)
theorem signs_card : Rows.SignsCardSaid :=
  Claim7.holds_tied_plain_at .later [] [.data, .pinned] true (true, "d4e89a7e85c36141bb06b5297fcb65e899c755e51bbc01a6754520a1fa7ca3c1") false signs_holds (fun _ h => by cases h) (by kernel_rfl) (fun _ h => by cases h) signs_row_tie rfl ⟨rfl, rfl⟩ (by kernel_rfl) rfl
    (fun f fn hf hfn => by
      obtain rfl : f = 3 := Option.some.inj ((show Tryd.prog.funcNamed Rows.signsRow.func = some 3 by kernel_rfl).symm.trans hf) |>.symm
      obtain rfl : fn = Tryd.f3 := (Option.some.inj (Tryd.func3.symm.trans hfn)).symm
      exact ⟨by kernel_rfl, fun j t ht => by
        rw [Tryd.params3] at ht
        have hm : t ∈ [24, 24] := by simpa using Array.mem_of_getElem? ht
        have hall : ([24, 24].all fun u => !Tryd.prog.wantsStandIn u) = true := by kernel_rfl
        exact (show Tryd.prog.wantsStandIn t = false by simpa using List.all_eq_true.1 hall t hm)⟩)
    (by kernel_rfl)
#print axioms signs_card

end Go.Proofs.YtbfhliocckkbmaaDoor
