/- The graphs that every statement on graphs asks of first, and what package graph answers of them; no conditions. -/
import Derived.Test.YtdcdghofkpbljaaDoorGfCheck
import Derived.Test.YtdcdghofkpbljaaDoorGfGiven
import Derived.Test.YtdcdghofkpbljaaDoorNmWalks
namespace Go.Proofs.YtdcdghofkpbljaaDoor
open Go.RowKit

abbrev gvV (n : Nat) : Value := .agg #[.slice (at0 (n + 9)) 3 3, .slice (at0 (n + 10)) 1 1, .slice (at0 (n + 11)) 1 1]
theorem gv_may (w : World) (n : Nat) (h : Gv w n (gvEc n) gvPc) : Calls Tryd.prog 10 #[gvV n] w fun e w' => e = .returned (.bool true) ∧ Q w w' := by
  have := gMay_any gvG _ _ _ _ 3 1 1 w h.gr (by decide) (by decide)
  rwa [show gmB gvG = true by kernel_rfl] at this
theorem gv_ck (w : World) (n : Nat) (h : Gv w n (gvEc n) gvPc) : Calls Tryd.prog 12 #[gvV n] w fun e w' => e = .returned (.int .i64 0) ∧ Q w w' := by
  have := gCk_any gvG _ _ _ _ 3 1 1 w h.gr (by decide) (by decide)
  rwa [show ckE gvG = 0 by kernel_rfl] at this
theorem gv_mk {a : Int} {b : Bool} (w : World) (n : Nat) (nm : ByteArray) (h : Gv w n (gvEc n) gvPc) (h1 : mkI gvG (bl nm) = a) (h2 : mkIs gvG (bl nm) = b) : Calls Tryd.prog 9 #[gvV n, .string nm] w fun e w' => e = .returned (.tuple #[.int .i64 a, .bool b, .int .i64 0]) ∧ Q w w' := by
  have := gMk_any gvG nm _ _ _ _ 3 1 1 w h.gr (by decide) (by decide)
  rwa [show ckE gvG = 0 by kernel_rfl, h1, h2] at this

/-- Any graph in memory, what all three answer of it. -/
structure Says (w : World) (v : Value) (g : Gh) : Prop where
  may : ∀ w2, Q w w2 → Calls Tryd.prog 10 #[v] w2 fun e w' => e = .returned (.bool (gmB g)) ∧ Q w2 w'
  ck : ∀ w2, Q w w2 → Calls Tryd.prog 12 #[v] w2 fun e w' => e = .returned (.int .i64 (ckE g)) ∧ Q w2 w'
  make : ∀ w2 (nm : ByteArray), Q w w2 → Calls Tryd.prog 9 #[v, .string nm] w2 fun e w' => e = .returned (.tuple #[.int .i64 (mkI g (bl nm)), .bool (mkIs g (bl nm)), .int .i64 (ckE g)]) ∧ Q w2 w'
theorem GfR.says {w : World} {g : Gh} {es : List EdA} {eo po dd : Option Addr} (h : GfR w g es eo po dd) (ec pc dc : Nat) (hc : g.2.1.length ≤ pc) (hm : pc ≤ maxLen) : Says w (.agg #[.slice eo es.length ec, .slice po g.2.1.length pc, .slice dd g.2.2.length dc]) g :=
  ⟨fun w2 q => gMay_any g es eo po dd ec pc dc w2 (h.q' q) hc hm, fun w2 q => gCk_any g es eo po dd ec pc dc w2 (h.q' q) hc hm, fun w2 nm q => gMk_any g nm es eo po dd ec pc dc w2 (h.q' q) hc hm⟩

/-- The two that are turned. -/
def gbG : Gh := ([gvD0, gvD1, ([sLib], gvD2.2)], [(sTwo, 2)], [sLib])
def gcG : Gh := ([gvD0, gvD1, (gvD2.1, gvD2.2.1, gvD2.2.2.1, gvD2.2.2.2.1, gvD2.2.2.2.2.1, gvD2.2.2.2.2.2.1, [111, 110, 101])], [(sTwo, 2)], [sLib])
def gbX (n m : Nat) : EdA := (([sLib], gvD2.2), (at0 m, 1), (at0 (n + 7), 1), (none, 0), (at0 (n + 8), 1))
def gcX (n : Nat) : EdA := ((gvD2.1, gvD2.2.1, gvD2.2.2.1, gvD2.2.2.2.1, gvD2.2.2.2.2.1, gvD2.2.2.2.2.2.1, [111, 110, 101]), (at0 (n + 6), 1), (at0 (n + 7), 1), (none, 0), (at0 (n + 8), 1))
theorem gb_says {w : World} {n m : Nat} (h : Gv w n ((gvEc n).setIfInBounds 14 (.slice (at0 m) 1 1)) gvPc) (hm : Blk w m #[.string ⟨sLib.toArray⟩] 9) : Says w (gvV n) gbG :=
  (gr_three (x0 := gvX0 n) (x1 := gvX1 n) (x2 := gbX n m) [(sTwo, 2)] h.e rfl h.p rfl h.dd h.x0 h.x1 ⟨tvR hm _ rfl, h.x2.b, Or.inl rfl, h.x2.d⟩ (ghz_of (show ghzB gbG = true by decide +kernel))).says 3 1 1 (Nat.le_refl 1) (by decide)
theorem gc_says {w : World} {n : Nat} (h : Gv w n ((gvEc n).setIfInBounds 20 (.string ⟨#[111, 110, 101]⟩)) gvPc) : Says w (gvV n) gcG :=
  (gr_three (x0 := gvX0 n) (x1 := gvX1 n) (x2 := gcX n) [(sTwo, 2)] h.e rfl h.p rfl h.dd h.x0 h.x1 ⟨h.x2.a, h.x2.b, Or.inl rfl, h.x2.d⟩ (ghz_of (show ghzB gcG = true by decide +kernel))).says 3 1 1 (Nat.le_refl 1) (by decide)

/-- The worlds behind the two stores. -/
def wBw (w : World) (n : Nat) : World := ((w.alloc (.cells #[.slice (at0 (n + 9)) 3 3, .slice (at0 (n + 10)) 1 1, .slice (at0 (n + 11)) 1 1] 27)).alloc (.cells #[.string ⟨#[108, 105, 98]⟩] 9)).setCell ⟨n + 9, 14, none⟩ (.slice (at0 (w.heap.size + 1)) 1 1)
theorem wBw_facts {w4 w : World} (q : Q w4 w) (h : Gv w w4.heap.size (gvEc w4.heap.size) gvPc) :
    Says (wBw w w4.heap.size) (gvV w4.heap.size) gbG ∧ Blk (wBw w w4.heap.size) w.heap.size #[.slice (at0 (w4.heap.size + 9)) 3 3, .slice (at0 (w4.heap.size + 10)) 1 1, .slice (at0 (w4.heap.size + 11)) 1 1] 27 ∧ Q w4 (wBw w w4.heap.size) := by
  have hh := h.hi
  have h1 := (h.q ((Q.refl w).alloc (.cells #[.slice (at0 (w4.heap.size + 9)) 3 3, .slice (at0 (w4.heap.size + 10)) 1 1, .slice (at0 (w4.heap.size + 11)) 1 1] 27))).q ((Q.refl _).alloc (.cells #[.string ⟨#[108, 105, 98]⟩] 9))
  have hb := (Blk.new w #[.slice (at0 (w4.heap.size + 9)) 3 3, .slice (at0 (w4.heap.size + 10)) 1 1, .slice (at0 (w4.heap.size + 11)) 1 1] 27).q ((Q.refl _).alloc (.cells #[.string ⟨#[108, 105, 98]⟩] 9))
  have hl := Blk.new (w.alloc (.cells #[.slice (at0 (w4.heap.size + 9)) 3 3, .slice (at0 (w4.heap.size + 10)) 1 1, .slice (at0 (w4.heap.size + 11)) 1 1] 27)) #[.string ⟨#[108, 105, 98]⟩] 9
  rw [size_alloc] at hl
  exact ⟨gb_says (m := w.heap.size + 1) (h1.setE 14 _) (hl.other (by omega) _ _), hb.other (by omega) _ _, ((q.alloc _).alloc _).setHi (by omega) _ _⟩
def wCw (w : World) (n : Nat) : World := (w.alloc (.cells #[.slice (at0 (n + 9)) 3 3, .slice (at0 (n + 10)) 1 1, .slice (at0 (n + 11)) 1 1] 27)).setCell ⟨n + 9, 20, none⟩ (.string ⟨#[111, 110, 101]⟩)
theorem wCw_facts {w4 w : World} (q : Q w4 w) (h : Gv w w4.heap.size (gvEc w4.heap.size) gvPc) :
    Says (wCw w w4.heap.size) (gvV w4.heap.size) gcG ∧ Blk (wCw w w4.heap.size) w.heap.size #[.slice (at0 (w4.heap.size + 9)) 3 3, .slice (at0 (w4.heap.size + 10)) 1 1, .slice (at0 (w4.heap.size + 11)) 1 1] 27 ∧ Q w4 (wCw w w4.heap.size) := by
  have hh := h.hi
  have h1 := h.q ((Q.refl w).alloc (.cells #[.slice (at0 (w4.heap.size + 9)) 3 3, .slice (at0 (w4.heap.size + 10)) 1 1, .slice (at0 (w4.heap.size + 11)) 1 1] 27))
  have hb := Blk.new w #[.slice (at0 (w4.heap.size + 9)) 3 3, .slice (at0 (w4.heap.size + 10)) 1 1, .slice (at0 (w4.heap.size + 11)) 1 1] 27
  exact ⟨gc_says (h1.setE 20 _), hb.other (by omega) _ _, (q.alloc _).setHi (by omega) _ _⟩

set_option maxRecDepth 20000 in
set_option maxHeartbeats 8000000 in
theorem gawake_any (w : World) :
    Calls Tryd.prog 7 #[] w fun e w' => e = .returned (.bool true) ∧ Q w w' := by
  go_enter Tryd.func7, Tryd.ntmps7
  go_wp2_with fail
  refine (given_any w).mono ?_
  rintro e w1 ⟨rfl, v1, q1⟩
  have H1 := hide (gv_mk (a := 1) (b := true) w1 _ ⟨#[97, 46, 100]⟩ v1 (by kernel_rfl) (by kernel_rfl))
  clear v1
  go_wp2_with fail
  refine (unhide H1).mono ?_
  rintro e w2 ⟨rfl, q2⟩
  have qw2 := q1.trans q2
  clear H1 q1 q2
  go_wp2_with fail
  refine (given_any w2).mono ?_
  rintro e w3 ⟨rfl, v3, q3⟩
  have H3 := hide (gv_mk (a := 0) (b := false) w3 _ ⟨#[97, 46, 99]⟩ v3 (by kernel_rfl) (by kernel_rfl))
  clear v3
  go_wp2_with fail
  refine (unhide H3).mono ?_
  rintro e w4 ⟨rfl, q4⟩
  have qw4 := qw2.trans (q3.trans q4)
  clear H3 q3 q4 qw2
  go_wp2_with fail
  refine (given_any w4).mono ?_
  rintro e w5 ⟨rfl, v5, q5⟩
  have HF5 := hide (wBw_facts q5 v5)
  have c5b : ∀ o1 o2, ((w5.alloc o1).alloc o2).frozen? ⟨w4.heap.size + 9, 14, none⟩ = false := fun o1 o2 => (v5.e.q (((Q.refl _).alloc o1).alloc o2)).frz 14
  have d5 : ∀ o1 o2, ((w5.alloc o1).alloc o2).cell? ⟨w4.heap.size + 9, 14, none⟩ = some (.slice (at0 (w4.heap.size + 6)) 1 1) := fun o1 o2 => (v5.e.q (((Q.refl _).alloc o1).alloc o2)).cell 14 rfl
  clear v5 q5
  go_wp2_with fail
  change Calls _ _ _ (wBw w5 w4.heap.size) _
  obtain ⟨sb, bb, qb⟩ := unhide HF5
  have SB := hide sb
  have BB := hide bb
  have qw6 := qw4.trans qb
  clear HF5 c5b d5 sb bb qb qw4
  generalize wBw w5 w4.heap.size = w6 at *
  generalize w5.heap.size = b5 at *
  generalize w4.heap.size = n4 at *
  refine (given_any w6).mono ?_
  rintro e w7 ⟨rfl, v7, q7⟩
  have HF7 := hide (wCw_facts q7 v7)
  have c7b : ∀ o1, (w7.alloc o1).frozen? ⟨w6.heap.size + 9, 20, none⟩ = false := fun o1 => (v7.e.q ((Q.refl _).alloc o1)).frz 20
  have d7 : ∀ o1, (w7.alloc o1).cell? ⟨w6.heap.size + 9, 20, none⟩ = some (.string ⟨sTwo.toArray⟩) := fun o1 => (v7.e.q ((Q.refl _).alloc o1)).cell 20 rfl
  clear v7 q7
  go_wp2_with fail
  change Calls _ _ _ (wCw w7 w6.heap.size) _
  obtain ⟨sc, bc, qc⟩ := unhide HF7
  have SC := hide sc
  have BC := hide bc
  have SB2 : Hid (Says (wCw w7 w6.heap.size) (gvV n4) gbG) := ⟨fun w2 q => (unhide SB).may w2 (qc.trans q), fun w2 q => (unhide SB).ck w2 (qc.trans q), fun w2 nm q => (unhide SB).make w2 nm (qc.trans q)⟩
  have BB2 := hide ((unhide BB).q qc)
  have qw8 := qw6.trans qc
  clear HF7 c7b d7 sc bc qc qw6 SB BB
  generalize wCw w7 w6.heap.size = w8 at *
  generalize w7.heap.size = b7 at *
  generalize w6.heap.size = n6 at *
  refine (num_any _ _).mono ?_
  rintro e w9 ⟨rfl, rfl⟩
  go_wp2_with fail
  refine (num_any _ _).mono ?_
  rintro e w8 ⟨rfl, rfl⟩
  go_wp2_with fail
  refine (given_any w8).mono ?_
  rintro e w9 ⟨rfl, v9, q9⟩
  have H9 := hide (gv_ck w9 _ v9)
  clear v9
  go_wp2_with fail
  refine (unhide H9).mono ?_
  rintro e w10 ⟨rfl, q10⟩
  have q810 := q9.trans q10
  clear H9 q9 q10
  go_wp2_with fail
  refine (num_any _ _).mono ?_
  rintro e w11 ⟨rfl, rfl⟩
  have b0 := ((unhide BB2).q q810).cell 0 rfl
  have b1 := ((unhide BB2).q q810).cell 1 rfl
  have b2 := ((unhide BB2).q q810).cell 2 rfl
  have H11 := hide ((unhide SB2).ck _ q810)
  rw [show ckE gbG = 901 by kernel_rfl] at H11
  go_wp2_with fail
  refine (unhide H11).mono ?_
  rintro e w12 ⟨rfl, q12⟩
  have q812 := q810.trans q12
  clear b0 b1 b2 H11 q810 q12
  go_wp2_with fail
  refine (num_any _ _).mono ?_
  rintro e w13 ⟨rfl, rfl⟩
  have b0 := ((unhide BC).q q812).cell 0 rfl
  have b1 := ((unhide BC).q q812).cell 1 rfl
  have b2 := ((unhide BC).q q812).cell 2 rfl
  have H13 := hide ((unhide SC).ck _ q812)
  rw [show ckE gcG = 900 by kernel_rfl] at H13
  go_wp2_with fail
  refine (unhide H13).mono ?_
  rintro e w14 ⟨rfl, q14⟩
  have q814 := q812.trans q14
  clear b0 b1 b2 H13 q812 q14
  go_wp2_with fail
  refine (num_any _ _).mono ?_
  rintro e w15 ⟨rfl, rfl⟩
  have b0 := ((unhide BB2).q q814).cell 0 rfl
  have b1 := ((unhide BB2).q q814).cell 1 rfl
  have b2 := ((unhide BB2).q q814).cell 2 rfl
  have H15 := hide ((unhide SB2).may _ q814)
  rw [show gmB gbG = true by kernel_rfl] at H15
  go_wp2_with fail
  refine (unhide H15).mono ?_
  rintro e w16 ⟨rfl, q16⟩
  have q816 := q814.trans q16
  clear b0 b1 b2 H15 q814 q16
  have b0 := ((unhide BC).q q816).cell 0 rfl
  have b1 := ((unhide BC).q q816).cell 1 rfl
  have b2 := ((unhide BC).q q816).cell 2 rfl
  have H16 := hide ((unhide SC).may _ q816)
  rw [show gmB gcG = false by kernel_rfl] at H16
  go_wp2_with fail
  refine (unhide H16).mono ?_
  rintro e w17 ⟨rfl, q17⟩
  go_wp2_with fail
  go_ret
  exact ⟨rfl, qw8.trans (q816.trans q17)⟩

end Go.Proofs.YtdcdghofkpbljaaDoor
