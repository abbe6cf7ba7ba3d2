/- The statement on a line that is told again holds for all texts: what is told of it, joined by blanks and its signs, is told again; no conditions but the text's length. -/
import Derived.Test.YtloeileblkleoaaDoorRows
import Derived.Test.YtloeileblkleoaaDoorCards
import Derived.Test.YtloeileblkleoaaDoorTie
import Derived.LaidMore
import Derived.Lay
import Derived.SevenTiedAt
import Derived.Stop.Joined
import Derived.ProofKit
import Derived.OpenShut
import Derived.ShutString
import Derived.ChangeOld
import Derived.Below
import Derived.SizedLaws
import Derived.Test.YtloeileblkleoaaDoorWdMore
import Derived.Test.YtloeileblkleoaaDoorWdAwake
namespace Go.Proofs.YtloeileblkleoaaDoor
open Go.ChangeShapes Go.WideShapes Go.ChangeAt Go.RowKit
open Go.ChangeMaps (open_string shut_string)

theorem rowS_of {w : World} {ao : Option Addr} {ps : Ws} (h : RowT w ao ps) : RowS w ao (ps.map fun p => ⟨p.toArray⟩) := by
  rcases h with rfl | ⟨g, o, rfl, hg, hc⟩
  · exact Or.inl rfl
  · refine Or.inr ⟨g, o, rfl, hg, fun j x hx => ?_⟩
    rw [List.getElem?_map] at hx
    cases hp : ps[j]? with
    | none => rw [hp] at hx; cases hx
    | some p =>
      rw [hp] at hx
      cases hx
      simpa using hc j 0 p _ hp (by decide) rfl

theorem map_mk (ps : Ws) : (ps.map fun p => (⟨p.toArray⟩ : ByteArray)).map bl = ps := by
  rw [List.map_map]
  conv => rhs; rw [← List.map_id ps]
  rfl

theorem joinT_any (ao : Option Addr) (cap : Nat) (ps : Ws) (w : World) (hr : RowT w ao ps) (hn : ps.length ≤ 8) (ha : AllN ps) :
    Calls Tryd.prog 14 #[.slice ao ps.length cap, .string ⟨#[32]⟩] w fun e w' => ∃ t : ByteArray, e = .returned (.string t) ∧ bl t = Lib.join ps [32] ∧ t.size ≤ 136 ∧ w' = w := by
  have hj := join_le ha
  have := rjoin_any ao cap (ps.map fun p => ⟨p.toArray⟩) ⟨#[32]⟩ w (rowS_of hr) (by rw [List.length_map]; omega) (by decide) (by rw [map_mk]; show (Lib.join ps [32]).length ≤ _; omega)
  rw [List.length_map, map_mk] at this
  refine this.mono ?_
  rintro e w' ⟨t, rfl, h1, rfl⟩
  refine ⟨t, rfl, h1, ?_, rfl⟩
  rw [← bl_size, h1]; show (Lib.join ps [32]).length ≤ _; omega

theorem build_rv {a b c d : Ws} {rv : ByteArray} (s : ByteArray) (w : World) (hs : s.size ≤ 1152921504606846976) (h : bdR (bl s) = some (a, bl rv, b, c, d)) :
    Calls Tryd.prog 7 #[.string s] w fun e w' => ∃ (ao bo co eo : Option Addr) (ac bc cc ec : Nat),
      e = .returned (.tuple #[.slice ao a.length ac, .string rv, .slice bo b.length bc, .slice co c.length cc, .slice eo d.length ec, .int .i64 0]) ∧ Four.Rows w' (a, bl rv, b, c, d) ao bo co eo ∧ Q w w' := by
  refine (build_some s w hs h).mono ?_
  rintro e w' ⟨ao, bo, co, eo, ac, bc, cc, ec, k1, k2, k3, h1, h2, h3⟩
  rw [mk_bl] at h1
  exact ⟨ao, bo, co, eo, ac, bc, cc, ec, h1, h2.rows, h3⟩

/-- The line told again. -/
theorem again_bd {a b c d : Ws} {rv : ByteArray} (h : a ≠ [] ∧ AllN a ∧ okN (bl rv) = true ∧ AllN b ∧ AllN c ∧ AllN d ∧ a.length ≤ 8 ∧ b.length ≤ 8 ∧ c.length ≤ 8 ∧ d.length ≤ 8) {t : ByteArray}
    (ht : wdL (bl t) = a ++ [58] :: bl rv :: (b ++ (pt [124] c ++ pt [124, 124] d))) : bdR (bl t) = some (a, bl rv, b, c, d) := by
  obtain ⟨h0, ha, hr, hb, hc, hd, l1, l2, l3, l4⟩ := h
  unfold bdR
  rw [ht]
  have := bd_ln ha hr hb hc hd
  rw [if_pos ⟨h0, l1, l2, l3, l4⟩] at this
  exact this

theorem wd_add1 (v : ByteArray) {t : ByteArray} {c : Ws} (ht : bl t = Lib.join c [32]) (hc : AllN c) : wdL (bl (v ++ ⟨#[32, 124, 32]⟩ ++ t)) = wdL (bl v) ++ [124] :: c := by
  rw [bl_app, bl_app, ht, ← wd_part (x := [124]) (by decide) (by decide) hc]
  rw [show bl ⟨#[32, 124, 32]⟩ = [32, 124, 32] from rfl]; simp
theorem wd_add2 (v : ByteArray) {t : ByteArray} {c : Ws} (ht : bl t = Lib.join c [32]) (hc : AllN c) : wdL (bl (v ++ ⟨#[32, 124, 124, 32]⟩ ++ t)) = wdL (bl v) ++ [124, 124] :: c := by
  rw [bl_app, bl_app, ht, ← wd_part (x := [124, 124]) (by decide) (by decide) hc]
  rw [show bl ⟨#[32, 124, 124, 32]⟩ = [32, 124, 124, 32] from rfl]; simp

set_option maxRecDepth 20000 in
set_option maxHeartbeats 8000000 in
theorem wordAgain_any (s : ByteArray) (hs : s.size ≤ reachBytes) (w : World) :
    Calls Tryd.prog 6 #[.string s] w fun e w' => e = .returned (.bool true) ∧ Q w w' := by
  unfold reachBytes at hs
  cases hb : bdR (bl s) with
  | none =>
    have HB := hide hb
    clear hb
    go_enter Tryd.func6, Tryd.ntmps6
    go_wp2_with fail
    refine (wdawake_any _).mono ?_
    rintro e w1 ⟨rfl, q1⟩
    go_wp2_with fail
    refine (build_none s _ (by omega) (unhide HB)).mono ?_
    rintro e w2 ⟨a2, b2, c2, e2, i1, i2, i3, i4, rfl, q2⟩
    have q12 := q1.trans q2
    clear q1 q2
    go_wp2_with (go_at_call 10; refine (num_any _ _).mono ?_; rintro e w' ⟨rfl, rfl⟩)
    go_ret
    exact ⟨rfl, q12⟩
  | some x =>
    obtain ⟨a, r, b, c, d⟩ := x
    have hx := bd_some (ws := wdL (bl s)) hb
    obtain ⟨rv, rfl⟩ : ∃ rv : ByteArray, r = bl rv := ⟨⟨r.toArray⟩, rfl⟩
    have HX := hide hx
    obtain ⟨h0, ha, hr, hbb, hc, hd, l1, l2, l3, l4⟩ := hx
    have hrz : rv.size ≤ 16 := by rw [← bl_size]; exact (okN_len hr).2.1
    have HA := hide ha
    have HBB := hide hbb
    have HC := hide hc
    have HD := hide hd
    have HR := hide hr
    have HB := hide hb
    have hal : (0 : Int) < (a.length : Int) := by cases a with
      | nil => exact absurd rfl h0
      | cons x y => simp only [List.length_cons]; omega
    have hal' : 0 < a.length := by omega
    clear hb ha hbb hc hd hr h0
    go_enter Tryd.func6, Tryd.ntmps6
    go_wp2_with fail
    refine (wdawake_any _).mono ?_
    rintro e w1 ⟨rfl, q1⟩
    go_wp2_with fail
    refine (build_rv s _ (by omega) (unhide HB)).mono ?_
    rintro e w2 ⟨ao, bo, co, eo, ac, bc, cc, ec, rfl, f2, q2⟩
    have q12 := q1.trans q2
    have F2 := hide f2
    clear q1 q2 f2 HB
    go_wp2_with fail
    refine (num_any _ _).mono ?_
    rintro e w3 ⟨rfl, rfl⟩
    go_wp2_with fail
    refine (joinT_any ao ac a _ (unhide F2).a l1 (unhide HA)).mono ?_
    rintro e w4 ⟨t1, rfl, b1, z1, rfl⟩
    have T1 := hide b1
    clear b1
    go_wp2_with fail
    refine (joinT_any bo bc b _ (unhide F2).b l2 (unhide HBB)).mono ?_
    rintro e w5 ⟨t2, rfl, b2, z2, rfl⟩
    have T2 := hide b2
    clear b2
    have HW : Hid (wdL (bl (t1 ++ ⟨#[32, 58, 32]⟩ ++ rv ++ ⟨#[32]⟩ ++ t2)) = a ++ [58] :: bl rv :: b) := by
      show _ = _
      rw [bl_app, bl_app, bl_app, bl_app, unhide T1, unhide T2]
      exact wd_head (unhide HA) (unhide HR) (unhide HBB)
    by_cases hc0 : c = []
    · subst hc0
      by_cases hd0 : d = []
      · subst hd0
        have HT : Hid (bdR (bl (t1 ++ ⟨#[32, 58, 32]⟩ ++ rv ++ ⟨#[32]⟩ ++ t2)) = some (a, bl rv, b, [], [])) := again_bd (unhide HX) (by rw [HW.out]; simp [pt])
        clear HW T1 T2 HX HA HBB HC HD HR
        go_wp2_with fail
        refine (build_rv _ _ (by have y1 : (⟨#[32, 58, 32]⟩ : ByteArray).size = 3 := rfl; have y2 : (⟨#[32]⟩ : ByteArray).size = 1 := rfl; have y3 : (⟨#[32, 124, 32]⟩ : ByteArray).size = 3 := rfl; have y4 : (⟨#[32, 124, 124, 32]⟩ : ByteArray).size = 4 := rfl; simp only [ByteArray.size_append]; omega) (unhide HT)).mono ?_
        rintro e w8 ⟨fo, go, ho, io, fc, gc, hc, ic, rfl, f8, q8⟩
        have q18 := q12.trans q8
        have F8 := hide f8
        have F9 := hide ((unhide F2).q q8)
        clear q8 f8 HT F2 q12
        go_wp2_with fail
        refine (num_any _ _).mono ?_
        rintro e w9 ⟨rfl, rfl⟩
        go_wp2_with fail
        refine (sameT_any ao fo ac fc a a _ ((unhide F9).a) ((unhide F8).a) (by first | omega | (show 0 ≤ _; omega))).mono ?_
        rintro e wa0 ⟨rfl, q9⟩
        rw [decide_eq_true rfl]
        have qs0 := q9
        clear q9
        go_wp2_with fail
        refine (sameT_any bo go bc gc b b _ ((unhide F9).b.q qs0) ((unhide F8).b.q qs0) (by first | omega | (show 0 ≤ _; omega))).mono ?_
        rintro e wa1 ⟨rfl, q9⟩
        rw [decide_eq_true rfl]
        have qs1 := qs0.trans q9
        clear qs0
        clear q9
        go_wp2_with fail
        refine (sameT_any co ho cc hc [] [] _ ((unhide F9).c.q qs1) ((unhide F8).c.q qs1) (by first | omega | (show 0 ≤ _; omega))).mono ?_
        rintro e wa2 ⟨rfl, q9⟩
        rw [decide_eq_true rfl]
        have qs2 := qs1.trans q9
        clear qs1
        clear q9
        go_wp2_with fail
        refine (sameT_any eo io ec ic [] [] _ ((unhide F9).d.q qs2) ((unhide F8).d.q qs2) (by first | omega | (show 0 ≤ _; omega))).mono ?_
        rintro e wa3 ⟨rfl, q9⟩
        rw [decide_eq_true rfl]
        have qs3 := qs2.trans q9
        clear qs2
        clear q9
        go_wp2_with fail
        go_ret
        exact ⟨rfl, q18.trans qs3⟩
      · have HP : Hid (pt [124, 124] d = [124, 124] :: d) := by show _ = _; unfold pt; rw [if_neg hd0]
        have hdl : (0 : Int) < (d.length : Int) := by cases d with
          | nil => exact absurd rfl hd0
          | cons x y => simp only [List.length_cons]; omega
        have hdl' : 0 < d.length := by omega
        clear hd0
        go_wp2_with fail
        refine (joinT_any eo ec d _ (unhide F2).d l4 (unhide HD)).mono ?_
        rintro e w6 ⟨t4, rfl, b4, z4, rfl⟩
        have HT : Hid (bdR (bl (t1 ++ ⟨#[32, 58, 32]⟩ ++ rv ++ ⟨#[32]⟩ ++ t2 ++ ⟨#[32, 124, 124, 32]⟩ ++ t4)) = some (a, bl rv, b, [], d)) := again_bd (unhide HX) (by rw [wd_add2 _ b4 (unhide HD), HW.out, HP.out]; simp [pt])
        clear HW T1 T2 HX HA HBB HC HD HR HP b4
        go_wp2_with fail
        refine (build_rv _ _ (by have y1 : (⟨#[32, 58, 32]⟩ : ByteArray).size = 3 := rfl; have y2 : (⟨#[32]⟩ : ByteArray).size = 1 := rfl; have y3 : (⟨#[32, 124, 32]⟩ : ByteArray).size = 3 := rfl; have y4 : (⟨#[32, 124, 124, 32]⟩ : ByteArray).size = 4 := rfl; simp only [ByteArray.size_append]; omega) (unhide HT)).mono ?_
        rintro e w8 ⟨fo, go, ho, io, fc, gc, hc, ic, rfl, f8, q8⟩
        have q18 := q12.trans q8
        have F8 := hide f8
        have F9 := hide ((unhide F2).q q8)
        clear q8 f8 HT F2 q12
        go_wp2_with fail
        refine (num_any _ _).mono ?_
        rintro e w9 ⟨rfl, rfl⟩
        go_wp2_with fail
        refine (sameT_any ao fo ac fc a a _ ((unhide F9).a) ((unhide F8).a) (by first | omega | (show 0 ≤ _; omega))).mono ?_
        rintro e wa0 ⟨rfl, q9⟩
        rw [decide_eq_true rfl]
        have qs0 := q9
        clear q9
        go_wp2_with fail
        refine (sameT_any bo go bc gc b b _ ((unhide F9).b.q qs0) ((unhide F8).b.q qs0) (by first | omega | (show 0 ≤ _; omega))).mono ?_
        rintro e wa1 ⟨rfl, q9⟩
        rw [decide_eq_true rfl]
        have qs1 := qs0.trans q9
        clear qs0
        clear q9
        go_wp2_with fail
        refine (sameT_any co ho cc hc [] [] _ ((unhide F9).c.q qs1) ((unhide F8).c.q qs1) (by first | omega | (show 0 ≤ _; omega))).mono ?_
        rintro e wa2 ⟨rfl, q9⟩
        rw [decide_eq_true rfl]
        have qs2 := qs1.trans q9
        clear qs1
        clear q9
        go_wp2_with fail
        refine (sameT_any eo io ec ic d d _ ((unhide F9).d.q qs2) ((unhide F8).d.q qs2) (by first | omega | (show 0 ≤ _; omega))).mono ?_
        rintro e wa3 ⟨rfl, q9⟩
        rw [decide_eq_true rfl]
        have qs3 := qs2.trans q9
        clear qs2
        clear q9
        go_wp2_with fail
        go_ret
        exact ⟨rfl, q18.trans qs3⟩
    · have HPC : Hid (pt [124] c = [124] :: c) := by show _ = _; unfold pt; rw [if_neg hc0]
      have hcl : (0 : Int) < (c.length : Int) := by cases c with
        | nil => exact absurd rfl hc0
        | cons x y => simp only [List.length_cons]; omega
      have hcl' : 0 < c.length := by omega
      clear hc0
      go_wp2_with fail
      refine (joinT_any co cc c _ (unhide F2).c l3 (unhide HC)).mono ?_
      rintro e w6 ⟨t3, rfl, b3, z3, rfl⟩
      have T3 := hide b3
      clear b3
      by_cases hd0 : d = []
      · subst hd0
        have HT : Hid (bdR (bl (t1 ++ ⟨#[32, 58, 32]⟩ ++ rv ++ ⟨#[32]⟩ ++ t2 ++ ⟨#[32, 124, 32]⟩ ++ t3)) = some (a, bl rv, b, c, [])) := again_bd (unhide HX) (by rw [wd_add1 _ (unhide T3) (unhide HC), HW.out, HPC.out]; simp [pt])
        clear HW T1 T2 T3 HX HA HBB HC HD HR HPC
        go_wp2_with fail
        refine (build_rv _ _ (by have y1 : (⟨#[32, 58, 32]⟩ : ByteArray).size = 3 := rfl; have y2 : (⟨#[32]⟩ : ByteArray).size = 1 := rfl; have y3 : (⟨#[32, 124, 32]⟩ : ByteArray).size = 3 := rfl; have y4 : (⟨#[32, 124, 124, 32]⟩ : ByteArray).size = 4 := rfl; simp only [ByteArray.size_append]; omega) (unhide HT)).mono ?_
        rintro e w8 ⟨fo, go, ho, io, fc, gc, hc, ic, rfl, f8, q8⟩
        have q18 := q12.trans q8
        have F8 := hide f8
        have F9 := hide ((unhide F2).q q8)
        clear q8 f8 HT F2 q12
        go_wp2_with fail
        refine (num_any _ _).mono ?_
        rintro e w9 ⟨rfl, rfl⟩
        go_wp2_with fail
        refine (sameT_any ao fo ac fc a a _ ((unhide F9).a) ((unhide F8).a) (by first | omega | (show 0 ≤ _; omega))).mono ?_
        rintro e wa0 ⟨rfl, q9⟩
        rw [decide_eq_true rfl]
        have qs0 := q9
        clear q9
        go_wp2_with fail
        refine (sameT_any bo go bc gc b b _ ((unhide F9).b.q qs0) ((unhide F8).b.q qs0) (by first | omega | (show 0 ≤ _; omega))).mono ?_
        rintro e wa1 ⟨rfl, q9⟩
        rw [decide_eq_true rfl]
        have qs1 := qs0.trans q9
        clear qs0
        clear q9
        go_wp2_with fail
        refine (sameT_any co ho cc hc c c _ ((unhide F9).c.q qs1) ((unhide F8).c.q qs1) (by first | omega | (show 0 ≤ _; omega))).mono ?_
        rintro e wa2 ⟨rfl, q9⟩
        rw [decide_eq_true rfl]
        have qs2 := qs1.trans q9
        clear qs1
        clear q9
        go_wp2_with fail
        refine (sameT_any eo io ec ic [] [] _ ((unhide F9).d.q qs2) ((unhide F8).d.q qs2) (by first | omega | (show 0 ≤ _; omega))).mono ?_
        rintro e wa3 ⟨rfl, q9⟩
        rw [decide_eq_true rfl]
        have qs3 := qs2.trans q9
        clear qs2
        clear q9
        go_wp2_with fail
        go_ret
        exact ⟨rfl, q18.trans qs3⟩
      · have HP : Hid (pt [124, 124] d = [124, 124] :: d) := by show _ = _; unfold pt; rw [if_neg hd0]
        have hdl : (0 : Int) < (d.length : Int) := by cases d with
          | nil => exact absurd rfl hd0
          | cons x y => simp only [List.length_cons]; omega
        have hdl' : 0 < d.length := by omega
        clear hd0
        go_wp2_with fail
        refine (joinT_any eo ec d _ (unhide F2).d l4 (unhide HD)).mono ?_
        rintro e w7 ⟨t4, rfl, b4, z4, rfl⟩
        have HT : Hid (bdR (bl (t1 ++ ⟨#[32, 58, 32]⟩ ++ rv ++ ⟨#[32]⟩ ++ t2 ++ ⟨#[32, 124, 32]⟩ ++ t3 ++ ⟨#[32, 124, 124, 32]⟩ ++ t4)) = some (a, bl rv, b, c, d)) := again_bd (unhide HX) (by rw [wd_add2 _ b4 (unhide HD), wd_add1 _ (unhide T3) (unhide HC), HW.out, HPC.out, HP.out]; simp)
        clear HW T1 T2 T3 HX HA HBB HC HD HR HP HPC b4
        go_wp2_with fail
        refine (build_rv _ _ (by have y1 : (⟨#[32, 58, 32]⟩ : ByteArray).size = 3 := rfl; have y2 : (⟨#[32]⟩ : ByteArray).size = 1 := rfl; have y3 : (⟨#[32, 124, 32]⟩ : ByteArray).size = 3 := rfl; have y4 : (⟨#[32, 124, 124, 32]⟩ : ByteArray).size = 4 := rfl; simp only [ByteArray.size_append]; omega) (unhide HT)).mono ?_
        rintro e w8 ⟨fo, go, ho, io, fc, gc, hc, ic, rfl, f8, q8⟩
        have q18 := q12.trans q8
        have F8 := hide f8
        have F9 := hide ((unhide F2).q q8)
        clear q8 f8 HT F2 q12
        go_wp2_with fail
        refine (num_any _ _).mono ?_
        rintro e w9 ⟨rfl, rfl⟩
        go_wp2_with fail
        refine (sameT_any ao fo ac fc a a _ ((unhide F9).a) ((unhide F8).a) (by first | omega | (show 0 ≤ _; omega))).mono ?_
        rintro e wa0 ⟨rfl, q9⟩
        rw [decide_eq_true rfl]
        have qs0 := q9
        clear q9
        go_wp2_with fail
        refine (sameT_any bo go bc gc b b _ ((unhide F9).b.q qs0) ((unhide F8).b.q qs0) (by first | omega | (show 0 ≤ _; omega))).mono ?_
        rintro e wa1 ⟨rfl, q9⟩
        rw [decide_eq_true rfl]
        have qs1 := qs0.trans q9
        clear qs0
        clear q9
        go_wp2_with fail
        refine (sameT_any co ho cc hc c c _ ((unhide F9).c.q qs1) ((unhide F8).c.q qs1) (by first | omega | (show 0 ≤ _; omega))).mono ?_
        rintro e wa2 ⟨rfl, q9⟩
        rw [decide_eq_true rfl]
        have qs2 := qs1.trans q9
        clear qs1
        clear q9
        go_wp2_with fail
        refine (sameT_any eo io ec ic d d _ ((unhide F9).d.q qs2) ((unhide F8).d.q qs2) (by first | omega | (show 0 ≤ _; omega))).mono ?_
        rintro e wa3 ⟨rfl, q9⟩
        rw [decide_eq_true rfl]
        have qs3 := qs2.trans q9
        clear qs2
        clear q9
        go_wp2_with fail
        go_ret
        exact ⟨rfl, q18.trans qs3⟩

set_option maxRecDepth 100000 in
theorem wordAgain_lifted (os : Os) (started : os.Started) (H : Type) (enc : TypeId × Value → H) :
    ReturnsInHanded {} Tryd.checked os 6 .any (fun w args => (Rows.wordAgainSpec.pre enc Tryd.prog Tryd.f6 [] false w args ∧ laidMetH Tryd.prog Rows.wordAgainRow.laid w) ∧ sizedMet enc Tryd.prog Tryd.f6 (OpenSpec.ofChange Rows.wordAgainSpec) false w args) (Rows.wordAgainSpec.post enc Tryd.prog Tryd.f6 false true false false) := by
  refine returnsInHanded_of_change_and (C := Tryd.checked) (X := fun w _ => laidMetH Tryd.prog Rows.wordAgainRow.laid w) (fun _ _ _ hh h => h.of_heap hh) Tryd.own started (by kernel_rfl) Tryd.func6
    (ChangeSpec.witness_shaped (enc := enc) (C := Tryd.checked) (os := os) (X := fun w _ => laidMetH Tryd.prog Rows.wordAgainRow.laid w) false (World.laidAll Tryd.prog os Rows.wordAgainRow.laid) #[.string ByteArray.empty] 8 (World.laidAll_os _ _ _)
      (World.shaped_of_ZipB (by kernel_rfl) (by kernel_rfl)) (by kernel_rfl) (by kernel_rfl) (by kernel_rfl)
      (by rw [MakeChecks.laidMetH_plain _ _ _ (by kernel_rfl)]; exact laidMet_laidAll _ (by kernel_rfl) (by kernel_rfl))) ?_
  intro W base args ds gs before hval0 hW _ hsz0 hL _
  have hval : ∀ (j : Nat) t v, Tryd.f6.params[j]? = some t → args[j]? = some v → Value.okWide Tryd.prog W .any base t v := hval0
  have hW' := hW
  obtain ⟨p, q, hA0, hV, rfl, hfz, hnd⟩ := hW
  have hA : DataW.TrodAll enc Tryd.prog W 0 (fun _ => true) true Tryd.f6.params.toList args.toList ds p := hA0
  rw [Tryd.params6] at hA hval
  rw [Tryd.params6] at hsz0
  obtain ⟨v0, vs0, d0, ds0, p0, q0, hargs, rfl, rfl, h0, r0⟩ := trodAll_cons hA
  obtain ⟨rfl, rfl, rfl⟩ := trodAll_nil r0
  obtain rfl : args = #[v0] := by cases args; simp_all
  obtain ⟨rfl, rfl⟩ := trodVars_none hV
  obtain ⟨a0, rfl, rfl, rfl, w0⟩ := open_string Tryd.underlying9 (hval 0 9 v0 rfl rfl) h0
  have y0 : a0.size ≤ reachBytes := by have h := sized_string hsz0 (j := 0) (t := 9) rfl rfl; first | exact Nat.le_trans (Nat.le_of_eq (bl_size _).symm) h | (rw [bl_toList, bl_size] at h; exact h)
  clear hA0 hval0
  simp only [List.append_nil] at hW'
  refine (wordAgain_any a0 y0 W).mono fun e W' ⟨he, bel⟩ => ?_
  subst he
  exact ⟨_, rfl, _, _, _, [], [], [], hW', trodAll_mk1 (shut_bool Tryd.underlying4 _), (trodAll_cons_mk (shut_string Tryd.underlying9 w0) trodAll_mk0), rfl, bel.frame _, fun h => by cases h⟩

theorem wordAgain_holds : Rows.WordAgainSaid :=
  OpenClaim.holds_of_wide 6 Tryd.f6 rfl rfl rfl rfl rfl rfl rfl ⟨rfl, rfl, rfl, rfl, rfl⟩ rfl rfl rfl rfl rfl (by kernel_rfl) Tryd.func6 (by kernel_rfl)
    (of_decide_eq_true (by kernel_rfl)) (by unfold Func.isWrapper; first | (rw [if_pos (by decide +kernel)]; kernel_rfl) | (rw [if_neg (by decide +kernel)]; exact ⟨rfl, rfl⟩))
    (fun os started H enc _ => wordAgain_lifted os started H enc)
theorem wordAgain_card : Rows.WordAgainCardSaid :=
  Claim7.holds_tied_plain_at .later [] [.data, .pinned] true (true, "364b3ae959f39fea2705ab4646565d6463e6a647b69f35b583f33bfac7c16e15") false wordAgain_holds (fun _ h => by cases h) (by kernel_rfl) (fun _ h => by cases h) wordAgain_row_tie rfl ⟨rfl, rfl⟩ (by kernel_rfl) rfl
    (fun f fn hf hfn => by
      obtain rfl : f = 6 := Option.some.inj ((show Tryd.prog.funcNamed Rows.wordAgainRow.func = some 6 by kernel_rfl).symm.trans hf) |>.symm
      obtain rfl : fn = Tryd.f6 := (Option.some.inj (Tryd.func6.symm.trans hfn)).symm
      exact ⟨by kernel_rfl, fun j t ht => by
        rw [Tryd.params6] at ht
        have hm : t ∈ [9] := by simpa using Array.mem_of_getElem? ht
        have hall : ([9].all fun u => !Tryd.prog.wantsStandIn u) = true := by kernel_rfl
        exact (show Tryd.prog.wantsStandIn t = false by simpa using List.all_eq_true.1 hall t hm)⟩)
    (by kernel_rfl)
#print axioms wordAgain_card
end Go.Proofs.YtloeileblkleoaaDoor
