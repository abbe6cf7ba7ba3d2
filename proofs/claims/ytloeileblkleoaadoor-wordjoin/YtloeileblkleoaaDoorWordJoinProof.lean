/- The statement on parts that are put together holds for all rows of texts and all numbers of blanks; no conditions. -/
import Derived.Test.YtloeileblkleoaaDoorRows
import Derived.Test.YtloeileblkleoaaDoorCards
import Derived.Test.YtloeileblkleoaaDoorTie
import Derived.LaidMore
import Derived.Lay
import Derived.SevenTiedAt
import Derived.Stop.Joined
import Derived.ProofKit
import Derived.OpenShut
import Derived.ShutString
import Derived.ChangeOld
import Derived.Below
import Derived.SizedLaws
import Derived.Test.YtloeileblkleoaaDoorBitPlain
import Derived.Test.YtloeileblkleoaaDoorWdMore
import Derived.Test.YtloeileblkleoaaDoorWdAwake
import Derived.Test.YtloeileblkleoaaDoorWdOpen
namespace Go.Proofs.YtloeileblkleoaaDoor
open Go.ChangeShapes Go.WideShapes Go.ChangeAt Go.RowKit

theorem gap_is (d : Nat) (h : d < 4) : bl ((⟨#[32, 32, 32, 32, 32]⟩ : ByteArray).extract 0 (1 + d)) = List.replicate (1 + d) 32 := by
  match d, h with
  | 0, _ | 1, _ | 2, _ | 3, _ => rfl

/-- Whether the rows so far may be; what has been told of them; the words so far. -/
def okW (z0 z1 z2 z3 : Ws) (k : Nat) : Bool := decide (0 < z0.length) && (decide (k < 1) || decide (z0.length ≤ 8)) && (decide (k < 2) || decide (z1.length ≤ 8)) && (decide (k < 3) || decide (z2.length ≤ 8)) && (decide (k < 4) || decide (z3.length ≤ 8))
def anW (z0 z1 z2 z3 : Ws) (k : Nat) : Prop := (1 ≤ k → AllN z0) ∧ (2 ≤ k → AllN z1) ∧ (3 ≤ k → AllN z2) ∧ (4 ≤ k → AllN z3)
def hdW (p : Ws) (x : List UInt8) (z : Ws) : Ws := (if z = [] then p else p ++ [x]) ++ z
def preW (z0 z1 z2 z3 : Ws) : Nat → Ws
  | 0 => []
  | 1 => [] ++ z0
  | 2 => ([] ++ z0) ++ [[58]] ++ [[99, 99]] ++ z1
  | 3 => hdW (([] ++ z0) ++ [[58]] ++ [[99, 99]] ++ z1) [124] z2
  | _ => hdW (hdW (([] ++ z0) ++ [[58]] ++ [[99, 99]] ++ z1) [124] z2) [124, 124] z3

theorem hdW_pt (p : Ws) (x : List UInt8) (z : Ws) : hdW p x z = p ++ pt x z := by
  unfold hdW pt; split
  · next e => rw [e]
  · simp
theorem preW_end (z0 z1 z2 z3 : Ws) : preW z0 z1 z2 z3 4 = lnW z0 [99, 99] z1 z2 z3 := by
  show hdW (hdW _ _ _) _ _ = _
  rw [hdW_pt, hdW_pt]; unfold lnW; simp

theorem ok_next0 (z0 z1 z2 z3 : Ws) : okW z0 z1 z2 z3 1 = (okW z0 z1 z2 z3 0 && decide (z0.length ≤ 8)) := by unfold okW; simp
theorem ok_next1 (z0 z1 z2 z3 : Ws) : okW z0 z1 z2 z3 2 = (okW z0 z1 z2 z3 1 && decide (z1.length ≤ 8)) := by unfold okW; simp
theorem ok_next2 (z0 z1 z2 z3 : Ws) : okW z0 z1 z2 z3 3 = (okW z0 z1 z2 z3 2 && decide (z2.length ≤ 8)) := by unfold okW; simp
theorem ok_next3 (z0 z1 z2 z3 : Ws) : okW z0 z1 z2 z3 4 = (okW z0 z1 z2 z3 3 && decide (z3.length ≤ 8)) := by unfold okW; simp
theorem ok_last (z0 z1 z2 z3 : Ws) : (okW z0 z1 z2 z3 4 = true) ↔ (z0 ≠ [] ∧ z0.length ≤ 8 ∧ z1.length ≤ 8 ∧ z2.length ≤ 8 ∧ z3.length ≤ 8) := by
  unfold okW
  simp [List.length_pos_iff, and_assoc]

theorem le8 (n : Nat) : decide ((n : Int) ≤ 8) = decide (n ≤ 8) := by
  by_cases h : n ≤ 8
  · rw [decide_eq_true h, decide_eq_true (by omega)]
  · rw [decide_eq_false h, decide_eq_false (by omega)]

theorem Gp.add {u gp x : ByteArray} {ws : Ws} {m : Nat} (h : Gp (bl u) ws) (hg : bl gp = List.replicate m 32) (hm : 1 ≤ m) {y : List UInt8} (hy : bl x = y) (hx : 32 ∉ y) (hx0 : y ≠ []) : Gp (bl (u ++ x ++ gp)) (ws ++ [y]) := by
  rw [bl_app, bl_app, hg, hy]; exact h.next hm hx hx0

theorem an_take {z : Ws} {m : Nat} {x : List UInt8} (h : AllN (z.take m)) (hx : z[m]? = some x) (ho : okN x = true) : AllN (z.take (m + 1)) := by
  rw [List.take_add_one, hx]
  intro y hy
  rcases List.mem_append.1 hy with h1 | h1
  · exact h y h1
  · simp at h1; rw [h1]; exact ho
theorem take_more {z p : Ws} {m : Nat} {x : List UInt8} (hx : z[m]? = some x) : p ++ z.take (m + 1) = (p ++ z.take m) ++ [x] := by
  rw [List.take_add_one, hx]; simp

set_option maxRecDepth 20000 in
set_option maxHeartbeats 8000000 in
theorem wordJoin_any (w : World) (a0 : Option Addr) (n0 c0 : Nat) (z0 : Ws) (r0 : IsRowT w a0 n0 c0 z0) (a1 : Option Addr) (n1 c1 : Nat) (z1 : Ws) (r1 : IsRowT w a1 n1 c1 z1)
    (a2 : Option Addr) (n2 c2 : Nat) (z2 : Ws) (r2 : IsRowT w a2 n2 c2 z2) (a3 : Option Addr) (n3 c3 : Nat) (z3 : Ws) (r3 : IsRowT w a3 n3 c3 z3) (b : Int) (_ : (Lit.int .i64 b).wf = true) :
    Calls Tryd.prog 5 #[.slice a0 n0 c0, .slice a1 n1 c1, .slice a2 n2 c2, .slice a3 n3 c3, .int .i64 b] w fun e w' => e = .returned (.bool true) ∧ Q w w' := by
  obtain ⟨rfl, y0, x0, R0, M0⟩ := r0
  obtain ⟨rfl, y1, x1, R1, M1⟩ := r1
  obtain ⟨rfl, y2, x2, R2, M2⟩ := r2
  obtain ⟨rfl, y3, x3, R3, M3⟩ := r3
  unfold reachBytes at x0 x1 x2 x3
  have l0 : z0.length ≤ 8796093022208 := by omega
  have l1 : z1.length ≤ 8796093022208 := by omega
  have l2 : z2.length ≤ 8796093022208 := by omega
  have l3 : z3.length ≤ 8796093022208 := by omega
  have h3 := and3 b
  obtain ⟨d, hd⟩ : ∃ d : Nat, b % 4 = (d : Int) := ⟨(b % 4).toNat, by omega⟩
  have hd4 : d < 4 := by omega
  rw [hd] at h3
  have HG := hide (gap_is d hd4)
  have hgz : ((⟨#[32, 32, 32, 32, 32]⟩ : ByteArray).extract 0 (1 + d)).size = 1 + d := by rw [← bl_size, unhide HG, List.length_replicate]
  clear hd x0 x1 x2 x3
  go_enter Tryd.func5, Tryd.ntmps5
  go_wp2_with fail
  refine (wdawake_any _).mono ?_
  rintro e w1 ⟨rfl, q1⟩
  go_wp2_with fail
  have hwb : ∃ wb : World, wb = w1.alloc (.cells #[.slice a0 z0.length c0, .slice a1 z1.length c1, .slice a2 z2.length c2, .slice a3 z3.length c3] 22) := ⟨_, rfl⟩
  obtain ⟨wb, hwb⟩ := hwb
  have qb : Q w wb := by rw [hwb]; exact q1.alloc _
  have k0 : wb.cell? ⟨w1.heap.size, 0, none⟩ = some (.slice a0 z0.length c0) := by rw [hwb]; simp
  have k1 : wb.cell? ⟨w1.heap.size, 1, none⟩ = some (.slice a1 z1.length c1) := by rw [hwb]; simp
  have k2 : wb.cell? ⟨w1.heap.size, 2, none⟩ = some (.slice a2 z2.length c2) := by rw [hwb]; simp
  have k3 : wb.cell? ⟨w1.heap.size, 3, none⟩ = some (.slice a3 z3.length c3) := by rw [hwb]; simp
  have S0 := hide (R0.q qb)
  have S1 := hide (R1.q qb)
  have S2 := hide (R2.q qb)
  have S3 := hide (R3.q qb)
  have HM0 := hide M0
  have HM1 := hide M1
  have HM2 := hide M2
  have HM3 := hide M3
  rw [← hwb]
  clear hwb q1 R0 R1 R2 R3 M0 M1 M2 M3
  generalize w1.heap.size = gb at *
  generalize hgp : (⟨#[32, 32, 32, 32, 32]⟩ : ByteArray).extract 0 (1 + d) = gp at *
  have HGG := hide (unhide HG)
  have hm1 : 1 ≤ 1 + d := by omega
  clear hgp HG
  have hg4 : gp.size ≤ 4 := by omega
  generalize 1 + d = gm at *
  go_loop [12, 13, 15] (fun ok v i => ∃ (k : Nat) (u : ByteArray), k ≤ 4 ∧ i = .int .i64 k ∧ ok = .bool (okW z0 z1 z2 z3 k) ∧ v = .string u ∧ u.size ≤ (k + 1) * 281474976710656 ∧ Hid (Gp (bl u) (preW z0 z1 z2 z3 k)) ∧ Hid (anW z0 z1 z2 z3 k)) (fun _ _ i => 4 - (intOf i).toNat)
  case atStart => exact ⟨0, gp, by omega, rfl, by rw [show okW z0 z1 z2 z3 0 = decide (0 < z0.length) by unfold okW; simp], rfl, by omega, (by show Gp _ _; rw [unhide HGG]; exact Gp.start hm1), ⟨fun h => by omega, fun h => by omega, fun h => by omega, fun h => by omega⟩⟩
  case round =>
    obtain ⟨k, u, hk, rfl, rfl, rfl, hu, HU, HN⟩ := hrel
    rcases (by omega : k = 0 ∨ k = 1 ∨ k = 2 ∨ k = 3 ∨ k = 4) with rfl | rfl | rfl | rfl | rfl
    · have hzl : (z0.length : Int) ≤ 8796093022208 := by omega
      cases hb : okW z0 z1 z2 z3 0
      · have HB := hide hb
        clear hb
        have HP : Hid (Gp (bl (u)) ([])) := HU.out
        clear HU
        go_wp2_with fail
        go_loop [13, 16] (fun v j => ∃ (m : Nat) (u : ByteArray), m ≤ z0.length ∧ j = .int .i64 m ∧ v = .string u ∧ u.size ≤ (0 + 1) * 281474976710656 + 100 + 20 * m ∧ Hid (Gp (bl u) ([] ++ z0.take m)) ∧ Hid (AllN (z0.take m))) (fun _ j => z0.length - (intOf j).toNat)
        case atStart => exact ⟨0, u, Nat.zero_le _, rfl, rfl, by omega, (by show Gp _ _; rw [List.take_zero, List.append_nil]; exact HP.out), fun y hy => by cases hy⟩
        case round =>
          obtain ⟨m, v, hm, rfl, rfl, hv, HV, HA⟩ := hrel
          by_cases hlt : m < z0.length
          · obtain ⟨x, hx⟩ : ∃ x, z0[m]? = some x := ⟨z0[m], List.getElem?_eq_getElem hlt⟩
            have hxl : x.length ≤ maxLen := HM0.out x (List.mem_of_getElem? hx)
            rcases unhide S0 with he | ⟨g, o, rfl, hg, hc⟩
            · rw [he] at hlt; simp at hlt
            have cx : wb.cell? ⟨g, o + m, none⟩ = some (.string ⟨x.toArray⟩) := by simpa using hc m 0 x _ hx (by decide) rfl
            have HX := hide (bl_mk x)
            generalize (⟨x.toArray⟩ : ByteArray) = X at cx HX
            have hXz : X.size ≤ maxLen := by rw [← bl_size, unhide HX]; exact hxl
            have HXK := hide hx
            have hlt' : (m : Int) < (z0.length : Int) := by omega
            clear hc hx hxl
            cases hok : okN x
            · have HM : Hid (mayB X = false) := by show _ = _; rw [may_okN, unhide HX]; exact hok
              clear hok
              go_wp2_with fail
              refine (nameMay_any X _ hXz).mono ?_
              rintro e w' ⟨rfl, rfl⟩
              rw [HM.out]
              go_wp2_with fail
              go_ret
              exact ⟨rfl, qb⟩
            · have HM : Hid (mayB X = true) := by show _ = _; rw [may_okN, unhide HX]; exact hok
              have hX16 : X.size ≤ 16 := by rw [← bl_size, unhide HX]; exact (okN_len hok).2.1
              have HG2 : Hid (Gp (bl (v ++ X ++ gp)) ([] ++ z0.take (m + 1))) := by
                show Gp _ _
                rw [take_more (unhide HXK)]
                exact HV.out.add (unhide HGG) hm1 (unhide HX) (okN_32 hok) (okN_ne hok)
              have HA2 : Hid (AllN (z0.take (m + 1))) := an_take HA.out (unhide HXK) hok
              clear hok HV HA
              go_wp2_with fail
              refine (nameMay_any X _ hXz).mono ?_
              rintro e w' ⟨rfl, rfl⟩
              rw [HM.out]
              go_wp2_with fail
              go_round
              case rel => exact ⟨m + 1, v ++ X ++ gp, by omega, by go_num, rfl, by simp only [ByteArray.size_append]; omega, HG2, HA2⟩
              case measure => simp [intOf]; omega
          · have hmm : m = z0.length := by omega
            have HF : Hid (AllN z0) := by have := HA.out; rw [hmm, List.take_of_length_le (Nat.le_refl _)] at this; exact this
            have HG3 : Hid (Gp (bl v) (preW z0 z1 z2 z3 (0 + 1))) := by
              have := HV.out
              rw [hmm, List.take_of_length_le (Nat.le_refl _)] at this
              exact this
            have HOK : Hid (okW z0 z1 z2 z3 (0 + 1) = false) := by show _ = _; rw [ok_next0, unhide HB]; rfl
            clear HV HA
            go_wp2_with fail
            go_round
            case rel => exact ⟨0 + 1, v, by omega, by go_num, by rw [HOK.out], rfl, by omega, HG3, ⟨fun _ => HF.out, fun h => by omega, fun h => by omega, fun h => by omega⟩⟩
            case measure => simp [intOf]
      · have HB := hide hb
        clear hb
        have HP : Hid (Gp (bl (u)) ([])) := HU.out
        clear HU
        go_wp2_with fail
        go_loop [13, 16] (fun v j => ∃ (m : Nat) (u : ByteArray), m ≤ z0.length ∧ j = .int .i64 m ∧ v = .string u ∧ u.size ≤ (0 + 1) * 281474976710656 + 100 + 20 * m ∧ Hid (Gp (bl u) ([] ++ z0.take m)) ∧ Hid (AllN (z0.take m))) (fun _ j => z0.length - (intOf j).toNat)
        case atStart => exact ⟨0, u, Nat.zero_le _, rfl, rfl, by omega, (by show Gp _ _; rw [List.take_zero, List.append_nil]; exact HP.out), fun y hy => by cases hy⟩
        case round =>
          obtain ⟨m, v, hm, rfl, rfl, hv, HV, HA⟩ := hrel
          by_cases hlt : m < z0.length
          · obtain ⟨x, hx⟩ : ∃ x, z0[m]? = some x := ⟨z0[m], List.getElem?_eq_getElem hlt⟩
            have hxl : x.length ≤ maxLen := HM0.out x (List.mem_of_getElem? hx)
            rcases unhide S0 with he | ⟨g, o, rfl, hg, hc⟩
            · rw [he] at hlt; simp at hlt
            have cx : wb.cell? ⟨g, o + m, none⟩ = some (.string ⟨x.toArray⟩) := by simpa using hc m 0 x _ hx (by decide) rfl
            have HX := hide (bl_mk x)
            generalize (⟨x.toArray⟩ : ByteArray) = X at cx HX
            have hXz : X.size ≤ maxLen := by rw [← bl_size, unhide HX]; exact hxl
            have HXK := hide hx
            have hlt' : (m : Int) < (z0.length : Int) := by omega
            clear hc hx hxl
            cases hok : okN x
            · have HM : Hid (mayB X = false) := by show _ = _; rw [may_okN, unhide HX]; exact hok
              clear hok
              go_wp2_with fail
              refine (nameMay_any X _ hXz).mono ?_
              rintro e w' ⟨rfl, rfl⟩
              rw [HM.out]
              go_wp2_with fail
              go_ret
              exact ⟨rfl, qb⟩
            · have HM : Hid (mayB X = true) := by show _ = _; rw [may_okN, unhide HX]; exact hok
              have hX16 : X.size ≤ 16 := by rw [← bl_size, unhide HX]; exact (okN_len hok).2.1
              have HG2 : Hid (Gp (bl (v ++ X ++ gp)) ([] ++ z0.take (m + 1))) := by
                show Gp _ _
                rw [take_more (unhide HXK)]
                exact HV.out.add (unhide HGG) hm1 (unhide HX) (okN_32 hok) (okN_ne hok)
              have HA2 : Hid (AllN (z0.take (m + 1))) := an_take HA.out (unhide HXK) hok
              clear hok HV HA
              go_wp2_with fail
              refine (nameMay_any X _ hXz).mono ?_
              rintro e w' ⟨rfl, rfl⟩
              rw [HM.out]
              go_wp2_with fail
              go_round
              case rel => exact ⟨m + 1, v ++ X ++ gp, by omega, by go_num, rfl, by simp only [ByteArray.size_append]; omega, HG2, HA2⟩
              case measure => simp [intOf]; omega
          · have hmm : m = z0.length := by omega
            have HF : Hid (AllN z0) := by have := HA.out; rw [hmm, List.take_of_length_le (Nat.le_refl _)] at this; exact this
            have HG3 : Hid (Gp (bl v) (preW z0 z1 z2 z3 (0 + 1))) := by
              have := HV.out
              rw [hmm, List.take_of_length_le (Nat.le_refl _)] at this
              exact this
            have HOK : Hid (okW z0 z1 z2 z3 (0 + 1) = decide (z0.length ≤ 8)) := by show _ = _; rw [ok_next0, unhide HB]; rfl
            clear HV HA
            go_wp2_with fail
            go_round
            case rel => exact ⟨0 + 1, v, by omega, by go_num, by rw [HOK.out, le8], rfl, by omega, HG3, ⟨fun _ => HF.out, fun h => by omega, fun h => by omega, fun h => by omega⟩⟩
            case measure => simp [intOf]
    · have hzl : (z1.length : Int) ≤ 8796093022208 := by omega
      cases hb : okW z0 z1 z2 z3 1
      · have HB := hide hb
        clear hb
        have HP : Hid (Gp (bl (u ++ ⟨#[58]⟩ ++ gp ++ ⟨#[99, 99]⟩ ++ gp)) (([] ++ z0) ++ [[58]] ++ [[99, 99]])) := (HU.out.add (unhide HGG) hm1 (y := [58]) rfl (by decide) (by decide)).add (unhide HGG) hm1 (y := [99, 99]) rfl (by decide) (by decide)
        clear HU
        go_wp2_with fail
        go_loop [13, 16] (fun v j => ∃ (m : Nat) (u : ByteArray), m ≤ z1.length ∧ j = .int .i64 m ∧ v = .string u ∧ u.size ≤ (1 + 1) * 281474976710656 + 100 + 20 * m ∧ Hid (Gp (bl u) (([] ++ z0) ++ [[58]] ++ [[99, 99]] ++ z1.take m)) ∧ Hid (AllN (z1.take m))) (fun _ j => z1.length - (intOf j).toNat)
        case atStart => exact ⟨0, u ++ ⟨#[58]⟩ ++ gp ++ ⟨#[99, 99]⟩ ++ gp, Nat.zero_le _, rfl, rfl, by have y1 : (⟨#[58]⟩ : ByteArray).size = 1 := rfl; have y2 : (⟨#[99, 99]⟩ : ByteArray).size = 2 := rfl; have y3 : (⟨#[124]⟩ : ByteArray).size = 1 := rfl; have y4 : (⟨#[124, 124]⟩ : ByteArray).size = 2 := rfl; simp only [ByteArray.size_append]; omega, (by show Gp _ _; rw [List.take_zero, List.append_nil]; exact HP.out), fun y hy => by cases hy⟩
        case round =>
          obtain ⟨m, v, hm, rfl, rfl, hv, HV, HA⟩ := hrel
          by_cases hlt : m < z1.length
          · obtain ⟨x, hx⟩ : ∃ x, z1[m]? = some x := ⟨z1[m], List.getElem?_eq_getElem hlt⟩
            have hxl : x.length ≤ maxLen := HM1.out x (List.mem_of_getElem? hx)
            rcases unhide S1 with he | ⟨g, o, rfl, hg, hc⟩
            · rw [he] at hlt; simp at hlt
            have cx : wb.cell? ⟨g, o + m, none⟩ = some (.string ⟨x.toArray⟩) := by simpa using hc m 0 x _ hx (by decide) rfl
            have HX := hide (bl_mk x)
            generalize (⟨x.toArray⟩ : ByteArray) = X at cx HX
            have hXz : X.size ≤ maxLen := by rw [← bl_size, unhide HX]; exact hxl
            have HXK := hide hx
            have hlt' : (m : Int) < (z1.length : Int) := by omega
            clear hc hx hxl
            cases hok : okN x
            · have HM : Hid (mayB X = false) := by show _ = _; rw [may_okN, unhide HX]; exact hok
              clear hok
              go_wp2_with fail
              refine (nameMay_any X _ hXz).mono ?_
              rintro e w' ⟨rfl, rfl⟩
              rw [HM.out]
              go_wp2_with fail
              go_ret
              exact ⟨rfl, qb⟩
            · have HM : Hid (mayB X = true) := by show _ = _; rw [may_okN, unhide HX]; exact hok
              have hX16 : X.size ≤ 16 := by rw [← bl_size, unhide HX]; exact (okN_len hok).2.1
              have HG2 : Hid (Gp (bl (v ++ X ++ gp)) (([] ++ z0) ++ [[58]] ++ [[99, 99]] ++ z1.take (m + 1))) := by
                show Gp _ _
                rw [take_more (unhide HXK)]
                exact HV.out.add (unhide HGG) hm1 (unhide HX) (okN_32 hok) (okN_ne hok)
              have HA2 : Hid (AllN (z1.take (m + 1))) := an_take HA.out (unhide HXK) hok
              clear hok HV HA
              go_wp2_with fail
              refine (nameMay_any X _ hXz).mono ?_
              rintro e w' ⟨rfl, rfl⟩
              rw [HM.out]
              go_wp2_with fail
              go_round
              case rel => exact ⟨m + 1, v ++ X ++ gp, by omega, by go_num, rfl, by simp only [ByteArray.size_append]; omega, HG2, HA2⟩
              case measure => simp [intOf]; omega
          · have hmm : m = z1.length := by omega
            have HF : Hid (AllN z1) := by have := HA.out; rw [hmm, List.take_of_length_le (Nat.le_refl _)] at this; exact this
            have HG3 : Hid (Gp (bl v) (preW z0 z1 z2 z3 (1 + 1))) := by
              have := HV.out
              rw [hmm, List.take_of_length_le (Nat.le_refl _)] at this
              exact this
            have HOK : Hid (okW z0 z1 z2 z3 (1 + 1) = false) := by show _ = _; rw [ok_next1, unhide HB]; rfl
            clear HV HA
            go_wp2_with fail
            go_round
            case rel => exact ⟨1 + 1, v, by omega, by go_num, by rw [HOK.out], rfl, by omega, HG3, ⟨fun _ => (HN.out.1 (by omega)), fun _ => HF.out, fun h => by omega, fun h => by omega⟩⟩
            case measure => simp [intOf]
      · have HB := hide hb
        clear hb
        have HP : Hid (Gp (bl (u ++ ⟨#[58]⟩ ++ gp ++ ⟨#[99, 99]⟩ ++ gp)) (([] ++ z0) ++ [[58]] ++ [[99, 99]])) := (HU.out.add (unhide HGG) hm1 (y := [58]) rfl (by decide) (by decide)).add (unhide HGG) hm1 (y := [99, 99]) rfl (by decide) (by decide)
        clear HU
        go_wp2_with fail
        go_loop [13, 16] (fun v j => ∃ (m : Nat) (u : ByteArray), m ≤ z1.length ∧ j = .int .i64 m ∧ v = .string u ∧ u.size ≤ (1 + 1) * 281474976710656 + 100 + 20 * m ∧ Hid (Gp (bl u) (([] ++ z0) ++ [[58]] ++ [[99, 99]] ++ z1.take m)) ∧ Hid (AllN (z1.take m))) (fun _ j => z1.length - (intOf j).toNat)
        case atStart => exact ⟨0, u ++ ⟨#[58]⟩ ++ gp ++ ⟨#[99, 99]⟩ ++ gp, Nat.zero_le _, rfl, rfl, by have y1 : (⟨#[58]⟩ : ByteArray).size = 1 := rfl; have y2 : (⟨#[99, 99]⟩ : ByteArray).size = 2 := rfl; have y3 : (⟨#[124]⟩ : ByteArray).size = 1 := rfl; have y4 : (⟨#[124, 124]⟩ : ByteArray).size = 2 := rfl; simp only [ByteArray.size_append]; omega, (by show Gp _ _; rw [List.take_zero, List.append_nil]; exact HP.out), fun y hy => by cases hy⟩
        case round =>
          obtain ⟨m, v, hm, rfl, rfl, hv, HV, HA⟩ := hrel
          by_cases hlt : m < z1.length
          · obtain ⟨x, hx⟩ : ∃ x, z1[m]? = some x := ⟨z1[m], List.getElem?_eq_getElem hlt⟩
            have hxl : x.length ≤ maxLen := HM1.out x (List.mem_of_getElem? hx)
            rcases unhide S1 with he | ⟨g, o, rfl, hg, hc⟩
            · rw [he] at hlt; simp at hlt
            have cx : wb.cell? ⟨g, o + m, none⟩ = some (.string ⟨x.toArray⟩) := by simpa using hc m 0 x _ hx (by decide) rfl
            have HX := hide (bl_mk x)
            generalize (⟨x.toArray⟩ : ByteArray) = X at cx HX
            have hXz : X.size ≤ maxLen := by rw [← bl_size, unhide HX]; exact hxl
            have HXK := hide hx
            have hlt' : (m : Int) < (z1.length : Int) := by omega
            clear hc hx hxl
            cases hok : okN x
            · have HM : Hid (mayB X = false) := by show _ = _; rw [may_okN, unhide HX]; exact hok
              clear hok
              go_wp2_with fail
              refine (nameMay_any X _ hXz).mono ?_
              rintro e w' ⟨rfl, rfl⟩
              rw [HM.out]
              go_wp2_with fail
              go_ret
              exact ⟨rfl, qb⟩
            · have HM : Hid (mayB X = true) := by show _ = _; rw [may_okN, unhide HX]; exact hok
              have hX16 : X.size ≤ 16 := by rw [← bl_size, unhide HX]; exact (okN_len hok).2.1
              have HG2 : Hid (Gp (bl (v ++ X ++ gp)) (([] ++ z0) ++ [[58]] ++ [[99, 99]] ++ z1.take (m + 1))) := by
                show Gp _ _
                rw [take_more (unhide HXK)]
                exact HV.out.add (unhide HGG) hm1 (unhide HX) (okN_32 hok) (okN_ne hok)
              have HA2 : Hid (AllN (z1.take (m + 1))) := an_take HA.out (unhide HXK) hok
              clear hok HV HA
              go_wp2_with fail
              refine (nameMay_any X _ hXz).mono ?_
              rintro e w' ⟨rfl, rfl⟩
              rw [HM.out]
              go_wp2_with fail
              go_round
              case rel => exact ⟨m + 1, v ++ X ++ gp, by omega, by go_num, rfl, by simp only [ByteArray.size_append]; omega, HG2, HA2⟩
              case measure => simp [intOf]; omega
          · have hmm : m = z1.length := by omega
            have HF : Hid (AllN z1) := by have := HA.out; rw [hmm, List.take_of_length_le (Nat.le_refl _)] at this; exact this
            have HG3 : Hid (Gp (bl v) (preW z0 z1 z2 z3 (1 + 1))) := by
              have := HV.out
              rw [hmm, List.take_of_length_le (Nat.le_refl _)] at this
              exact this
            have HOK : Hid (okW z0 z1 z2 z3 (1 + 1) = decide (z1.length ≤ 8)) := by show _ = _; rw [ok_next1, unhide HB]; rfl
            clear HV HA
            go_wp2_with fail
            go_round
            case rel => exact ⟨1 + 1, v, by omega, by go_num, by rw [HOK.out, le8], rfl, by omega, HG3, ⟨fun _ => (HN.out.1 (by omega)), fun _ => HF.out, fun h => by omega, fun h => by omega⟩⟩
            case measure => simp [intOf]
    · have hzl : (z2.length : Int) ≤ 8796093022208 := by omega
      cases hb : okW z0 z1 z2 z3 2
      · have HB := hide hb
        clear hb
        by_cases hz0 : z2 = []
        · subst hz0
          simp only [List.length_nil] at k2
          have HG3 : Hid (Gp (bl u) (preW z0 z1 [] z3 (2 + 1))) := by show Gp _ (hdW _ _ _); unfold hdW; rw [if_pos rfl, List.append_nil]; exact HU.out
          have HOK : Hid (okW z0 z1 [] z3 (2 + 1) = false) := by show _ = _; rw [ok_next2, unhide HB]; rfl
          clear HU
          go_wp2_with fail
          refine wp_loop_rounds 1 ?_
          rw [rounds_succ]
          go_wp2_with fail
          refine ⟨⟨(by first | trivial | rfl), ?_⟩, ?measure⟩
          (repeat apply Exists.intro)
          refine ⟨?rel, rfl⟩
          case rel => exact ⟨2 + 1, u, by omega, by go_num, by rw [HOK.out], rfl, by omega, HG3, ⟨fun _ => (HN.out.1 (by omega)), fun _ => (HN.out.2.1 (by omega)), (fun _ y hy => by cases hy), fun h => by omega⟩⟩
          case measure => simp [intOf]
        · have hzz : (0 : Int) < (z2.length : Int) := by have := List.length_pos_iff.2 hz0; omega
          have hzn : 0 < z2.length := List.length_pos_iff.2 hz0
          have HP : Hid (Gp (bl (u ++ ⟨#[124]⟩ ++ gp)) (preW z0 z1 z2 z3 2 ++ [[124]])) := HU.out.add (unhide HGG) hm1 (y := [124]) rfl (by decide) (by decide)
          clear HU
          go_wp2_with fail
          go_loop [13, 16] (fun v j => ∃ (m : Nat) (u : ByteArray), m ≤ z2.length ∧ j = .int .i64 m ∧ v = .string u ∧ u.size ≤ (2 + 1) * 281474976710656 + 100 + 20 * m ∧ Hid (Gp (bl u) (preW z0 z1 z2 z3 2 ++ [[124]] ++ z2.take m)) ∧ Hid (AllN (z2.take m))) (fun _ j => z2.length - (intOf j).toNat)
          case atStart => exact ⟨0, u ++ ⟨#[124]⟩ ++ gp, Nat.zero_le _, rfl, rfl, by have y1 : (⟨#[58]⟩ : ByteArray).size = 1 := rfl; have y2 : (⟨#[99, 99]⟩ : ByteArray).size = 2 := rfl; have y3 : (⟨#[124]⟩ : ByteArray).size = 1 := rfl; have y4 : (⟨#[124, 124]⟩ : ByteArray).size = 2 := rfl; simp only [ByteArray.size_append]; omega, (by show Gp _ _; rw [List.take_zero, List.append_nil]; exact HP.out), fun y hy => by cases hy⟩
          case round =>
            obtain ⟨m, v, hm, rfl, rfl, hv, HV, HA⟩ := hrel
            by_cases hlt : m < z2.length
            · obtain ⟨x, hx⟩ : ∃ x, z2[m]? = some x := ⟨z2[m], List.getElem?_eq_getElem hlt⟩
              have hxl : x.length ≤ maxLen := HM2.out x (List.mem_of_getElem? hx)
              rcases unhide S2 with he | ⟨g, o, rfl, hg, hc⟩
              · rw [he] at hlt; simp at hlt
              have cx : wb.cell? ⟨g, o + m, none⟩ = some (.string ⟨x.toArray⟩) := by simpa using hc m 0 x _ hx (by decide) rfl
              have HX := hide (bl_mk x)
              generalize (⟨x.toArray⟩ : ByteArray) = X at cx HX
              have hXz : X.size ≤ maxLen := by rw [← bl_size, unhide HX]; exact hxl
              have HXK := hide hx
              have hlt' : (m : Int) < (z2.length : Int) := by omega
              clear hc hx hxl
              cases hok : okN x
              · have HM : Hid (mayB X = false) := by show _ = _; rw [may_okN, unhide HX]; exact hok
                clear hok
                go_wp2_with fail
                refine (nameMay_any X _ hXz).mono ?_
                rintro e w' ⟨rfl, rfl⟩
                rw [HM.out]
                go_wp2_with fail
                go_ret
                exact ⟨rfl, qb⟩
              · have HM : Hid (mayB X = true) := by show _ = _; rw [may_okN, unhide HX]; exact hok
                have hX16 : X.size ≤ 16 := by rw [← bl_size, unhide HX]; exact (okN_len hok).2.1
                have HG2 : Hid (Gp (bl (v ++ X ++ gp)) (preW z0 z1 z2 z3 2 ++ [[124]] ++ z2.take (m + 1))) := by
                  show Gp _ _
                  rw [take_more (unhide HXK)]
                  exact HV.out.add (unhide HGG) hm1 (unhide HX) (okN_32 hok) (okN_ne hok)
                have HA2 : Hid (AllN (z2.take (m + 1))) := an_take HA.out (unhide HXK) hok
                clear hok HV HA
                go_wp2_with fail
                refine (nameMay_any X _ hXz).mono ?_
                rintro e w' ⟨rfl, rfl⟩
                rw [HM.out]
                go_wp2_with fail
                go_round
                case rel => exact ⟨m + 1, v ++ X ++ gp, by omega, by go_num, rfl, by simp only [ByteArray.size_append]; omega, HG2, HA2⟩
                case measure => simp [intOf]; omega
            · have hmm : m = z2.length := by omega
              have HF : Hid (AllN z2) := by have := HA.out; rw [hmm, List.take_of_length_le (Nat.le_refl _)] at this; exact this
              have HG3 : Hid (Gp (bl v) (preW z0 z1 z2 z3 (2 + 1))) := by
                have := HV.out
                rw [hmm, List.take_of_length_le (Nat.le_refl _)] at this
                exact by show Gp _ (hdW _ _ _); unfold hdW; rw [if_neg hz0]; exact this
              have HOK : Hid (okW z0 z1 z2 z3 (2 + 1) = false) := by show _ = _; rw [ok_next2, unhide HB]; rfl
              clear HV HA
              go_wp2_with fail
              go_round
              case rel => exact ⟨2 + 1, v, by omega, by go_num, by rw [HOK.out], rfl, by omega, HG3, ⟨fun _ => (HN.out.1 (by omega)), fun _ => (HN.out.2.1 (by omega)), fun _ => HF.out, fun h => by omega⟩⟩
              case measure => simp [intOf]
      · have HB := hide hb
        clear hb
        by_cases hz0 : z2 = []
        · subst hz0
          simp only [List.length_nil] at k2
          have HG3 : Hid (Gp (bl u) (preW z0 z1 [] z3 (2 + 1))) := by show Gp _ (hdW _ _ _); unfold hdW; rw [if_pos rfl, List.append_nil]; exact HU.out
          have HOK : Hid (okW z0 z1 [] z3 (2 + 1) = true) := by show _ = _; rw [ok_next2, unhide HB]; rfl
          clear HU
          go_wp2_with fail
          refine wp_loop_rounds 1 ?_
          rw [rounds_succ]
          go_wp2_with fail
          refine ⟨⟨(by first | trivial | rfl), ?_⟩, ?measure⟩
          (repeat apply Exists.intro)
          refine ⟨?rel, rfl⟩
          case rel => exact ⟨2 + 1, u, by omega, by go_num, by rw [HOK.out], rfl, by omega, HG3, ⟨fun _ => (HN.out.1 (by omega)), fun _ => (HN.out.2.1 (by omega)), (fun _ y hy => by cases hy), fun h => by omega⟩⟩
          case measure => simp [intOf]
        · have hzz : (0 : Int) < (z2.length : Int) := by have := List.length_pos_iff.2 hz0; omega
          have hzn : 0 < z2.length := List.length_pos_iff.2 hz0
          have HP : Hid (Gp (bl (u ++ ⟨#[124]⟩ ++ gp)) (preW z0 z1 z2 z3 2 ++ [[124]])) := HU.out.add (unhide HGG) hm1 (y := [124]) rfl (by decide) (by decide)
          clear HU
          go_wp2_with fail
          go_loop [13, 16] (fun v j => ∃ (m : Nat) (u : ByteArray), m ≤ z2.length ∧ j = .int .i64 m ∧ v = .string u ∧ u.size ≤ (2 + 1) * 281474976710656 + 100 + 20 * m ∧ Hid (Gp (bl u) (preW z0 z1 z2 z3 2 ++ [[124]] ++ z2.take m)) ∧ Hid (AllN (z2.take m))) (fun _ j => z2.length - (intOf j).toNat)
          case atStart => exact ⟨0, u ++ ⟨#[124]⟩ ++ gp, Nat.zero_le _, rfl, rfl, by have y1 : (⟨#[58]⟩ : ByteArray).size = 1 := rfl; have y2 : (⟨#[99, 99]⟩ : ByteArray).size = 2 := rfl; have y3 : (⟨#[124]⟩ : ByteArray).size = 1 := rfl; have y4 : (⟨#[124, 124]⟩ : ByteArray).size = 2 := rfl; simp only [ByteArray.size_append]; omega, (by show Gp _ _; rw [List.take_zero, List.append_nil]; exact HP.out), fun y hy => by cases hy⟩
          case round =>
            obtain ⟨m, v, hm, rfl, rfl, hv, HV, HA⟩ := hrel
            by_cases hlt : m < z2.length
            · obtain ⟨x, hx⟩ : ∃ x, z2[m]? = some x := ⟨z2[m], List.getElem?_eq_getElem hlt⟩
              have hxl : x.length ≤ maxLen := HM2.out x (List.mem_of_getElem? hx)
              rcases unhide S2 with he | ⟨g, o, rfl, hg, hc⟩
              · rw [he] at hlt; simp at hlt
              have cx : wb.cell? ⟨g, o + m, none⟩ = some (.string ⟨x.toArray⟩) := by simpa using hc m 0 x _ hx (by decide) rfl
              have HX := hide (bl_mk x)
              generalize (⟨x.toArray⟩ : ByteArray) = X at cx HX
              have hXz : X.size ≤ maxLen := by rw [← bl_size, unhide HX]; exact hxl
              have HXK := hide hx
              have hlt' : (m : Int) < (z2.length : Int) := by omega
              clear hc hx hxl
              cases hok : okN x
              · have HM : Hid (mayB X = false) := by show _ = _; rw [may_okN, unhide HX]; exact hok
                clear hok
                go_wp2_with fail
                refine (nameMay_any X _ hXz).mono ?_
                rintro e w' ⟨rfl, rfl⟩
                rw [HM.out]
                go_wp2_with fail
                go_ret
                exact ⟨rfl, qb⟩
              · have HM : Hid (mayB X = true) := by show _ = _; rw [may_okN, unhide HX]; exact hok
                have hX16 : X.size ≤ 16 := by rw [← bl_size, unhide HX]; exact (okN_len hok).2.1
                have HG2 : Hid (Gp (bl (v ++ X ++ gp)) (preW z0 z1 z2 z3 2 ++ [[124]] ++ z2.take (m + 1))) := by
                  show Gp _ _
                  rw [take_more (unhide HXK)]
                  exact HV.out.add (unhide HGG) hm1 (unhide HX) (okN_32 hok) (okN_ne hok)
                have HA2 : Hid (AllN (z2.take (m + 1))) := an_take HA.out (unhide HXK) hok
                clear hok HV HA
                go_wp2_with fail
                refine (nameMay_any X _ hXz).mono ?_
                rintro e w' ⟨rfl, rfl⟩
                rw [HM.out]
                go_wp2_with fail
                go_round
                case rel => exact ⟨m + 1, v ++ X ++ gp, by omega, by go_num, rfl, by simp only [ByteArray.size_append]; omega, HG2, HA2⟩
                case measure => simp [intOf]; omega
            · have hmm : m = z2.length := by omega
              have HF : Hid (AllN z2) := by have := HA.out; rw [hmm, List.take_of_length_le (Nat.le_refl _)] at this; exact this
              have HG3 : Hid (Gp (bl v) (preW z0 z1 z2 z3 (2 + 1))) := by
                have := HV.out
                rw [hmm, List.take_of_length_le (Nat.le_refl _)] at this
                exact by show Gp _ (hdW _ _ _); unfold hdW; rw [if_neg hz0]; exact this
              have HOK : Hid (okW z0 z1 z2 z3 (2 + 1) = decide (z2.length ≤ 8)) := by show _ = _; rw [ok_next2, unhide HB]; rfl
              clear HV HA
              go_wp2_with fail
              go_round
              case rel => exact ⟨2 + 1, v, by omega, by go_num, by rw [HOK.out, le8], rfl, by omega, HG3, ⟨fun _ => (HN.out.1 (by omega)), fun _ => (HN.out.2.1 (by omega)), fun _ => HF.out, fun h => by omega⟩⟩
              case measure => simp [intOf]
    · have hzl : (z3.length : Int) ≤ 8796093022208 := by omega
      cases hb : okW z0 z1 z2 z3 3
      · have HB := hide hb
        clear hb
        by_cases hz0 : z3 = []
        · subst hz0
          simp only [List.length_nil] at k3
          have HG3 : Hid (Gp (bl u) (preW z0 z1 z2 [] (3 + 1))) := by show Gp _ (hdW _ _ _); unfold hdW; rw [if_pos rfl, List.append_nil]; exact HU.out
          have HOK : Hid (okW z0 z1 z2 [] (3 + 1) = false) := by show _ = _; rw [ok_next3, unhide HB]; rfl
          clear HU
          go_wp2_with fail
          refine wp_loop_rounds 1 ?_
          rw [rounds_succ]
          go_wp2_with fail
          refine ⟨⟨(by first | trivial | rfl), ?_⟩, ?measure⟩
          (repeat apply Exists.intro)
          refine ⟨?rel, rfl⟩
          case rel => exact ⟨3 + 1, u, by omega, by go_num, by rw [HOK.out], rfl, by omega, HG3, ⟨fun _ => (HN.out.1 (by omega)), fun _ => (HN.out.2.1 (by omega)), fun _ => (HN.out.2.2.1 (by omega)), (fun _ y hy => by cases hy)⟩⟩
          case measure => simp [intOf]
        · have hzz : (0 : Int) < (z3.length : Int) := by have := List.length_pos_iff.2 hz0; omega
          have hzn : 0 < z3.length := List.length_pos_iff.2 hz0
          have HP : Hid (Gp (bl (u ++ ⟨#[124, 124]⟩ ++ gp)) (preW z0 z1 z2 z3 3 ++ [[124, 124]])) := HU.out.add (unhide HGG) hm1 (y := [124, 124]) rfl (by decide) (by decide)
          clear HU
          go_wp2_with fail
          go_loop [13, 16] (fun v j => ∃ (m : Nat) (u : ByteArray), m ≤ z3.length ∧ j = .int .i64 m ∧ v = .string u ∧ u.size ≤ (3 + 1) * 281474976710656 + 100 + 20 * m ∧ Hid (Gp (bl u) (preW z0 z1 z2 z3 3 ++ [[124, 124]] ++ z3.take m)) ∧ Hid (AllN (z3.take m))) (fun _ j => z3.length - (intOf j).toNat)
          case atStart => exact ⟨0, u ++ ⟨#[124, 124]⟩ ++ gp, Nat.zero_le _, rfl, rfl, by have y1 : (⟨#[58]⟩ : ByteArray).size = 1 := rfl; have y2 : (⟨#[99, 99]⟩ : ByteArray).size = 2 := rfl; have y3 : (⟨#[124]⟩ : ByteArray).size = 1 := rfl; have y4 : (⟨#[124, 124]⟩ : ByteArray).size = 2 := rfl; simp only [ByteArray.size_append]; omega, (by show Gp _ _; rw [List.take_zero, List.append_nil]; exact HP.out), fun y hy => by cases hy⟩
          case round =>
            obtain ⟨m, v, hm, rfl, rfl, hv, HV, HA⟩ := hrel
            by_cases hlt : m < z3.length
            · obtain ⟨x, hx⟩ : ∃ x, z3[m]? = some x := ⟨z3[m], List.getElem?_eq_getElem hlt⟩
              have hxl : x.length ≤ maxLen := HM3.out x (List.mem_of_getElem? hx)
              rcases unhide S3 with he | ⟨g, o, rfl, hg, hc⟩
              · rw [he] at hlt; simp at hlt
              have cx : wb.cell? ⟨g, o + m, none⟩ = some (.string ⟨x.toArray⟩) := by simpa using hc m 0 x _ hx (by decide) rfl
              have HX := hide (bl_mk x)
              generalize (⟨x.toArray⟩ : ByteArray) = X at cx HX
              have hXz : X.size ≤ maxLen := by rw [← bl_size, unhide HX]; exact hxl
              have HXK := hide hx
              have hlt' : (m : Int) < (z3.length : Int) := by omega
              clear hc hx hxl
              cases hok : okN x
              · have HM : Hid (mayB X = false) := by show _ = _; rw [may_okN, unhide HX]; exact hok
                clear hok
                go_wp2_with fail
                refine (nameMay_any X _ hXz).mono ?_
                rintro e w' ⟨rfl, rfl⟩
                rw [HM.out]
                go_wp2_with fail
                go_ret
                exact ⟨rfl, qb⟩
              · have HM : Hid (mayB X = true) := by show _ = _; rw [may_okN, unhide HX]; exact hok
                have hX16 : X.size ≤ 16 := by rw [← bl_size, unhide HX]; exact (okN_len hok).2.1
                have HG2 : Hid (Gp (bl (v ++ X ++ gp)) (preW z0 z1 z2 z3 3 ++ [[124, 124]] ++ z3.take (m + 1))) := by
                  show Gp _ _
                  rw [take_more (unhide HXK)]
                  exact HV.out.add (unhide HGG) hm1 (unhide HX) (okN_32 hok) (okN_ne hok)
                have HA2 : Hid (AllN (z3.take (m + 1))) := an_take HA.out (unhide HXK) hok
                clear hok HV HA
                go_wp2_with fail
                refine (nameMay_any X _ hXz).mono ?_
                rintro e w' ⟨rfl, rfl⟩
                rw [HM.out]
                go_wp2_with fail
                go_round
                case rel => exact ⟨m + 1, v ++ X ++ gp, by omega, by go_num, rfl, by simp only [ByteArray.size_append]; omega, HG2, HA2⟩
                case measure => simp [intOf]; omega
            · have hmm : m = z3.length := by omega
              have HF : Hid (AllN z3) := by have := HA.out; rw [hmm, List.take_of_length_le (Nat.le_refl _)] at this; exact this
              have HG3 : Hid (Gp (bl v) (preW z0 z1 z2 z3 (3 + 1))) := by
                have := HV.out
                rw [hmm, List.take_of_length_le (Nat.le_refl _)] at this
                exact by show Gp _ (hdW _ _ _); unfold hdW; rw [if_neg hz0]; exact this
              have HOK : Hid (okW z0 z1 z2 z3 (3 + 1) = false) := by show _ = _; rw [ok_next3, unhide HB]; rfl
              clear HV HA
              go_wp2_with fail
              go_round
              case rel => exact ⟨3 + 1, v, by omega, by go_num, by rw [HOK.out], rfl, by omega, HG3, ⟨fun _ => (HN.out.1 (by omega)), fun _ => (HN.out.2.1 (by omega)), fun _ => (HN.out.2.2.1 (by omega)), fun _ => HF.out⟩⟩
              case measure => simp [intOf]
      · have HB := hide hb
        clear hb
        by_cases hz0 : z3 = []
        · subst hz0
          simp only [List.length_nil] at k3
          have HG3 : Hid (Gp (bl u) (preW z0 z1 z2 [] (3 + 1))) := by show Gp _ (hdW _ _ _); unfold hdW; rw [if_pos rfl, List.append_nil]; exact HU.out
          have HOK : Hid (okW z0 z1 z2 [] (3 + 1) = true) := by show _ = _; rw [ok_next3, unhide HB]; rfl
          clear HU
          go_wp2_with fail
          refine wp_loop_rounds 1 ?_
          rw [rounds_succ]
          go_wp2_with fail
          refine ⟨⟨(by first | trivial | rfl), ?_⟩, ?measure⟩
          (repeat apply Exists.intro)
          refine ⟨?rel, rfl⟩
          case rel => exact ⟨3 + 1, u, by omega, by go_num, by rw [HOK.out], rfl, by omega, HG3, ⟨fun _ => (HN.out.1 (by omega)), fun _ => (HN.out.2.1 (by omega)), fun _ => (HN.out.2.2.1 (by omega)), (fun _ y hy => by cases hy)⟩⟩
          case measure => simp [intOf]
        · have hzz : (0 : Int) < (z3.length : Int) := by have := List.length_pos_iff.2 hz0; omega
          have hzn : 0 < z3.length := List.length_pos_iff.2 hz0
          have HP : Hid (Gp (bl (u ++ ⟨#[124, 124]⟩ ++ gp)) (preW z0 z1 z2 z3 3 ++ [[124, 124]])) := HU.out.add (unhide HGG) hm1 (y := [124, 124]) rfl (by decide) (by decide)
          clear HU
          go_wp2_with fail
          go_loop [13, 16] (fun v j => ∃ (m : Nat) (u : ByteArray), m ≤ z3.length ∧ j = .int .i64 m ∧ v = .string u ∧ u.size ≤ (3 + 1) * 281474976710656 + 100 + 20 * m ∧ Hid (Gp (bl u) (preW z0 z1 z2 z3 3 ++ [[124, 124]] ++ z3.take m)) ∧ Hid (AllN (z3.take m))) (fun _ j => z3.length - (intOf j).toNat)
          case atStart => exact ⟨0, u ++ ⟨#[124, 124]⟩ ++ gp, Nat.zero_le _, rfl, rfl, by have y1 : (⟨#[58]⟩ : ByteArray).size = 1 := rfl; have y2 : (⟨#[99, 99]⟩ : ByteArray).size = 2 := rfl; have y3 : (⟨#[124]⟩ : ByteArray).size = 1 := rfl; have y4 : (⟨#[124, 124]⟩ : ByteArray).size = 2 := rfl; simp only [ByteArray.size_append]; omega, (by show Gp _ _; rw [List.take_zero, List.append_nil]; exact HP.out), fun y hy => by cases hy⟩
          case round =>
            obtain ⟨m, v, hm, rfl, rfl, hv, HV, HA⟩ := hrel
            by_cases hlt : m < z3.length
            · obtain ⟨x, hx⟩ : ∃ x, z3[m]? = some x := ⟨z3[m], List.getElem?_eq_getElem hlt⟩
              have hxl : x.length ≤ maxLen := HM3.out x (List.mem_of_getElem? hx)
              rcases unhide S3 with he | ⟨g, o, rfl, hg, hc⟩
              · rw [he] at hlt; simp at hlt
              have cx : wb.cell? ⟨g, o + m, none⟩ = some (.string ⟨x.toArray⟩) := by simpa using hc m 0 x _ hx (by decide) rfl
              have HX := hide (bl_mk x)
              generalize (⟨x.toArray⟩ : ByteArray) = X at cx HX
              have hXz : X.size ≤ maxLen := by rw [← bl_size, unhide HX]; exact hxl
              have HXK := hide hx
              have hlt' : (m : Int) < (z3.length : Int) := by omega
              clear hc hx hxl
              cases hok : okN x
              · have HM : Hid (mayB X = false) := by show _ = _; rw [may_okN, unhide HX]; exact hok
                clear hok
                go_wp2_with fail
                refine (nameMay_any X _ hXz).mono ?_
                rintro e w' ⟨rfl, rfl⟩
                rw [HM.out]
                go_wp2_with fail
                go_ret
                exact ⟨rfl, qb⟩
              · have HM : Hid (mayB X = true) := by show _ = _; rw [may_okN, unhide HX]; exact hok
                have hX16 : X.size ≤ 16 := by rw [← bl_size, unhide HX]; exact (okN_len hok).2.1
                have HG2 : Hid (Gp (bl (v ++ X ++ gp)) (preW z0 z1 z2 z3 3 ++ [[124, 124]] ++ z3.take (m + 1))) := by
                  show Gp _ _
                  rw [take_more (unhide HXK)]
                  exact HV.out.add (unhide HGG) hm1 (unhide HX) (okN_32 hok) (okN_ne hok)
                have HA2 : Hid (AllN (z3.take (m + 1))) := an_take HA.out (unhide HXK) hok
                clear hok HV HA
                go_wp2_with fail
                refine (nameMay_any X _ hXz).mono ?_
                rintro e w' ⟨rfl, rfl⟩
                rw [HM.out]
                go_wp2_with fail
                go_round
                case rel => exact ⟨m + 1, v ++ X ++ gp, by omega, by go_num, rfl, by simp only [ByteArray.size_append]; omega, HG2, HA2⟩
                case measure => simp [intOf]; omega
            · have hmm : m = z3.length := by omega
              have HF : Hid (AllN z3) := by have := HA.out; rw [hmm, List.take_of_length_le (Nat.le_refl _)] at this; exact this
              have HG3 : Hid (Gp (bl v) (preW z0 z1 z2 z3 (3 + 1))) := by
                have := HV.out
                rw [hmm, List.take_of_length_le (Nat.le_refl _)] at this
                exact by show Gp _ (hdW _ _ _); unfold hdW; rw [if_neg hz0]; exact this
              have HOK : Hid (okW z0 z1 z2 z3 (3 + 1) = decide (z3.length ≤ 8)) := by show _ = _; rw [ok_next3, unhide HB]; rfl
              clear HV HA
              go_wp2_with fail
              go_round
              case rel => exact ⟨3 + 1, v, by omega, by go_num, by rw [HOK.out, le8], rfl, by omega, HG3, ⟨fun _ => (HN.out.1 (by omega)), fun _ => (HN.out.2.1 (by omega)), fun _ => (HN.out.2.2.1 (by omega)), fun _ => HF.out⟩⟩
              case measure => simp [intOf]
    · have HBD : Hid (bdR (bl u) = if z0 ≠ [] ∧ z0.length ≤ 8 ∧ z1.length ≤ 8 ∧ z2.length ≤ 8 ∧ z3.length ≤ 8 then some (z0, [99, 99], z1, z2, z3) else none) := by
        show bdW (wdL (bl u)) = _
        rw [HU.out.1, preW_end]
        exact bd_ln (HN.out.1 (by omega)) (by decide +kernel) (HN.out.2.1 (by omega)) (HN.out.2.2.1 (by omega)) (HN.out.2.2.2 (by omega))
      clear HU
      cases hb : okW z0 z1 z2 z3 4
      · have HB : Hid (bdR (bl u) = none) := by show _ = _; rw [HBD.out, if_neg (by rw [← ok_last, hb]; simp)]
        clear HBD hb
        go_wp2_with fail
        refine (build_none u _ (by omega) HB.out).mono ?_
        rintro e w2 ⟨a2, b2, c2, e2, i1, i2, i3, i4, rfl, q2⟩
        have q12 := qb.trans q2
        clear q2
        go_wp2_with (go_at_call 10; refine (num_any _ _).mono ?_; rintro e w' ⟨rfl, rfl⟩)
        go_ret
        exact ⟨rfl, q12⟩
      · have HB : Hid (bdR (bl u) = some (z0, bl ⟨#[99, 99]⟩, z1, z2, z3)) := by show _ = _; rw [HBD.out, if_pos (by rw [← ok_last, hb])]; rfl
        clear HBD hb
        go_wp2_with fail
        refine (build_rv u _ (by omega) HB.out).mono ?_
        rintro e w8 ⟨fo, go, ho, io, fc, gc, hc, ic, rfl, f8, q8⟩
        have q18 := qb.trans q8
        have F8 := hide f8
        have T0 := hide ((unhide S0).q q8)
        have T1 := hide ((unhide S1).q q8)
        have T2 := hide ((unhide S2).q q8)
        have T3 := hide ((unhide S3).q q8)
        clear q8 f8 S0 S1 S2 S3 HB
        go_wp2_with fail
        refine (num_any _ _).mono ?_
        rintro e w9 ⟨rfl, rfl⟩
        go_wp2_with fail
        refine (sameT_any fo a0 fc c0 z0 z0 _ (unhide F8).a (unhide T0) (by omega)).mono ?_
        rintro e wa0 ⟨rfl, q9⟩
        rw [decide_eq_true rfl]
        have qs0 := q9
        clear q9
        go_wp2_with fail
        refine (sameT_any go a1 gc c1 z1 z1 _ ((unhide F8).b.q qs0) ((unhide T1).q qs0) (by omega)).mono ?_
        rintro e wa1 ⟨rfl, q9⟩
        rw [decide_eq_true rfl]
        have qs1 := qs0.trans q9
        clear q9 qs0
        go_wp2_with fail
        refine (sameT_any ho a2 hc c2 z2 z2 _ ((unhide F8).c.q qs1) ((unhide T2).q qs1) (by omega)).mono ?_
        rintro e wa2 ⟨rfl, q9⟩
        rw [decide_eq_true rfl]
        have qs2 := qs1.trans q9
        clear q9 qs1
        go_wp2_with fail
        refine (sameT_any io a3 ic c3 z3 z3 _ ((unhide F8).d.q qs2) ((unhide T3).q qs2) (by omega)).mono ?_
        rintro e wa3 ⟨rfl, q9⟩
        rw [decide_eq_true rfl]
        have qs3 := qs2.trans q9
        clear q9 qs2
        go_wp2_with fail
        go_ret
        exact ⟨rfl, q18.trans qs3⟩

theorem Tryd.laidOut : laidOutB Tryd.prog = true := by kernel_rfl
set_option maxRecDepth 100000 in
theorem wordJoin_lifted (os : Os) (started : os.Started) (H : Type) (enc : TypeId × Value → H) :
    ReturnsInHanded {} Tryd.checked os 5 .any (fun w args => (Rows.wordJoinSpec.pre enc Tryd.prog Tryd.f5 [] false w args ∧ laidMetH Tryd.prog Rows.wordJoinRow.laid w) ∧ sizedMet enc Tryd.prog Tryd.f5 (OpenSpec.ofChange Rows.wordJoinSpec) false w args) (Rows.wordJoinSpec.post enc Tryd.prog Tryd.f5 false true false false) := by
  refine returnsInHanded_of_change_and (C := Tryd.checked) (X := fun w _ => laidMetH Tryd.prog Rows.wordJoinRow.laid w) (fun _ _ _ hh h => h.of_heap hh) Tryd.own started (by kernel_rfl) Tryd.func5
    (ChangeSpec.witness_shaped (enc := enc) (C := Tryd.checked) (os := os) (X := fun w _ => laidMetH Tryd.prog Rows.wordJoinRow.laid w) false (World.laidAll Tryd.prog os Rows.wordJoinRow.laid) #[.slice none 0 0, .slice none 0 0, .slice none 0 0, .slice none 0 0, .int .i64 0] 8 (World.laidAll_os _ _ _)
      (World.shaped_of_ZipB (by kernel_rfl) (by kernel_rfl)) (by kernel_rfl) (by kernel_rfl) (by kernel_rfl)
      (by rw [MakeChecks.laidMetH_plain _ _ _ (by kernel_rfl)]; exact laidMet_laidAll _ (by kernel_rfl) (by kernel_rfl))) ?_
  intro W base args ds gs before hval0 hW _ hsz0 hL _
  have hval : ∀ (j : Nat) t v, Tryd.f5.params[j]? = some t → args[j]? = some v → Value.okWide Tryd.prog W .any base t v := hval0
  have hW' := hW
  obtain ⟨p, q, hA0, hV, rfl, hfz, hnd⟩ := hW
  have hA : DataW.TrodAll enc Tryd.prog W 0 (fun _ => true) true Tryd.f5.params.toList args.toList ds p := hA0
  rw [Tryd.params5] at hA hval
  rw [Tryd.params5] at hsz0
  obtain ⟨v0, vs0, d0, ds0, p0, q0, hargs, rfl, rfl, h0, r0⟩ := trodAll_cons hA
  obtain ⟨v1, vs1, d1, ds1, p1, q1, rfl, rfl, rfl, h1, r1⟩ := trodAll_cons r0
  obtain ⟨v2, vs2, d2, ds2, p2, q2, rfl, rfl, rfl, h2, r2⟩ := trodAll_cons r1
  obtain ⟨v3, vs3, d3, ds3, p3, q3, rfl, rfl, rfl, h3, r3⟩ := trodAll_cons r2
  obtain ⟨v4, vs4, d4, ds4, p4, q4, rfl, rfl, rfl, h4, r4⟩ := trodAll_cons r3
  obtain ⟨rfl, rfl, rfl⟩ := trodAll_nil r4
  obtain rfl : args = #[v0, v1, v2, v3, v4] := by cases args; simp_all
  obtain ⟨rfl, rfl⟩ := trodVars_none hV
  obtain ⟨a0, len0, cap0, rfl⟩ := okWide_slice Tryd.underlying22 (hval 0 22 v0 rfl rfl)
  have k0 := h0
  have lt0 : ∀ x ∈ p0, x.block < W.heap.size := by obtain ⟨m, hm⟩ := k0; exact DataW.trod_lt m _ _ _ hm
  obtain ⟨z0, w0⟩ : ∃ zs, IsRowT W a0 len0 cap0 zs := Tryd.is_rowT h0 (fun elems spare e => by subst e; exact sized_slice hsz0 (j := 0) (t := 22) rfl rfl Tryd.underlying22)
  obtain ⟨a1, len1, cap1, rfl⟩ := okWide_slice Tryd.underlying22 (hval 1 22 v1 rfl rfl)
  have k1 := h1
  have lt1 : ∀ x ∈ p1, x.block < W.heap.size := by obtain ⟨m, hm⟩ := k1; exact DataW.trod_lt m _ _ _ hm
  obtain ⟨z1, w1⟩ : ∃ zs, IsRowT W a1 len1 cap1 zs := Tryd.is_rowT h1 (fun elems spare e => by subst e; exact sized_slice hsz0 (j := 1) (t := 22) rfl rfl Tryd.underlying22)
  obtain ⟨a2, len2, cap2, rfl⟩ := okWide_slice Tryd.underlying22 (hval 2 22 v2 rfl rfl)
  have k2 := h2
  have lt2 : ∀ x ∈ p2, x.block < W.heap.size := by obtain ⟨m, hm⟩ := k2; exact DataW.trod_lt m _ _ _ hm
  obtain ⟨z2, w2⟩ : ∃ zs, IsRowT W a2 len2 cap2 zs := Tryd.is_rowT h2 (fun elems spare e => by subst e; exact sized_slice hsz0 (j := 2) (t := 22) rfl rfl Tryd.underlying22)
  obtain ⟨a3, len3, cap3, rfl⟩ := okWide_slice Tryd.underlying22 (hval 3 22 v3 rfl rfl)
  have k3 := h3
  have lt3 : ∀ x ∈ p3, x.block < W.heap.size := by obtain ⟨m, hm⟩ := k3; exact DataW.trod_lt m _ _ _ hm
  obtain ⟨z3, w3⟩ : ∃ zs, IsRowT W a3 len3 cap3 zs := Tryd.is_rowT h3 (fun elems spare e => by subst e; exact sized_slice hsz0 (j := 3) (t := 22) rfl rfl Tryd.underlying22)
  obtain ⟨a4, rfl, rfl, rfl, w4⟩ := open_int Tryd.underlying3 (hval 4 3 v4 rfl rfl) h4
  clear hA0 hval0
  refine (wordJoin_any W a0 len0 cap0 z0 w0 a1 len1 cap1 z1 w1 a2 len2 cap2 z2 w2 a3 len3 cap3 z3 w3 a4 w4).mono fun e W' ⟨he, bel⟩ => ?_
  subst he
  exact ⟨_, rfl, _, _, _, [], _, [], hW', trodAll_mk1 (shut_bool Tryd.underlying4 _), (trodAll_cons_mk (Below.trod Tryd.laidOut (by kernel_rfl) (of_decide_eq_true (by kernel_rfl)) k0 bel lt0) (trodAll_cons_mk (Below.trod Tryd.laidOut (by kernel_rfl) (of_decide_eq_true (by kernel_rfl)) k1 bel lt1) (trodAll_cons_mk (Below.trod Tryd.laidOut (by kernel_rfl) (of_decide_eq_true (by kernel_rfl)) k2 bel lt2) (trodAll_cons_mk (Below.trod Tryd.laidOut (by kernel_rfl) (of_decide_eq_true (by kernel_rfl)) k3 bel lt3) (trodAll_cons_mk (shut_int Tryd.underlying3 w4) trodAll_mk0))))), rfl, bel.frame _, fun h => by cases h⟩

theorem wordJoin_holds : Rows.WordJoinSaid :=
  OpenClaim.holds_of_wide 5 Tryd.f5 rfl rfl rfl rfl rfl rfl rfl ⟨rfl, rfl, rfl, rfl, rfl⟩ rfl rfl rfl rfl rfl (by kernel_rfl) Tryd.func5 (by kernel_rfl)
    (of_decide_eq_true (by kernel_rfl)) (by unfold Func.isWrapper; first | (rw [if_pos (by decide +kernel)]; kernel_rfl) | (rw [if_neg (by decide +kernel)]; exact ⟨rfl, rfl⟩))
    (fun os started H enc _ => wordJoin_lifted os started H enc)
theorem wordJoin_card : Rows.WordJoinCardSaid :=
  Claim7.holds_tied_plain_at .later [] [.data, .pinned] true (true, "364b3ae959f39fea2705ab4646565d6463e6a647b69f35b583f33bfac7c16e15") false wordJoin_holds (fun _ h => by cases h) (by kernel_rfl) (fun _ h => by cases h) wordJoin_row_tie rfl ⟨rfl, rfl⟩ (by kernel_rfl) rfl
    (fun f fn hf hfn => by
      obtain rfl : f = 5 := Option.some.inj ((show Tryd.prog.funcNamed Rows.wordJoinRow.func = some 5 by kernel_rfl).symm.trans hf) |>.symm
      obtain rfl : fn = Tryd.f5 := (Option.some.inj (Tryd.func5.symm.trans hfn)).symm
      exact ⟨by kernel_rfl, fun j t ht => by
        rw [Tryd.params5] at ht
        have hm : t ∈ [22, 22, 22, 22, 3] := by simpa using Array.mem_of_getElem? ht
        have hall : ([22, 22, 22, 22, 3].all fun u => !Tryd.prog.wantsStandIn u) = true := by kernel_rfl
        exact (show Tryd.prog.wantsStandIn t = false by simpa using List.all_eq_true.1 hall t hm)⟩)
    (by kernel_rfl)
#print axioms wordJoin_card
end Go.Proofs.YtloeileblkleoaaDoor
