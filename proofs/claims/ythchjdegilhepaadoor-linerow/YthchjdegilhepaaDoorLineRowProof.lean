/- The statement on lines, remarks, empty ones and deep ones, one behind the other, holds for every row of numbers; no conditions. -/
import Derived.Test.YthchjdegilhepaaDoorRows
import Derived.Test.YthchjdegilhepaaDoorCards
import Derived.Test.YthchjdegilhepaaDoorTie
import Derived.LaidMore
import Derived.Lay
import Derived.SevenTiedAt
import Derived.Stop.Joined
import Derived.ProofKit
import Derived.OpenShut
import Derived.ShutString
import Derived.ChangeOld
import Derived.Below
import Derived.SizedLaws
import Derived.Test.YthchjdegilhepaaDoorRowPlain
import Derived.Test.YthchjdegilhepaaDoorBitPlain
import Derived.Test.YthchjdegilhepaaDoorStrOne
import Derived.Test.YthchjdegilhepaaDoorLnAwake
import Derived.Test.YthchjdegilhepaaDoorLnMore
namespace Go.Proofs.YthchjdegilhepaaDoor
open Go.ChangeShapes Go.WideShapes Go.ChangeAt Go.RowKit

def chunk (r : Nat) (c : UInt8) : List UInt8 :=
  match r with
  | 0 => [c, 10]
  | 1 => [32, 32, c, 32, 10]
  | 2 => [10]
  | 3 => [32, 32, 35, 32, c, 10]
  | 4 => [c, 36, 10, 32, 32, 32, c, 10]
  | 5 => [c, 36, 36, 10]
  | 6 => [32, 32, 32, 10]
  | _ => [32, c, 36, 10, 36, 10, 32, 32, 120, 10]
def chLn (r : Nat) (c : UInt8) : List Ln :=
  match r with
  | 0 => [(false, [c])]
  | 1 => [(true, [c])]
  | 2 => []
  | 3 => []
  | 4 => [(false, [c, c])]
  | 5 => [(false, [c, 36, 36])]
  | 6 => []
  | _ => [(true, [c, 120])]

theorem ch_all : ∀ (p : Fin 16) (r : Fin 8), lnT (chunk r.val (UInt8.ofNat (97 + p.val))) = some (chLn r.val (UInt8.ofNat (97 + p.val))) := by decide +kernel

theorem ch_at {c : UInt8} {p : Nat} (hc : (c.toNat : Int) = 97 + (p : Int)) (hp : p < 16) (r : Nat) (hr : r < 8) : lnT (chunk r c) = some (chLn r c) := by
  have e : c = UInt8.ofNat (97 + p) := UInt8.toNat_inj.1 (by rw [UInt8.toNat_ofNat']; omega)
  rw [e]; exact ch_all ⟨p, hp⟩ ⟨r, hr⟩

/-- The state of the walk. -/
def LR (t : ByteArray) (ls : List Ln) : Prop := lnT (bl t) = some ls
theorem LR.step {t u : ByteArray} {ls : List Ln} {c : UInt8} {p r : Nat} (h : LR t ls) (hc : (c.toNat : Int) = 97 + (p : Int)) (hp : p < 16) (hr : r < 8) (hu : bl u = bl t ++ chunk r c) : LR u (ls ++ chLn r c) := by
  show lnT (bl u) = _
  rw [hu]
  exact lnT_app h (ch_at hc hp r hr)

theorem OwnL.snoc' {w : World} {B cap : Nat} {ao : Option Addr} {ps : List Ln} {b : Bool} {x : ByteArray} {l : List UInt8} (hx : bl x = l) (h : w.ownsRow B 39 2 (.slice ao (ps.length + 1) cap) (ps.length + 1) (lay lv ps ++ [.bool b, .string x])) : OwnL w B ao cap (ps ++ [(b, l)]) := by
  subst hx
  exact OwnL.snoc (p := (b, bl x)) (by rw [mk_bl]; exact h)

set_option maxRecDepth 20000 in
set_option maxHeartbeats 8000000 in
theorem lineRow_any (w : World) (a : Option Addr) (len cap : Nat) (z : List Int) (hrow : IsRow .i64 w a len cap z) :
    Calls Tryd.prog 5 #[.slice a len cap] w fun e w' => e = .returned (.bool true) ∧ Q w w' := by
  obtain ⟨i0, hi, hz0, hz1, hz2⟩ := info_parts Tryd.infoL
  obtain ⟨hlc, hcm, hzl, hcells, _⟩ := hrow
  unfold maxLen at hcm
  go_enter Tryd.func5, Tryd.ntmps5
  go_wp2_with fail
  refine (lnawake_any _).mono ?_
  rintro e w1 ⟨rfl, q1⟩
  go_wp2_with fail
  go_loopw [3, 4, 5] (fun sv v i wr => ∃ (k : Nat) (ls : List Ln) (t : ByteArray) (ao : Option Addr) (cp : Nat), k ≤ len ∧ k ≤ 30 ∧ i = .int .i64 k ∧ sv = .string t ∧ v = .slice ao ls.length cp ∧ ls.length ≤ k ∧ t.size ≤ k * 10 ∧ OwnL wr w1.heap.size ao cp ls ∧ Q w1 wr ∧ Hid (LR t ls)) (fun _ _ i _ => len - (intOf i).toNat)
  case atStart => exact ⟨0, [], ⟨#[]⟩, none, 0, by omega, by omega, rfl, rfl, rfl, by simp, by decide, World.ownsRow_nil _ _ _ _, Q.refl _, by show lnT [] = some []; decide +kernel⟩
  case round =>
    obtain ⟨k, ls, t, ao, cp, hk, hk30, rfl, rfl, rfl, hlk, hts, hown, hq, HL⟩ := hrel
    have hyc := own_le hown
    have hqs := hq.size
    by_cases hlt : k < len ∧ k < 30
    · obtain ⟨hlt, hlt2⟩ := hlt
      rcases hcells with h0 | ⟨b, o, rfl, hb, hcell⟩
      · omega
      have hc : wr.cell? ⟨b, o + k, none⟩ = some (.int .i64 (z.getD k 0)) := ((q1.trans hq).cell (p := ⟨b, o + k, none⟩) hb).trans (hcell k hlt)
      generalize z.getD k 0 = n at hc
      have hc2 : ∀ ob, (wr.alloc ob).cell? ⟨b, o + k, none⟩ = some (.int .i64 n) := fun ob => by
        rw [World.cell?_alloc_old _ _ _ (Nat.ne_of_lt (World.block_lt_of_cell? _ _ hc))]; exact hc
      have hlt3 : (k : Int) < 30 := by omega
      have h15 := and15 (k : Int)
      obtain ⟨p, hp⟩ : ∃ p : Nat, (k : Int) % 16 = (p : Int) := ⟨((k : Int) % 16).toNat, by omega⟩
      have hp16 : p < 16 := by omega
      rw [hp] at h15
      clear hp hcell
      obtain ⟨c, hcc, hcv⟩ := str_int (97 + (p : Int)) (by omega) (by omega)
      have HCC := hide hcc
      clear hcc
      obtain ⟨r, hr8, hr⟩ := umod n 8 (by decide) (by decide)
      have hr' : wrap64 ((IntKind.u64.wrap n).tmod 8) = (r : Int) := hr
      clear hr
      rcases (by omega : r = 0 ∨ r = 1 ∨ r = 2 ∨ r = 3 ∨ r = 4 ∨ r = 5 ∨ r = 6 ∨ r = 7) with rfl | rfl | rfl | rfl | rfl | rfl | rfl | rfl
      · have HAZ : Hid ((t ++ ⟨#[c]⟩ ++ ⟨#[10]⟩).size = t.size + 2) := by show _ = _; rw [← bl_size]; simp only [bl_app, List.length_append, bl_size]; rfl
        have HS := hide (LR.step (u := t ++ ⟨#[c]⟩ ++ ⟨#[10]⟩) (r := 0) HL.out (unhide HCC) hp16 (by decide) (by simp only [bl_app, List.append_assoc]; rfl))
        clear HL
        go_wp2_with (at_builtin; refine wpList_append_lies _ rfl _ _ 22 rfl w1.heap.size 39 i0 (.agg #[.bool false, .string ByteArray.empty]) 2 24 Tryd.underlying22 hi hz0 hz1 hz2 rfl (by decide) _ _ _ rfl ((hown.alloc _).alloc _) ⟨wr.heap.size + 1, 0, none⟩ 1 1 [.bool false, .string ⟨#[c]⟩] rfl rfl (news_at (by simp) #[.bool false, .string ⟨#[c]⟩] _) (one_bs _ _) (by decide) (by unfold maxLen; omega) (by omega) (le_alloc (le_alloc hqs _) _) (wr.heap.size + 2) (by simp) ?_)
        intro g' cp' w2 hown2 hgrow hor hglt
        have hq2 : Q w1 w2 := Below.grown ((hq.alloc _).alloc _) hgrow (le_alloc (le_alloc hqs _) _) (fun r hr => (hown.lt r hr).1)
        have HO := hide (OwnL.snoc' (l := [c]) (by rfl) hown2)
        clear hown2 hgrow hown hor
        go_wp2
        go_roundw
        case rel =>
          refine ⟨k + 1, ls ++ [(false, [c])], _, some ⟨g', 0, none⟩, cp', by omega, by omega, by go_num, rfl, ?_, ?_, ?_, unhide HO, hq2, ?_⟩
          · simp
          · simp; omega
          · have := HAZ.out; omega
          · exact HS
        case measure => simp [intOf]; omega
      · have HAZ : Hid ((t ++ ⟨#[32, 32]⟩ ++ ⟨#[c]⟩ ++ ⟨#[32, 10]⟩).size = t.size + 5) := by show _ = _; rw [← bl_size]; simp only [bl_app, List.length_append, bl_size]; rfl
        have HS := hide (LR.step (u := t ++ ⟨#[32, 32]⟩ ++ ⟨#[c]⟩ ++ ⟨#[32, 10]⟩) (r := 1) HL.out (unhide HCC) hp16 (by decide) (by simp only [bl_app, List.append_assoc]; rfl))
        clear HL
        go_wp2_with (at_builtin; refine wpList_append_lies _ rfl _ _ 22 rfl w1.heap.size 39 i0 (.agg #[.bool false, .string ByteArray.empty]) 2 24 Tryd.underlying22 hi hz0 hz1 hz2 rfl (by decide) _ _ _ rfl ((hown.alloc _).alloc _) ⟨wr.heap.size + 1, 0, none⟩ 1 1 [.bool true, .string ⟨#[c]⟩] rfl rfl (news_at (by simp) #[.bool true, .string ⟨#[c]⟩] _) (one_bs _ _) (by decide) (by unfold maxLen; omega) (by omega) (le_alloc (le_alloc hqs _) _) (wr.heap.size + 2) (by simp) ?_)
        intro g' cp' w2 hown2 hgrow hor hglt
        have hq2 : Q w1 w2 := Below.grown ((hq.alloc _).alloc _) hgrow (le_alloc (le_alloc hqs _) _) (fun r hr => (hown.lt r hr).1)
        have HO := hide (OwnL.snoc' (l := [c]) (by rfl) hown2)
        clear hown2 hgrow hown hor
        go_wp2
        go_roundw
        case rel =>
          refine ⟨k + 1, ls ++ [(true, [c])], _, some ⟨g', 0, none⟩, cp', by omega, by omega, by go_num, rfl, ?_, ?_, ?_, unhide HO, hq2, ?_⟩
          · simp
          · simp; omega
          · have := HAZ.out; omega
          · exact HS
        case measure => simp [intOf]; omega
      · have HAZ : Hid ((t ++ ⟨#[10]⟩).size = t.size + 1) := by show _ = _; rw [← bl_size]; simp only [bl_app, List.length_append, bl_size]; rfl
        have HS := hide (LR.step (u := t ++ ⟨#[10]⟩) (r := 2) HL.out (unhide HCC) hp16 (by decide) (by simp only [bl_app]; rfl))
        clear HL
        go_wp2_with fail
        go_roundw
        case rel =>
          refine ⟨k + 1, ls, _, ao, cp, by omega, by omega, by go_num, rfl, rfl, by omega, ?_, hown.alloc _, hq.alloc _, ?_⟩
          · have := HAZ.out; omega
          · have := unhide HS; show LR _ _; rw [show chLn 2 c = [] from rfl, List.append_nil] at this; exact this
        case measure => simp [intOf]; omega
      · have HAZ : Hid ((t ++ ⟨#[32, 32, 35, 32]⟩ ++ ⟨#[c]⟩ ++ ⟨#[10]⟩).size = t.size + 6) := by show _ = _; rw [← bl_size]; simp only [bl_app, List.length_append, bl_size]; rfl
        have HS := hide (LR.step (u := t ++ ⟨#[32, 32, 35, 32]⟩ ++ ⟨#[c]⟩ ++ ⟨#[10]⟩) (r := 3) HL.out (unhide HCC) hp16 (by decide) (by simp only [bl_app, List.append_assoc]; rfl))
        clear HL
        go_wp2_with fail
        go_roundw
        case rel =>
          refine ⟨k + 1, ls, _, ao, cp, by omega, by omega, by go_num, rfl, rfl, by omega, ?_, hown.alloc _, hq.alloc _, ?_⟩
          · have := HAZ.out; omega
          · have := unhide HS; show LR _ _; rw [show chLn 3 c = [] from rfl, List.append_nil] at this; exact this
        case measure => simp [intOf]; omega
      · have HAZ : Hid ((t ++ ⟨#[c]⟩ ++ ⟨#[36, 10, 32, 32, 32]⟩ ++ ⟨#[c]⟩ ++ ⟨#[10]⟩).size = t.size + 8) := by show _ = _; rw [← bl_size]; simp only [bl_app, List.length_append, bl_size]; rfl
        have HS := hide (LR.step (u := t ++ ⟨#[c]⟩ ++ ⟨#[36, 10, 32, 32, 32]⟩ ++ ⟨#[c]⟩ ++ ⟨#[10]⟩) (r := 4) HL.out (unhide HCC) hp16 (by decide) (by simp only [bl_app, List.append_assoc]; rfl))
        clear HL
        go_wp2_with (at_builtin; refine wpList_append_lies _ rfl _ _ 22 rfl w1.heap.size 39 i0 (.agg #[.bool false, .string ByteArray.empty]) 2 24 Tryd.underlying22 hi hz0 hz1 hz2 rfl (by decide) _ _ _ rfl ((hown.alloc _).alloc _) ⟨wr.heap.size + 1, 0, none⟩ 1 1 [.bool false, .string (⟨#[c]⟩ ++ ⟨#[c]⟩)] rfl rfl (news_at (by simp) #[.bool false, .string (⟨#[c]⟩ ++ ⟨#[c]⟩)] _) (one_bs _ _) (by decide) (by unfold maxLen; omega) (by omega) (le_alloc (le_alloc hqs _) _) (wr.heap.size + 2) (by simp) ?_)
        intro g' cp' w2 hown2 hgrow hor hglt
        have hq2 : Q w1 w2 := Below.grown ((hq.alloc _).alloc _) hgrow (le_alloc (le_alloc hqs _) _) (fun r hr => (hown.lt r hr).1)
        have HO := hide (OwnL.snoc' (l := [c, c]) (by rw [bl_app]; rfl) hown2)
        clear hown2 hgrow hown hor
        go_wp2
        go_roundw
        case rel =>
          refine ⟨k + 1, ls ++ [(false, [c, c])], _, some ⟨g', 0, none⟩, cp', by omega, by omega, by go_num, rfl, ?_, ?_, ?_, unhide HO, hq2, ?_⟩
          · simp
          · simp; omega
          · have := HAZ.out; omega
          · exact HS
        case measure => simp [intOf]; omega
      · have HAZ : Hid ((t ++ ⟨#[c]⟩ ++ ⟨#[36, 36, 10]⟩).size = t.size + 4) := by show _ = _; rw [← bl_size]; simp only [bl_app, List.length_append, bl_size]; rfl
        have HS := hide (LR.step (u := t ++ ⟨#[c]⟩ ++ ⟨#[36, 36, 10]⟩) (r := 5) HL.out (unhide HCC) hp16 (by decide) (by simp only [bl_app, List.append_assoc]; rfl))
        clear HL
        go_wp2_with (at_builtin; refine wpList_append_lies _ rfl _ _ 22 rfl w1.heap.size 39 i0 (.agg #[.bool false, .string ByteArray.empty]) 2 24 Tryd.underlying22 hi hz0 hz1 hz2 rfl (by decide) _ _ _ rfl ((hown.alloc _).alloc _) ⟨wr.heap.size + 1, 0, none⟩ 1 1 [.bool false, .string (⟨#[c]⟩ ++ ⟨#[36, 36]⟩)] rfl rfl (news_at (by simp) #[.bool false, .string (⟨#[c]⟩ ++ ⟨#[36, 36]⟩)] _) (one_bs _ _) (by decide) (by unfold maxLen; omega) (by omega) (le_alloc (le_alloc hqs _) _) (wr.heap.size + 2) (by simp) ?_)
        intro g' cp' w2 hown2 hgrow hor hglt
        have hq2 : Q w1 w2 := Below.grown ((hq.alloc _).alloc _) hgrow (le_alloc (le_alloc hqs _) _) (fun r hr => (hown.lt r hr).1)
        have HO := hide (OwnL.snoc' (l := [c, 36, 36]) (by rw [bl_app]; rfl) hown2)
        clear hown2 hgrow hown hor
        go_wp2
        go_roundw
        case rel =>
          refine ⟨k + 1, ls ++ [(false, [c, 36, 36])], _, some ⟨g', 0, none⟩, cp', by omega, by omega, by go_num, rfl, ?_, ?_, ?_, unhide HO, hq2, ?_⟩
          · simp
          · simp; omega
          · have := HAZ.out; omega
          · exact HS
        case measure => simp [intOf]; omega
      · have HAZ : Hid ((t ++ ⟨#[32, 32, 32, 10]⟩).size = t.size + 4) := by show _ = _; rw [← bl_size]; simp only [bl_app, List.length_append, bl_size]; rfl
        have HS := hide (LR.step (u := t ++ ⟨#[32, 32, 32, 10]⟩) (r := 6) HL.out (unhide HCC) hp16 (by decide) (by simp only [bl_app]; rfl))
        clear HL
        go_wp2_with fail
        go_roundw
        case rel =>
          refine ⟨k + 1, ls, _, ao, cp, by omega, by omega, by go_num, rfl, rfl, by omega, ?_, hown.alloc _, hq.alloc _, ?_⟩
          · have := HAZ.out; omega
          · have := unhide HS; show LR _ _; rw [show chLn 6 c = [] from rfl, List.append_nil] at this; exact this
        case measure => simp [intOf]; omega
      · have HAZ : Hid ((t ++ ⟨#[32]⟩ ++ ⟨#[c]⟩ ++ ⟨#[36, 10, 36, 10, 32, 32, 120, 10]⟩).size = t.size + 10) := by show _ = _; rw [← bl_size]; simp only [bl_app, List.length_append, bl_size]; rfl
        have HS := hide (LR.step (u := t ++ ⟨#[32]⟩ ++ ⟨#[c]⟩ ++ ⟨#[36, 10, 36, 10, 32, 32, 120, 10]⟩) (r := 7) HL.out (unhide HCC) hp16 (by decide) (by simp only [bl_app, List.append_assoc]; rfl))
        clear HL
        go_wp2_with (at_builtin; refine wpList_append_lies _ rfl _ _ 22 rfl w1.heap.size 39 i0 (.agg #[.bool false, .string ByteArray.empty]) 2 24 Tryd.underlying22 hi hz0 hz1 hz2 rfl (by decide) _ _ _ rfl ((hown.alloc _).alloc _) ⟨wr.heap.size + 1, 0, none⟩ 1 1 [.bool true, .string (⟨#[c]⟩ ++ ⟨#[120]⟩)] rfl rfl (news_at (by simp) #[.bool true, .string (⟨#[c]⟩ ++ ⟨#[120]⟩)] _) (one_bs _ _) (by decide) (by unfold maxLen; omega) (by omega) (le_alloc (le_alloc hqs _) _) (wr.heap.size + 2) (by simp) ?_)
        intro g' cp' w2 hown2 hgrow hor hglt
        have hq2 : Q w1 w2 := Below.grown ((hq.alloc _).alloc _) hgrow (le_alloc (le_alloc hqs _) _) (fun r hr => (hown.lt r hr).1)
        have HO := hide (OwnL.snoc' (l := [c, 120]) (by rw [bl_app]; rfl) hown2)
        clear hown2 hgrow hown hor
        go_wp2
        go_roundw
        case rel =>
          refine ⟨k + 1, ls ++ [(true, [c, 120])], _, some ⟨g', 0, none⟩, cp', by omega, by omega, by go_num, rfl, ?_, ?_, ?_, unhide HO, hq2, ?_⟩
          · simp
          · simp; omega
          · have := HAZ.out; omega
          · exact HS
        case measure => simp [intOf]; omega
    · have hl30 : t.size ≤ 300 := by omega
      have HF : Hid (lnS (bl t) = ls ∧ lnE (bl t) = 0) := ln_good (lnC_of HL.out (by rw [bl_size]; omega))
      have hge : (len : Int) ≤ (k : Int) ∨ ((k : Int) < (len : Int) ∧ (30 : Int) ≤ (k : Int)) := by omega
      clear HL
      have HO := hide hown
      clear hown hlt
      rcases hge with hge | ⟨hge1, hge2⟩
      all_goals
        go_wp2_with fail
        refine (cutl_at t _ (by unfold maxLen; omega) HF.out).mono ?_
        rintro e w2 ⟨ao2, cap2, rfl, hown2, q2⟩
        have HR1 := hide (OwnL.row hown2)
        have HR2 := hide ((OwnL.row (unhide HO)).q q2)
        clear hown2
        go_wp2_with fail
        refine (num_any _ _).mono ?_
        rintro e w3 ⟨rfl, rfl⟩
        go_wp2_with fail
        refine (sameL_any ao2 ao cap2 cp ls ls _ (unhide HR1) (unhide HR2) (by omega)).mono ?_
        rintro e w4 ⟨rfl, q4⟩
        rw [decide_eq_true (rfl : ls = ls)]
        go_wp2_with fail
        go_ret
        exact ⟨rfl, q1.trans (hq.trans (q2.trans q4))⟩

theorem Tryd.laidOut : laidOutB Tryd.prog = true := by kernel_rfl
set_option maxRecDepth 100000 in
theorem lineRow_lifted (os : Os) (started : os.Started) (H : Type) (enc : TypeId × Value → H) :
    ReturnsInHanded {} Tryd.checked os 5 .any (fun w args => (Rows.lineRowSpec.pre enc Tryd.prog Tryd.f5 [] false w args ∧ laidMetH Tryd.prog Rows.lineRowRow.laid w) ∧ sizedMet enc Tryd.prog Tryd.f5 (OpenSpec.ofChange Rows.lineRowSpec) false w args) (Rows.lineRowSpec.post enc Tryd.prog Tryd.f5 false true false false) := by
  refine returnsInHanded_of_change_and (C := Tryd.checked) (X := fun w _ => laidMetH Tryd.prog Rows.lineRowRow.laid w) (fun _ _ _ hh h => h.of_heap hh) Tryd.own started (by kernel_rfl) Tryd.func5
    (ChangeSpec.witness_shaped (enc := enc) (C := Tryd.checked) (os := os) (X := fun w _ => laidMetH Tryd.prog Rows.lineRowRow.laid w) false (World.laidAll Tryd.prog os Rows.lineRowRow.laid) #[.slice none 0 0] 8 (World.laidAll_os _ _ _)
      (World.shaped_of_ZipB (by kernel_rfl) (by kernel_rfl)) (by kernel_rfl) (by kernel_rfl) (by kernel_rfl)
      (by rw [MakeChecks.laidMetH_plain _ _ _ (by kernel_rfl)]; exact laidMet_laidAll _ (by kernel_rfl) (by kernel_rfl))) ?_
  intro W base args ds gs before hval0 hW _ hsz0 hL _
  have hval : ∀ (j : Nat) t v, Tryd.f5.params[j]? = some t → args[j]? = some v → Value.okWide Tryd.prog W .any base t v := hval0
  have hW' := hW
  obtain ⟨p, q, hA0, hV, rfl, hfz, hnd⟩ := hW
  have hA : DataW.TrodAll enc Tryd.prog W 0 (fun _ => true) true Tryd.f5.params.toList args.toList ds p := hA0
  rw [Tryd.params5] at hA hval
  obtain ⟨v0, vs0, d0, ds0, p0, q0, hargs, rfl, rfl, h0, r0⟩ := trodAll_cons hA
  obtain ⟨rfl, rfl, rfl⟩ := trodAll_nil r0
  obtain rfl : args = #[v0] := by cases args; simp_all
  obtain ⟨rfl, rfl⟩ := trodVars_none hV
  obtain ⟨a0, len0, cap0, rfl⟩ := okWide_slice Tryd.underlying35 (hval 0 35 v0 rfl rfl)
  have k0 := h0
  have lt0 : ∀ x ∈ p0, x.block < W.heap.size := by obtain ⟨m, hm⟩ := k0; exact DataW.trod_lt m _ _ _ hm
  obtain ⟨z0, w0⟩ : ∃ zs, IsRow .i64 W a0 len0 cap0 zs := is_row Tryd.underlying35 Tryd.underlying3 (by kernel_rfl) h0
  clear hA0 hval0
  refine (lineRow_any W a0 len0 cap0 z0 w0).mono fun e W' ⟨he, bel⟩ => ?_
  subst he
  exact ⟨_, rfl, _, _, _, [], _, [], hW', trodAll_mk1 (shut_bool Tryd.underlying4 _), (trodAll_cons_mk (Below.trod Tryd.laidOut (by kernel_rfl) (of_decide_eq_true (by kernel_rfl)) k0 bel lt0) trodAll_mk0), rfl, bel.frame _, fun h => by cases h⟩

theorem lineRow_holds : Rows.LineRowSaid :=
  OpenClaim.holds_of_wide 5 Tryd.f5 rfl rfl rfl rfl rfl rfl rfl ⟨rfl, rfl, rfl, rfl, rfl⟩ rfl rfl rfl rfl rfl (by kernel_rfl) Tryd.func5 (by kernel_rfl)
    (of_decide_eq_true (by kernel_rfl)) (by unfold Func.isWrapper; first | (rw [if_pos (by decide +kernel)]; kernel_rfl) | (rw [if_neg (by decide +kernel)]; exact ⟨rfl, rfl⟩))
    (fun os started H enc _ => lineRow_lifted os started H enc)
theorem lineRow_card : Rows.LineRowCardSaid :=
  Claim7.holds_tied_plain_at .later [] [.data, .pinned] true (true, "be002fb75483f9dd850ebf38b52f8a9eb6525c7705505c172b325be768154826") false lineRow_holds (fun _ h => by cases h) (by kernel_rfl) (fun _ h => by cases h) lineRow_row_tie rfl ⟨rfl, rfl⟩ (by kernel_rfl) rfl
    (fun f fn hf hfn => by
      obtain rfl : f = 5 := Option.some.inj ((show Tryd.prog.funcNamed Rows.lineRowRow.func = some 5 by kernel_rfl).symm.trans hf) |>.symm
      obtain rfl : fn = Tryd.f5 := (Option.some.inj (Tryd.func5.symm.trans hfn)).symm
      exact ⟨by kernel_rfl, fun j t ht => by
        rw [Tryd.params5] at ht
        have hm : t ∈ [35] := by simpa using Array.mem_of_getElem? ht
        have hall : ([35].all fun u => !Tryd.prog.wantsStandIn u) = true := by kernel_rfl
        exact (show Tryd.prog.wantsStandIn t = false by simpa using List.all_eq_true.1 hall t hm)⟩)
    (by kernel_rfl)
#print axioms lineRow_card
end Go.Proofs.YthchjdegilhepaaDoor
