/- Logs whose answers are known; the fixed logs that every statement on logs asks of first; the conditions: the library's tables lie as they were laid. -/
import Derived.Test.YtgbegdgacjodcaaGreatDoorLoText
import Derived.Test.YtgbegdgacjodcaaGreatDoorLoLoad
import Derived.Test.YtgbegdgacjodcaaGreatDoorLoCompact
import Derived.Test.YtgbegdgacjodcaaGreatDoorLoSame
import Derived.Test.YtgbegdgacjodcaaGreatDoorNmWalks
import Derived.Deep.RegionHeld3
import Derived.Deep.Cut
namespace Go.Proofs.YtgbegdgacjodcaaGreatDoor
open Go.RowKit

def awA : Rc := ([97], 1, [120])
def awB : Rc := ([98], 2, [121])
def awC : Rc := ([97], 3, [122])
def awX : Tx := [97, 9, 49, 9, 120, 10, 98, 9, 50, 9, 121, 10, 97, 9, 51, 9, 122, 10]
theorem awl1 : loT [awA, awB, awC] = awX ∧ loE [awA, awB, awC] = 0 := by decide +kernel
theorem awl2 : laV [awA, awB, awC] [97] = awC ∧ laB [awA, awB, awC] [97] = true := by decide +kernel
theorem awl3 : laV [awA] [98] = ([], 0, []) ∧ laB [awA] [98] = false := by decide +kernel
theorem awl4 : cpL [awA, awB, awC] = [awB, awC] := by decide +kernel
theorem awl5 : loT [([], 0, [])] = [] ∧ loE [([], 0, [])] = 1400 := by decide +kernel
theorem awl6 : ldL [97, 9, 49, 9, 120, 10, 98, 9, 50] = [awA] := by decide +kernel
theorem awl7 : loOk [awB, awC] = true := by decide +kernel
theorem rsz_of {rs : Rs} (h : rs.all (fun r => decide (r.1.length ≤ 4096) && decide (r.2.2.length ≤ 4096)) = true) : RsZ rs := by
  intro r hr
  have := List.all_eq_true.1 h r hr
  simp at this
  unfold RcZ maxLen; omega

theorem text_lit {tb : ByteArray} {m : Int} {k : Nat} (rs : Rs) (ao : Option Addr) (cap : Nat) (w : World) (h : (⟨(loT rs).toArray⟩ : ByteArray) = tb ∧ loE rs = m ∧ rs.length = k) (hv : Vs w) (hr : RowR w ao rs) (hz : RsZ rs) (hs : rs.length ≤ 4096) :
    Calls Tryz.prog 7 #[.slice ao k cap] w fun e w' => e = .returned (.tuple #[.string tb, .int .i64 m]) ∧ Q w w' := by
  obtain ⟨rfl, rfl, rfl⟩ := h
  exact loText_any rs ao cap w hv hr hz (by omega)
theorem last_lit {x1 x3 : ByteArray} {t : Int} {b : Bool} {k : Nat} (rs : Rs) (n : ByteArray) (ao : Option Addr) (cap : Nat) (w : World)
    (h : (⟨(laV rs (bl n)).1.toArray⟩ : ByteArray) = x1 ∧ (laV rs (bl n)).2.1 = t ∧ (⟨(laV rs (bl n)).2.2.toArray⟩ : ByteArray) = x3 ∧ laB rs (bl n) = b ∧ rs.length = k) (hr : RowR w ao rs) (hz : RsZ rs) (hs : rs.length ≤ 4096) :
    Calls Tryz.prog 10 #[.slice ao k cap, .string n] w fun e w' => e = .returned (.tuple #[.agg #[.string x1, .int .i64 t, .string x3], .bool b]) ∧ Q w w' := by
  obtain ⟨rfl, rfl, rfl, rfl, rfl⟩ := h
  exact loLast_any rs n ao cap w hr hz (by omega)
theorem comp_lit {gs : Rs} {m : Int} {k j : Nat} (rs : Rs) (ao : Option Addr) (cap : Nat) (w : World) (h : cpL rs = gs ∧ loE rs = m ∧ rs.length = k ∧ gs.length = j) (hr : RowR w ao rs) (hz : RsZ rs) (hs : rs.length ≤ 4096) :
    Calls Tryz.prog 12 #[.slice ao k cap] w fun e w' => ∃ bo bcap, e = .returned (.tuple #[.slice bo j bcap, .int .i64 m]) ∧ OwnR w' w.heap.size bo bcap gs ∧ Q w w' := by
  obtain ⟨rfl, rfl, rfl, rfl⟩ := h
  exact loCompact_any rs ao cap w hr hz (by omega)
theorem load_lit {gs : Rs} {k : Nat} (s : ByteArray) (w : World) (h : ldL (bl s) = gs ∧ gs.length = k) (hv : Vs w) (hs : s.size ≤ 4096) :
    Calls Tryz.prog 9 #[.string s] w fun e w' => ∃ ao cap, e = .returned (.slice ao k cap) ∧ OwnR w' w.heap.size ao cap gs ∧ Q w w' := by
  obtain ⟨rfl, rfl⟩ := h
  exact loLoad_any s w hv (by omega)
theorem lmay_lit {v : Bool} {k : Nat} (rs : Rs) (ao : Option Addr) (cap : Nat) (w : World) (h : loOk rs = v ∧ rs.length = k) (hr : RowR w ao rs) (hz : RsZ rs) (hs : rs.length ≤ 4096) :
    Calls Tryz.prog 17 #[.slice ao k cap] w fun e w' => e = .returned (.bool v) ∧ Q w w' := by
  obtain ⟨rfl, rfl⟩ := h
  exact loMay_any rs ao cap w hr hz (by omega)
theorem sameR_lit {v : Bool} {k j : Nat} (ao bo : Option Addr) (cap bcap : Nat) (ps qs : Rs) (w : World) (h : decide (ps = qs) = v ∧ ps.length = k ∧ qs.length = j) (ha : RowR w ao ps) (hb : RowR w bo qs) (hn : ps.length ≤ 4096) :
    Calls Tryz.prog 15 #[.slice ao k cap, .slice bo j bcap] w fun e w' => e = .returned (.bool v) ∧ Q w w' := by
  obtain ⟨rfl, rfl, rfl⟩ := h
  exact sameR_any ao bo cap bcap ps qs w ha hb (by unfold maxLen; omega)

theorem row_at {u : World} {n : Nat} (h : n = u.heap.size) (cs : Array Value) (rs : Rs) (e : cs.toList = lay rv rs) : RowR (u.alloc (.cells cs 31)) (some ⟨n, 0, none⟩) rs := by
  subst h
  exact rowG_block rv_len u cs _ rs e

set_option maxRecDepth 20000 in
set_option maxHeartbeats 16000000 in
theorem loawake_any (w : World) (hv : Vs w) : Calls Tryz.prog 21 #[] w fun e w' => e = .returned (.bool true) ∧ Q w w' := by
  have heq := eqR
  have hgd := Tryz.guardR
  have Z3 : Hid (RsZ [awA, awB, awC]) := rsz_of (by decide +kernel)
  have Z2 : Hid (RsZ [awB, awC]) := rsz_of (by decide +kernel)
  have Z1 : Hid (RsZ [awA]) := rsz_of (by decide +kernel)
  have Z0 : Hid (RsZ [([], 0, [])]) := rsz_of (by decide +kernel)
  have b1 := bxR_b w ⟨#[97]⟩ 1 ⟨#[120]⟩
  have q1 := bxR_q w ⟨#[97]⟩ 1 ⟨#[120]⟩
  have b2 := bxR_b (bxR w ⟨#[97]⟩ 1 ⟨#[120]⟩) ⟨#[98]⟩ 2 ⟨#[121]⟩
  have q2 := bxR_q (bxR w ⟨#[97]⟩ 1 ⟨#[120]⟩) ⟨#[98]⟩ 2 ⟨#[121]⟩
  have b3 := bxR_b (bxR (bxR w ⟨#[97]⟩ 1 ⟨#[120]⟩) ⟨#[98]⟩ 2 ⟨#[121]⟩) ⟨#[97]⟩ 3 ⟨#[122]⟩
  have q3 := bxR_q (bxR (bxR w ⟨#[97]⟩ 1 ⟨#[120]⟩) ⟨#[98]⟩ 2 ⟨#[121]⟩) ⟨#[97]⟩ 3 ⟨#[122]⟩
  have s1 : (bxR w ⟨#[97]⟩ 1 ⟨#[120]⟩).heap.size = w.heap.size + 1 := size_alloc _ _
  have s2 : (bxR (bxR w ⟨#[97]⟩ 1 ⟨#[120]⟩) ⟨#[98]⟩ 2 ⟨#[121]⟩).heap.size = w.heap.size + 1 + 1 := by unfold bxR; rw [size_alloc, size_alloc]
  rw [s1] at b2
  rw [s2] at b3
  have HSZ : Hid (w.heap.size + 1 + 1 + 1 = (bxR (bxR (bxR w ⟨#[97]⟩ 1 ⟨#[120]⟩) ⟨#[98]⟩ 2 ⟨#[121]⟩) ⟨#[97]⟩ 3 ⟨#[122]⟩).heap.size) := by show _ = _; unfold bxR; rw [size_alloc, size_alloc, size_alloc]
  have HQ0 := hide (q1.trans (q2.trans q3))
  generalize hN : w.heap.size = N at *
  have HSC : Hid (∀ u, Q (bxR (bxR (bxR w ⟨#[97]⟩ 1 ⟨#[120]⟩) ⟨#[98]⟩ 2 ⟨#[121]⟩) ⟨#[97]⟩ 3 ⟨#[122]⟩) u → u.cell? ⟨N, 0, none⟩ = some (.string ⟨#[97]⟩) ∧ u.cell? ⟨N, 1, none⟩ = some (.int .i64 1) ∧ u.cell? ⟨N, 2, none⟩ = some (.string ⟨#[120]⟩) ∧ u.cell? ⟨N + 1, 0, none⟩ = some (.string ⟨#[98]⟩) ∧ u.cell? ⟨N + 1, 1, none⟩ = some (.int .i64 2) ∧ u.cell? ⟨N + 1, 2, none⟩ = some (.string ⟨#[121]⟩) ∧ u.cell? ⟨N + 1 + 1, 0, none⟩ = some (.string ⟨#[97]⟩) ∧ u.cell? ⟨N + 1 + 1, 1, none⟩ = some (.int .i64 3) ∧ u.cell? ⟨N + 1 + 1, 2, none⟩ = some (.string ⟨#[122]⟩)) := fun u q => by
    have h1 := (b1.q (q2.trans q3)).q q
    have h2 := (b2.q q3).q q
    have h3 := b3.q q
    exact ⟨h1.cell 0 rfl, h1.cell 1 rfl, h1.cell 2 rfl, h2.cell 0 rfl, h2.cell 1 rfl, h2.cell 2 rfl, h3.cell 0 rfl, h3.cell 1 rfl, h3.cell 2 rfl⟩
  have HV := hide (hv.q (unhide HQ0))
  unfold bxR at HSC HQ0 HSZ HV
  clear b1 b2 b3 q1 q2 q3 s1 s2 hv
  go_enter Tryz.func21, Tryz.ntmps21
  go_wp2_with fail
  generalize (((w.alloc (.cells #[.string ⟨#[97]⟩, .int .i64 1, .string ⟨#[120]⟩] 31)).alloc (.cells #[.string ⟨#[98]⟩, .int .i64 2, .string ⟨#[121]⟩] 31)).alloc (.cells #[.string ⟨#[97]⟩, .int .i64 3, .string ⟨#[122]⟩] 31)) = v0 at *
  have HQU := hide ((Q.refl v0).alloc (.cells #[.string ⟨#[97]⟩, .int .i64 1, .string ⟨#[120]⟩, .string ⟨#[98]⟩, .int .i64 2, .string ⟨#[121]⟩, .string ⟨#[97]⟩, .int .i64 3, .string ⟨#[122]⟩] 31))
  refine (text_lit (tb := ⟨#[97, 9, 49, 9, 120, 10, 98, 9, 50, 9, 121, 10, 97, 9, 51, 9, 122, 10]⟩) (m := 0) [awA, awB, awC] _ _ _ ⟨by rw [awl1.1]; rfl, awl1.2, rfl⟩ ((unhide HV).q (unhide HQU)) (row_at HSZ.out _ _ rfl) Z3.out (by decide)).mono ?_
  rintro e w1 ⟨rfl, qq⟩
  replace HQU := hide ((unhide HQU).trans qq)
  clear qq
  obtain ⟨x0, x1, x2, x3, x4, x5, x6, x7, x8⟩ := unhide HSC _ (unhide HQU)
  go_wp2_with fail
  clear x0 x1 x2 x3 x4 x5 x6 x7 x8
  replace HQU := hide ((unhide HQU).alloc (.cells #[.string ⟨#[97]⟩, .int .i64 1, .string ⟨#[120]⟩, .string ⟨#[98]⟩, .int .i64 2, .string ⟨#[121]⟩, .string ⟨#[97]⟩, .int .i64 3, .string ⟨#[122]⟩] 31))
  refine (last_lit (x1 := ⟨#[97]⟩) (t := 3) (x3 := ⟨#[122]⟩) (b := true) [awA, awB, awC] ⟨#[97]⟩ _ _ _ ⟨by rw [show bl (⟨#[97]⟩ : ByteArray) = [97] from rfl, awl2.1]; rfl, by rw [show bl (⟨#[97]⟩ : ByteArray) = [97] from rfl, awl2.1]; rfl, by rw [show bl (⟨#[97]⟩ : ByteArray) = [97] from rfl, awl2.1]; rfl, awl2.2, rfl⟩ (row_at rfl _ _ rfl) Z3.out (by decide)).mono ?_
  rintro e w2 ⟨rfl, qq⟩
  have HX2 := hide (bxR_b w2 ⟨#[97]⟩ 3 ⟨#[122]⟩)
  replace HQU := hide (((unhide HQU).trans qq).trans (bxR_q w2 ⟨#[97]⟩ 3 ⟨#[122]⟩))
  clear qq
  unfold bxR at HQU HX2
  obtain ⟨x0, x1, x2, x3, x4, x5, x6, x7, x8⟩ := unhide HSC _ (unhide HQU)
  go_wp2_with fail
  clear x0 x1 x2 x3 x4 x5 x6 x7 x8
  have HL2 : Hid (w2.heap.size + 1 = (w2.alloc (.cells #[.string ⟨#[97]⟩, .int .i64 3, .string ⟨#[122]⟩] 31)).heap.size) := (size_alloc _ _).symm
  generalize w2.alloc (.cells #[.string ⟨#[97]⟩, .int .i64 3, .string ⟨#[122]⟩] 31) = v2 at *
  have HXU := hide ((Q.refl v2).alloc (.cells #[.string ⟨#[97]⟩, .int .i64 1, .string ⟨#[120]⟩] 31))
  replace HQU := hide ((unhide HQU).alloc (.cells #[.string ⟨#[97]⟩, .int .i64 1, .string ⟨#[120]⟩] 31))
  refine (last_lit (x1 := ⟨#[]⟩) (t := 0) (x3 := ⟨#[]⟩) (b := false) [awA] ⟨#[98]⟩ _ _ _ ⟨by rw [show bl (⟨#[98]⟩ : ByteArray) = [98] from rfl, awl3.1], by rw [show bl (⟨#[98]⟩ : ByteArray) = [98] from rfl, awl3.1], by rw [show bl (⟨#[98]⟩ : ByteArray) = [98] from rfl, awl3.1], awl3.2, rfl⟩ (row_at HL2.out _ _ rfl) Z1.out (by decide)).mono ?_
  rintro e w3 ⟨rfl, qq⟩
  replace HQU := hide (((unhide HQU).trans qq).trans (bxR_q w3 ⟨#[]⟩ 0 ⟨#[]⟩))
  replace HXU := hide (((unhide HXU).trans qq).trans (bxR_q w3 ⟨#[]⟩ 0 ⟨#[]⟩))
  clear qq HL2
  generalize w2.heap.size = XN at *
  unfold bxR at HQU HXU
  obtain ⟨x0, x1, x2, x3, x4, x5, x6, x7, x8⟩ := unhide HSC _ (unhide HQU)
  go_wp2_with fail
  clear x0 x1 x2 x3 x4 x5 x6 x7 x8
  have HL3 : Hid (w3.heap.size + 1 = (w3.alloc (.cells #[.string ⟨#[]⟩, .int .i64 0, .string ⟨#[]⟩] 31)).heap.size) := (size_alloc _ _).symm
  generalize w3.alloc (.cells #[.string ⟨#[]⟩, .int .i64 0, .string ⟨#[]⟩] 31) = v3 at *
  replace HXU := hide ((unhide HXU).alloc (.cells #[.string ⟨#[97]⟩, .int .i64 1, .string ⟨#[120]⟩, .string ⟨#[98]⟩, .int .i64 2, .string ⟨#[121]⟩, .string ⟨#[97]⟩, .int .i64 3, .string ⟨#[122]⟩] 31))
  replace HQU := hide ((unhide HQU).alloc (.cells #[.string ⟨#[97]⟩, .int .i64 1, .string ⟨#[120]⟩, .string ⟨#[98]⟩, .int .i64 2, .string ⟨#[121]⟩, .string ⟨#[97]⟩, .int .i64 3, .string ⟨#[122]⟩] 31))
  refine (comp_lit (gs := [awB, awC]) (m := 0) (j := 2) [awA, awB, awC] _ _ _ ⟨awl4, awl1.2, rfl, rfl⟩ (row_at HL3.out _ _ rfl) Z3.out (by decide)).mono ?_
  rintro e w4 ⟨ko, kc, rfl, own, qq⟩
  replace HQU := hide ((unhide HQU).trans qq)
  replace HXU := hide ((unhide HXU).trans qq)
  have HKR := hide (OwnR.row own)
  clear qq own HL3
  obtain ⟨x0, x1, x2, x3, x4, x5, x6, x7, x8⟩ := unhide HSC _ (unhide HQU)
  go_wp2_with fail
  clear x0 x1 x2 x3 x4 x5 x6 x7 x8
  replace HXU := hide ((unhide HXU).alloc (.cells #[.string ⟨#[]⟩, .int .i64 0, .string ⟨#[]⟩] 31))
  replace HQU := hide ((unhide HQU).alloc (.cells #[.string ⟨#[]⟩, .int .i64 0, .string ⟨#[]⟩] 31))
  replace HKR := hide (RowG.q (unhide HKR) ((Q.refl w4).alloc (.cells #[.string ⟨#[]⟩, .int .i64 0, .string ⟨#[]⟩] 31)))
  refine (text_lit (tb := ⟨#[]⟩) (m := 1400) [([], 0, [])] _ _ _ ⟨by rw [awl5.1], awl5.2, rfl⟩ ((unhide HV).q (unhide HQU)) (row_at rfl _ _ rfl) Z0.out (by decide)).mono ?_
  rintro e w5 ⟨rfl, qq⟩
  replace HQU := hide ((unhide HQU).trans qq)
  replace HXU := hide ((unhide HXU).trans qq)
  replace HKR := hide (RowG.q (unhide HKR) qq)
  clear qq
  have HKEEP : Hid (∀ u, Q w5 u → u.cell? ⟨N, 0, none⟩ = some (.string ⟨#[97]⟩) ∧ u.cell? ⟨N, 1, none⟩ = some (.int .i64 1) ∧ u.cell? ⟨N, 2, none⟩ = some (.string ⟨#[120]⟩) ∧ u.cell? ⟨N + 1, 0, none⟩ = some (.string ⟨#[98]⟩) ∧ u.cell? ⟨N + 1, 1, none⟩ = some (.int .i64 2) ∧ u.cell? ⟨N + 1, 2, none⟩ = some (.string ⟨#[121]⟩) ∧ u.cell? ⟨N + 1 + 1, 0, none⟩ = some (.string ⟨#[97]⟩) ∧ u.cell? ⟨N + 1 + 1, 1, none⟩ = some (.int .i64 3) ∧ u.cell? ⟨N + 1 + 1, 2, none⟩ = some (.string ⟨#[122]⟩) ∧ u.cell? ⟨XN, 0, none⟩ = some (.string ⟨#[97]⟩) ∧ u.cell? ⟨XN, 1, none⟩ = some (.int .i64 3) ∧ u.cell? ⟨XN, 2, none⟩ = some (.string ⟨#[122]⟩)) := fun u q => by
    obtain ⟨y0, y1, y2, y3, y4, y5, y6, y7, y8⟩ := unhide HSC u ((unhide HQU).trans q)
    have hx := (unhide HX2).q ((unhide HXU).trans q)
    exact ⟨y0, y1, y2, y3, y4, y5, y6, y7, y8, hx.cell 0 rfl, hx.cell 1 rfl, hx.cell 2 rfl⟩
  have HVW := hide ((unhide HV).q (unhide HQU))
  have HQW := hide ((unhide HQ0).trans (unhide HQU))
  have HU : Hid (Q w5 w5.drew) := (Q.refl w5).drew
  clear HSC HX2 HXU HQU HV HQ0 HSZ
  go_upto_region 8 with fail
  go_region_held3 (fun u => u.cell? ⟨N, 0, none⟩ = some (.string ⟨#[97]⟩) ∧ u.cell? ⟨N, 1, none⟩ = some (.int .i64 1) ∧ u.cell? ⟨N, 2, none⟩ = some (.string ⟨#[120]⟩) ∧ u.cell? ⟨N + 1, 0, none⟩ = some (.string ⟨#[98]⟩) ∧ u.cell? ⟨N + 1, 1, none⟩ = some (.int .i64 2) ∧ u.cell? ⟨N + 1, 2, none⟩ = some (.string ⟨#[121]⟩) ∧ u.cell? ⟨N + 1 + 1, 0, none⟩ = some (.string ⟨#[97]⟩) ∧ u.cell? ⟨N + 1 + 1, 1, none⟩ = some (.int .i64 3) ∧ u.cell? ⟨N + 1 + 1, 2, none⟩ = some (.string ⟨#[122]⟩) ∧ u.cell? ⟨XN, 0, none⟩ = some (.string ⟨#[97]⟩) ∧ u.cell? ⟨XN, 1, none⟩ = some (.int .i64 3) ∧ u.cell? ⟨XN, 2, none⟩ = some (.string ⟨#[122]⟩))
    (first | exact unhide HKEEP _ (unhide HU) | exact unhide HKEEP _ ((unhide HU).alloc _))
    (first
      | (go_at_call 14; refine (num_any _ _).mono ?_; rintro e w' ⟨rfl, hw'⟩; have hw2 := hw'.symm; clear hw'; subst hw2)
      | (go_at_call_of 15 (Value.slice ko 2 kc); refine (sameR_lit (v := true) _ _ _ _ [awB, awC] [awB, awC] _ ⟨by decide +kernel, rfl, rfl⟩ (RowG.q (unhide HKR) ((unhide HU).alloc _)) (row_at rfl _ _ rfl) (by decide)).mono ?_; rintro e u2 ⟨rfl, qq⟩; replace HU : Hid (Q w5 u2) := ((unhide HU).alloc _).trans qq; clear qq)
      | (go_at_call 17; refine (lmay_lit (v := true) [awB, awC] _ _ _ ⟨awl7, rfl⟩ (RowG.q (unhide HKR) (unhide HU)) Z2.out (by decide)).mono ?_; rintro e u5 ⟨rfl, qq⟩; replace HU : Hid (Q w5 u5) := (unhide HU).trans qq; clear qq)
      | (go_at_call_of 15 (Value.slice lo 1 lc); refine (sameR_lit (v := true) _ _ _ _ [awA] [awA] _ ⟨by decide +kernel, rfl, rfl⟩ (by first | exact unhide HLR | exact RowG.q (unhide HLR) ((Q.refl _).alloc _)) (by first | exact unhide HSL | exact row_at rfl _ _ rfl) (by decide)).mono ?_; rintro e u4 ⟨rfl, qq⟩; replace HU : Hid (Q w5 u4) := (by first | exact (unhide HU).trans qq | exact ((unhide HU).alloc _).trans qq); clear qq)
      | (go_at_call 9; refine (load_lit (gs := [awA]) ⟨#[97, 9, 49, 9, 120, 10, 98, 9, 50]⟩ _ ⟨awl6, rfl⟩ ((unhide HVW).q (by first | exact unhide HU | exact (unhide HU).alloc _)) (by decide)).mono ?_; rintro e u3 ⟨lo, lc, rfl, ownl, ql⟩; have HLR := hide (OwnR.row ownl); clear ownl; (first | (have HSL := hide (RowG.q (row_at rfl #[.string ⟨#[97]⟩, .int .i64 1, .string ⟨#[120]⟩] [awA] rfl) ql)) | skip); replace HU : Hid (Q w5 u3) := (by first | exact (unhide HU).trans ql | exact ((unhide HU).alloc _).trans ql); clear ql))
  all_goals
    go_wp2_with fail
    go_ret
    exact ⟨rfl, (unhide HQW).trans (unhide HU)⟩

end Go.Proofs.YtgbegdgacjodcaaGreatDoor
