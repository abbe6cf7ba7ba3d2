/- The statement that empty lines, remarks and blanks at a line's end turn nothing holds for all numbers; no conditions. -/
import Derived.Test.YtgfegbeickaknaaGreatDoorRows
import Derived.Test.YtgfegbeickaknaaGreatDoorCards
import Derived.Test.YtgfegbeickaknaaGreatDoorTie
import Derived.LaidMore
import Derived.Lay
import Derived.SevenTiedAt
import Derived.Stop.Joined
import Derived.ProofKit
import Derived.OpenShut
import Derived.ShutString
import Derived.ChangeOld
import Derived.Below
import Derived.SizedLaws
import Derived.Test.YtgfegbeickaknaaGreatDoorPk1
import Derived.Test.YtgfegbeickaknaaGreatDoorMfAwake
import Derived.Test.YtgfegbeickaknaaGreatDoorMfTab
import Derived.Test.YtgfegbeickaknaaGreatDoorWk1
namespace Go.Proofs.YtgfegbeickaknaaGreatDoor
open Go.ChangeShapes Go.WideShapes Go.ChangeAt Go.RowKit

theorem Tryz.infoIm : (Tryz.prog.info? 3).map (fun i => (i.zero, i.size, i.bytes)) = some (some (.int .i64 0), 1, 8) := by kernel_rfl
def iv (y : Nat) : Value := .int .i64 y
theorem range_more {k : Nat} (p : Nat → Bool) (h : p k = true) : (List.range (k + 1)).filter p = (List.range k).filter p ++ [k] := by
  rw [List.range_succ, List.filter_append]; simp [h]
theorem range_same {k : Nat} (p : Nat → Bool) (h : p k = false) : (List.range (k + 1)).filter p = (List.range k).filter p := by
  rw [List.range_succ, List.filter_append]; simp [h]
def isNl (i : Nat) : Bool := txA[i]? == some 10
theorem nl_of {bA : ByteArray} (hA : bl bA = txA) (k : Nat) (h : k < bA.size) : ((bA[k].toNat : Int) == 10) = isNl k := by
  have e : txA[k]? = some bA[k] := by
    rw [← hA]
    unfold bl
    rw [List.getElem?_eq_getElem (by simpa using h)]; rfl
  unfold isNl
  rw [e]
  have : (bA[k] == 10) = ((bA[k].toNat : Int) == 10) := by
    rw [Bool.eq_iff_iff]
    simp only [beq_iff_eq]
    constructor
    · intro h; rw [h]; rfl
    · intro h; exact UInt8.toNat_inj.1 (by have : bA[k].toNat = 10 := by omega
                                           rw [this]; rfl)
  rw [← this]
  rfl
theorem mores_at (m : Nat) (h : m < 4) : ∃ t : ByteArray, (moresL.map fun l => Value.string ⟨l.toArray⟩)[m]'(by rw [List.length_map]; exact h) = .string t ∧ bl t ∈ moresL ∧ t.size ≤ 100 := by
  have hl : m < moresL.length := h
  have hall : (moresL.all fun l => decide (l.length ≤ 100)) = true := by decide +kernel
  refine ⟨⟨moresL[m].toArray⟩, by rw [List.getElem_map], List.getElem_mem hl, ?_⟩
  have := List.all_eq_true.1 hall _ (List.getElem_mem hl)
  rw [← bl_size]; exact of_decide_eq_true this
theorem ends_le : (endsL.all fun k => decide (k ≤ 195)) = true := by decide +kernel
theorem blank_text {bA t : ByteArray} {k : Nat} (hA : bl bA = txA) (hk : k ∈ endsL) (ht : bl t ∈ moresL) : mfG (bl (bA.extract 0 k ++ t ++ bA.extract k 195)) = grA ∧ mfE (bl (bA.extract 0 k ++ t ++ bA.extract k 195)) = 0 := by
  refine mf_of ?_
  rw [bl_app, bl_app, bl_extract, bl_extract, hA]
  have e : (txA.take 195).drop k = txA.drop k := by rw [List.take_of_length_le (by decide +kernel)]
  rw [e, List.drop_zero]
  exact blank_at hk ht

theorem gz_q (w : World) {w' : World} (q : Q (w.alloc (.cells #[.slice none 0 0, .slice none 0 0, .slice none 0 0] 26)).drew w') : Blk w' w.heap.size #[.slice none 0 0, .slice none 0 0, .slice none 0 0] 26 := Blk.q (Blk.drew (Blk.new w _ 26)) q

theorem gz_m (w : World) {o : Obj} {w' : World} {g : Gr} {es : List EdA} {eo po dd : Option Addr} {ec pc dc : Nat} (h : GrM (w.alloc o).drew.heap.size w' g es eo po dd ec pc dc) : GrM (w.heap.size + 1) w' g es eo po dd ec pc dc := by
  have e : (w.alloc o).drew.heap.size = w.heap.size + 1 := size_alloc w o
  rw [e] at h; exact h
theorem gS_row {w : World} {G : Nat} {a b c : Value} {g : Gr} {es : List EdA} {eo po dd : Option Addr} {ec pc dc : Nat} (h : GrM (G + 1) w g es eo po dd ec pc dc) (hs : GrS g) (hb : Blk w G #[a, b, c] 26) (v0 v1 v2 : Value) : GrR (gS w G v0 v1 v2) g es eo po dd :=
  (h.fr (gS_facts hb v0 v1 v2).2.2.2 (fun k hk e => by omega)).rd hs
theorem gS_q {w0 w : World} {G : Nat} {a b c : Value} (q : Q w0 w) (hG : w0.heap.size ≤ G) (h : Blk w G #[a, b, c] 26) (v0 v1 v2 : Value) : Q w0 (gS w G v0 v1 v2) :=
  Below.trans q ((gS_facts h v0 v1 v2).2.2.2.below q.size (fun k hk => by rw [hk]; exact hG))

set_option maxRecDepth 20000 in
set_option maxHeartbeats 16000000 in
theorem manifestBlank_any (a : Int) (_ : (Lit.int .i64 a).wf = true) (b : Int) (_ : (Lit.int .i64 b).wf = true) (w : World) (htab : TabB w.heap.size w) :
    Calls Tryz.prog 7 #[.int .i64 a, .int .i64 b] w fun e w' => e = .returned (.bool true) ∧ Q w w' := by
  have HT := hide htab
  clear htab
  obtain ⟨i0, hi, hz0, hz1, hz2⟩ := info_parts Tryz.infoIm
  have h3 := and3 b
  obtain ⟨m, hm⟩ : ∃ m : Nat, b % 4 = (m : Int) := ⟨(b % 4).toNat, by omega⟩
  have hm4 : m < 4 := by omega
  rw [hm] at h3
  clear hm
  obtain ⟨r, hr12, hr⟩ := umod a 12 (by decide) (by decide)
  have hr' : wrap64 ((IntKind.u64.wrap a).tmod 12) = (r : Int) := hr
  clear hr
  go_enter Tryz.func7, Tryz.ntmps7
  go_wp2_with fail
  refine (mfawake_any _ (unhide HT)).mono ?_
  rintro e w1 ⟨rfl, q1⟩
  go_wp2_with fail
  refine (text_any w1).mono ?_
  rintro e w2 ⟨rfl, rfl⟩
  generalize hA : (⟨txA.toArray⟩ : ByteArray) = bA
  have HA : Hid (bl bA = txA) := by show _ = _; rw [← hA]; rfl
  have hsz : bA.size = 195 := by rw [← hA]; decide +kernel
  clear hA
  go_wp2_with fail
  go_loopw [6, 7] (fun v i wr => ∃ (k : Nat) (ys : List Nat) (ao : Option Addr) (cap : Nat), k ≤ 195 ∧ i = .int .i64 k ∧ v = .slice ao ys.length cap ∧ ys.length ≤ k ∧ wr.ownsRow w2.heap.size 3 1 (.slice ao ys.length cap) ys.length (ys.map iv) ∧ Q w2 wr ∧ Hid (ys = (List.range k).filter isNl)) (fun _ i _ => 195 - (intOf i).toNat)
  case atStart => exact ⟨0, [], none, 0, by omega, rfl, rfl, by simp, World.ownsRow_nil _ _ _ _, Q.refl _, by show _ = _; rfl⟩
  case round =>
    obtain ⟨k, ys, ao, cap, hk, rfl, rfl, hyk, hown, hq, HY⟩ := hrel
    have hqs := hq.size
    have hyc := own_le hown
    by_cases hlt : k < 195
    · have hks : k < bA.size := by omega
      have hks' : (k : Int) < (bA.size : Int) := by omega
      have HNL := hide (nl_of HA.out k hks)
      cases hnl : isNl k
      · have g1 : ((bA[k].toNat : Int) == 10) = false := by rw [unhide HNL]; exact hnl
        have HY2 : Hid (ys = (List.range (k + 1)).filter isNl) := by show _ = _; rw [range_same isNl hnl]; exact HY.out
        clear hnl HNL HY
        go_wp2_with fail
        go_roundw
        case rel => exact ⟨k + 1, ys, ao, cap, by omega, by go_num, rfl, by omega, hown, hq, HY2⟩
        case measure => simp [intOf]; omega
      · have g1 : ((bA[k].toNat : Int) == 10) = true := by rw [unhide HNL]; exact hnl
        have HY2 : Hid (ys ++ [k] = (List.range (k + 1)).filter isNl) := by show _ = _; rw [range_more isNl hnl, ← HY.out]
        clear hnl HNL HY
        go_wp2_with (at_builtin; refine wpList_append_lies _ rfl _ _ 40 rfl w2.heap.size 3 i0 (.int .i64 0) 1 8 Tryz.underlying40 hi hz0 hz1 hz2 rfl (by decide) _ _ _ rfl (hown.alloc _) ⟨wr.heap.size, 0, none⟩ 1 1 [.int .i64 k] rfl rfl (news_at rfl #[.int .i64 k] _) (one_int _ _) (by decide) (by unfold maxLen; omega) (by omega) (le_alloc hqs _) (wr.heap.size + 1) (by simp) ?_)
        intro g' cp' w3 hown2 hgrow hor hglt
        have hq2 : Q w2 w3 := Below.grown (hq.alloc _) hgrow (le_alloc hqs _) (fun r hr => (hown.lt r hr).1)
        have HO : Hid (w3.ownsRow w2.heap.size 3 1 (.slice (some ⟨g', 0, none⟩) (ys ++ [k]).length cp') (ys ++ [k]).length ((ys ++ [k]).map iv)) := by
          have h := hown2
          rw [List.map_append, List.length_append]
          exact h
        clear hown2 hgrow hown hor
        go_wp2
        go_roundw
        case rel =>
          refine ⟨k + 1, ys ++ [k], some ⟨g', 0, none⟩, cp', by omega, by go_num, ?_, ?_, unhide HO, hq2, HY2⟩
          · simp
          · simp; omega
        case measure => simp [intOf]; omega
    · obtain rfl : k = 195 := by omega
      have HYE : Hid (ys = endsL) := by
        show _ = _
        rw [HY.out, ← ends_eq]
        have : txA.length = 195 := by decide +kernel
        rw [this]; rfl
      obtain rfl := HYE.out
      clear HY HYE
      have hel : endsL.length = 12 := rfl
      rw [hel] at hown hyk hyc ⊢
      have hrk : r < endsL.length := hr12
      obtain ⟨x, hx⟩ : ∃ x, endsL[r]? = some x := ⟨_, List.getElem?_eq_getElem hrk⟩
      have hxm : x ∈ endsL := List.mem_of_getElem? hx
      have hx195 : x ≤ 195 := of_decide_eq_true (List.all_eq_true.1 ends_le x hxm)
      have hrow : RowG (fun y => [iv y]) 1 wr ao endsL := RowG.own (f := fun y : Nat => [iv y]) (sz := 1) (fun _ => rfl) (by decide) (show wr.ownsRow w2.heap.size 3 1 (.slice ao endsL.length cap) endsL.length (lay (fun y : Nat => [iv y]) endsL) from hown)
      rcases hrow with he | ⟨g, o, rfl, hg, hcell⟩
      · cases he
      have c1 : wr.cell? ⟨g, o + r, none⟩ = some (.int .i64 x) := by
        have := hcell r 0 x _ hx (by decide) rfl
        simpa [iv] using this
      obtain ⟨t, ht, htm, hts⟩ := mores_at m hm4
      simp only [moresL, List.map_cons, List.map_nil] at ht
      have HPA := hide (fun w3 (h : TabB w3.heap.size w3) => parse_gr (g := grA) (n := 0) bA w3 h (by rw [hsz]; unfold maxLen; omega) (by rw [HA.out]; exact mf_of mfA))
      have hes : (bA.extract 0 x ++ t ++ bA.extract x 195).size ≤ 1000 := by
        rw [ByteArray.size_append, ByteArray.size_append, ByteArray.size_extract, ByteArray.size_extract]; omega
      have HPB := hide (fun w3 (h : TabB w3.heap.size w3) => parse_gm (g := grA) (n := 0) (bA.extract 0 x ++ t ++ bA.extract x 195) w3 h (by unfold maxLen; omega) (blank_text HA.out hxm htm))
      clear hx hxm hcell hown hes htm
      have hr12' : (r : Int) < 12 := by omega
      go_upto_region 12 with fail
      have qa : Q w (wr.alloc (.cells #[.string { data := #[10] }, .string { data := #[10, 32, 32, 35, 32, 110, 111, 32, 36, 120] }, .string { data := #[32, 32] }, .string { data := #[10, 32, 32, 32, 32, 32, 32] }] 9)) := (q1.trans hq).alloc _
      clear c1 ht h3 hr'
      generalize wr.alloc (.cells #[.string { data := #[10] }, .string { data := #[10, 32, 32, 35, 32, 110, 111, 32, 36, 120] }, .string { data := #[32, 32] }, .string { data := #[10, 32, 32, 32, 32, 32, 32] }] 9) = w3 at *
      generalize wr.heap.size = z9
      go_wp2_with fail
      refine (unhide HPA _ ((unhide HT).q qa)).mono ?_
      rintro e w4 ⟨es, eo, po, dd, ec, pc, dc, rfl, hr4, q4⟩
      have HR4 := hide hr4
      clear hr4
      have qb := qa.trans q4
      clear q4 qa HPA
      go_upto_region 13 with fail
      have b5 := Blk.new w4 #[.slice eo es.length ec, .slice po grA.2.1.length pc, .slice dd grA.2.2.length dc] 26
      have q5 := (Q.refl w4).alloc (.cells #[.slice eo es.length ec, .slice po grA.2.1.length pc, .slice dd grA.2.2.length dc] 26)
      have HR5 := hide ((unhide HR4).q' q5)
      have HB5 := hide b5
      have qc := qb.trans q5
      clear HR4 b5 qb q5
      generalize w4.heap.size = G4 at *
      generalize w4.alloc (.cells #[.slice eo es.length ec, .slice po grA.2.1.length pc, .slice dd grA.2.2.length dc] 26) = w5 at *
      have HP5 : Hid (∀ w6, Q w5 w6 → Calls Tryz.prog 9 #[.string (bA.extract 0 x ++ t ++ bA.extract x 195)] w6 fun e w' => ∃ (es : List EdA) (eo po dd : Option Addr) (ec pc dc : Nat),
          e = .returned (.tuple #[.agg #[.slice eo es.length ec, .slice po grA.2.1.length pc, .slice dd grA.2.2.length dc], .int .i64 0]) ∧ GrM w6.heap.size w' grA es eo po dd ec pc dc ∧ GrS grA ∧ Q w6 w') := fun w6 q => unhide HPB w6 ((unhide HT).q (qc.trans q))
      clear HPB
      have hxs : (x : Int) ≤ (bA.size : Int) := by omega
      go_cut [12, 13] from 51 (fun v n wc => ∃ (G : Nat) (es2 : List EdA) (eo2 po2 dd2 : Option Addr) (ec2 pc2 dc2 : Nat), v = .pointer (some ⟨G, 0, none⟩) ∧ n = .int .i64 0 ∧ Hid (Blk wc G #[.slice eo2 es2.length ec2, .slice po2 grA.2.1.length pc2, .slice dd2 grA.2.2.length dc2] 26) ∧ Hid (GrR wc grA es2 eo2 po2 dd2) ∧ Hid (Q w5 wc))
      case first =>
        go_region_with (go_at_call 9; first | (refine (HP5.out _ ((Q.refl w5).drew)).mono ?_; rintro e w7 ⟨es7, eo7, po7, dd7, ec7, pc7, dc7, rfl, hr7, hs7, q7⟩; have HR7 := hide (hr7.rd hs7); clear hr7 hs7; have q57 : Q w5 w7 := ((Q.refl w5).drew).trans q7) | (refine (HP5.out _ (((Q.refl w5).alloc _).drew)).mono ?_; rintro e w7 ⟨es7, eo7, po7, dd7, ec7, pc7, dc7, rfl, hr7, hs7, q7⟩; have HR7 := hide (gz_m w5 hr7); have HS7 := hide hs7; clear hr7 hs7; have q57 : Q w5 w7 := (((Q.refl w5).alloc _).drew).trans q7; have hEB := hide (gz_q w5 q7); have z0 : w7.cell? ⟨w5.heap.size, 0, none⟩ = some (.slice none 0 0) := (unhide hEB).cell 0 rfl; have z1 : w7.cell? ⟨w5.heap.size, 1, none⟩ = some (.slice none 0 0) := (unhide hEB).cell 1 rfl; have z2 : w7.cell? ⟨w5.heap.size, 2, none⟩ = some (.slice none 0 0) := (unhide hEB).cell 2 rfl; have f0 := (unhide hEB).frz 0; have f1 := (unhide hEB).frz 1; have f2 := (unhide hEB).frz 2))
        all_goals
          go_wp2_with fail
          go_meet
          case rel =>
            first
              | exact ⟨w5.heap.size, es7, eo7, po7, dd7, ec7, pc7, dc7, rfl, rfl, ((((unhide hEB).set 0 _).set 1 _).set 2 _), gS_row (unhide HR7) (unhide HS7) (unhide hEB) _ _ _, gS_q q57 (Nat.le_refl _) (unhide hEB) _ _ _⟩
              | exact ⟨w7.heap.size, es7, eo7, po7, dd7, ec7, pc7, dc7, rfl, rfl, Blk.new _ _ _, (unhide HR7).q' ((Q.refl _).alloc _), q57.alloc _⟩
      case rest =>
        obtain ⟨G, es2, eo2, po2, dd2, ec2, pc2, dc2, rfl, rfl, HB2, HR2, HQ2⟩ := hcut
        have b9 := (unhide HB5).q HQ2.out
        have k0 : wc.cell? ⟨G4, 0, none⟩ = some (.slice eo es.length ec) := b9.cell 0 rfl
        have k1 : wc.cell? ⟨G4, 1, none⟩ = some (.slice po grA.2.1.length pc) := b9.cell 1 rfl
        have k2 : wc.cell? ⟨G4, 2, none⟩ = some (.slice dd grA.2.2.length dc) := b9.cell 2 rfl
        have l0 : wc.cell? ⟨G, 0, none⟩ = some (.slice eo2 es2.length ec2) := HB2.out.cell 0 rfl
        have l1 : wc.cell? ⟨G, 1, none⟩ = some (.slice po2 grA.2.1.length pc2) := HB2.out.cell 1 rfl
        have l2 : wc.cell? ⟨G, 2, none⟩ = some (.slice dd2 grA.2.2.length dc2) := HB2.out.cell 2 rfl
        have HR9 := hide ((unhide HR5).q' HQ2.out)
        have qz := qc.trans HQ2.out
        clear b9
        go_wp2_with (go_at_call 12; refine (num_any _ _).mono ?_; rintro e w' ⟨rfl, rfl⟩)
        refine (sameG_any grA grA es es2 eo po dd eo2 po2 dd2 ec pc dc ec2 pc2 dc2 _ (unhide HR9) HR2.out).mono ?_
        rintro e w8 ⟨rfl, q8⟩
        rw [(eqGr_iff grA grA).2 rfl]
        go_wp2_with fail
        go_ret
        exact ⟨rfl, qz.trans q8⟩

set_option maxRecDepth 100000 in
theorem manifestBlank_lifted (os : Os) (started : os.Started) (H : Type) (enc : TypeId × Value → H) :
    ReturnsInHanded {} Tryz.checked os 7 .any (fun w args => (Rows.manifestBlankSpec.pre enc Tryz.prog Tryz.f7 [] false w args ∧ laidMetH Tryz.prog Rows.manifestBlankRow.laid w) ∧ sizedMet enc Tryz.prog Tryz.f7 (OpenSpec.ofChange Rows.manifestBlankSpec) false w args) (Rows.manifestBlankSpec.post enc Tryz.prog Tryz.f7 false true false false) := by
  refine returnsInHanded_of_change_and (C := Tryz.checked) (X := fun w _ => laidMetH Tryz.prog Rows.manifestBlankRow.laid w) (fun _ _ _ hh h => h.of_heap hh) Tryz.own started (by kernel_rfl) Tryz.func7
    (ChangeSpec.witness_shaped (enc := enc) (C := Tryz.checked) (os := os) (X := fun w _ => laidMetH Tryz.prog Rows.manifestBlankRow.laid w) false (World.laidAll Tryz.prog os Rows.manifestBlankRow.laid) #[.int .i64 0, .int .i64 0] 8 (World.laidAll_os _ _ _)
      (World.shaped_of_ZipB (by kernel_rfl) (by kernel_rfl)) (by kernel_rfl) (by kernel_rfl) (by kernel_rfl)
      (by rw [MakeChecks.laidMetH_plain _ _ _ (by kernel_rfl)]; exact laidMet_laidAll _ (by kernel_rfl) (by kernel_rfl))) ?_
  intro W base args ds gs before hval0 hW _ hsz0 hL _
  have hval : ∀ (j : Nat) t v, Tryz.f7.params[j]? = some t → args[j]? = some v → Value.okWide Tryz.prog W .any base t v := hval0
  have hW' := hW
  obtain ⟨p, q, hA0, hV, rfl, hfz, hnd⟩ := hW
  have hA : DataW.TrodAll enc Tryz.prog W 0 (fun _ => true) true Tryz.f7.params.toList args.toList ds p := hA0
  rw [Tryz.params7] at hA hval
  obtain ⟨v0, vs0, d0, ds0, p0, q0, hargs, rfl, rfl, h0, r0⟩ := trodAll_cons hA
  obtain ⟨v1, vs1, d1, ds1, p1, q1, rfl, rfl, rfl, h1, r1⟩ := trodAll_cons r0
  obtain ⟨rfl, rfl, rfl⟩ := trodAll_nil r1
  obtain rfl : args = #[v0, v1] := by cases args; simp_all
  obtain ⟨rfl, rfl⟩ := trodVars_none hV
  obtain ⟨a0, rfl, rfl, rfl, w0⟩ := open_int Tryz.underlying3 (hval 0 3 v0 rfl rfl) h0
  obtain ⟨a1, rfl, rfl, rfl, w1⟩ := open_int Tryz.underlying3 (hval 1 3 v1 rfl rfl) h1
  clear hA0 hval0
  simp only [List.append_nil] at hW'
  refine (manifestBlank_any a0 w0 a1 w1 W (tab_of_laid (laid := Rows.manifestBlankRow.laid) (by kernel_rfl) hL)).mono fun e W' ⟨he, bel⟩ => ?_
  subst he
  exact ⟨_, rfl, _, _, _, [], [], [], hW', trodAll_mk1 (shut_bool Tryz.underlying4 _), (trodAll_cons_mk (shut_int Tryz.underlying3 w0) (trodAll_cons_mk (shut_int Tryz.underlying3 w1) trodAll_mk0)), rfl, bel.frame _, fun h => by cases h⟩

theorem manifestBlank_holds : Rows.ManifestBlankSaid :=
  OpenClaim.holds_of_wide 7 Tryz.f7 rfl rfl rfl rfl rfl rfl rfl ⟨rfl, rfl, rfl, rfl, rfl⟩ rfl rfl rfl rfl rfl (by kernel_rfl) Tryz.func7 (by kernel_rfl)
    (of_decide_eq_true (by kernel_rfl)) (by unfold Func.isWrapper; first | (rw [if_pos (by decide +kernel)]; kernel_rfl) | (rw [if_neg (by decide +kernel)]; exact ⟨rfl, rfl⟩))
    (fun os started H enc _ => manifestBlank_lifted os started H enc)
theorem manifestBlank_card : Rows.ManifestBlankCardSaid :=
  Claim7.holds_tied_plain_at .later [] [.data, .listed, .data, .pinned] true (true, "8dec6f50e5afba32322cf8ec189691581cdc57b45edadbf051f5816f0efe4019") false manifestBlank_holds (fun _ h => by cases h) (by kernel_rfl) (fun _ h => by cases h) manifestBlank_row_tie rfl ⟨rfl, rfl⟩ (by kernel_rfl) rfl
    (fun f fn hf hfn => by
      obtain rfl : f = 7 := Option.some.inj ((show Tryz.prog.funcNamed Rows.manifestBlankRow.func = some 7 by kernel_rfl).symm.trans hf) |>.symm
      obtain rfl : fn = Tryz.f7 := (Option.some.inj (Tryz.func7.symm.trans hfn)).symm
      exact ⟨by kernel_rfl, fun j t ht => by
        rw [Tryz.params7] at ht
        have hm : t ∈ [3, 3] := by simpa using Array.mem_of_getElem? ht
        have hall : ([3, 3].all fun u => !Tryz.prog.wantsStandIn u) = true := by kernel_rfl
        exact (show Tryz.prog.wantsStandIn t = false by simpa using List.all_eq_true.1 hall t hm)⟩)
    (by kernel_rfl)
#print axioms manifestBlank_card
end Go.Proofs.YtgfegbeickaknaaGreatDoor
