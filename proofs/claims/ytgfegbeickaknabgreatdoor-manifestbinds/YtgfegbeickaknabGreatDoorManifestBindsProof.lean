/- The statement that a variable's value is that of the line at which it is asked holds for all rows of numbers; no conditions. -/
import Derived.Test.YtgfegbeickaknabGreatDoorRows
import Derived.Test.YtgfegbeickaknabGreatDoorCards
import Derived.Test.YtgfegbeickaknabGreatDoorTie
import Derived.LaidMore
import Derived.Lay
import Derived.SevenTiedAt
import Derived.Stop.Joined
import Derived.ProofKit
import Derived.OpenShut
import Derived.ShutString
import Derived.ChangeOld
import Derived.Below
import Derived.SizedLaws
import Derived.Test.YtgfegbeickaknabGreatDoorPk1
import Derived.Test.YtgfegbeickaknabGreatDoorMfAwake
import Derived.Test.YtgfegbeickaknabGreatDoorMfTab
import Derived.Test.YtgfegbeickaknabGreatDoorWk1
import Derived.Test.YtgfegbeickaknabGreatDoorRowPlain
namespace Go.Proofs.YtgfegbeickaknabGreatDoor
open Go.ChangeShapes Go.WideShapes Go.ChangeAt Go.RowKit

theorem mb_more {l c : Tx} {es es' : List Ed} {v v' : Tx} (h : Run l (mbS es v)) (hs : ∃ x r, lnT c = some ((false, x) :: r) ∧ runL (mbS es v) ((false, x) :: r) = .ok (mbS es' v')) : Run (l ++ c) (mbS es' v') := by
  obtain ⟨x, r, h1, h2⟩ := hs
  exact h.more h1 h2
theorem of_byteB {c : UInt8} {k : Nat} (h : (c.toNat : Int) = 97 + (k : Int)) : c = UInt8.ofNat (97 + k) := by
  rw [show 97 + k = c.toNat by omega, UInt8.ofNat_toNat]
theorem lay_str : ∀ ys : List ByteArray, lay (fun y : ByteArray => [Value.string y]) ys = ys.map Value.string
  | [] => rfl
  | a :: r => by
    have := lay_str r
    show Value.string a :: lay (fun y : ByteArray => [Value.string y]) r = _
    rw [this]; rfl
def cmE (e : Ed) : Tx := e.2.2.2.2.1

set_option maxRecDepth 20000 in
set_option maxHeartbeats 16000000 in
theorem manifestBinds_any (w : World) (a : Option Addr) (len cap : Nat) (z : List Int) (hrow : IsRow .i64 w a len cap z) (htab : TabB w.heap.size w) :
    Calls Tryz.prog 3 #[.slice a len cap] w fun e w' => e = .returned (.bool true) ∧ Q w w' := by
  have HT := hide htab
  clear htab
  obtain ⟨i0, hi, hz0, hz1, hz2⟩ := info_parts Tryz.infoS
  obtain ⟨hlc, hcm, hzl, hcells, _⟩ := hrow
  unfold maxLen at hcm
  go_enter Tryz.func3, Tryz.ntmps3
  go_wp2_with fail
  refine (mfawake_any _ (unhide HT)).mono ?_
  rintro e w1 ⟨rfl, q1⟩
  go_wp2_with fail
  go_loopw [3, 4, 5, 6] (fun sv vv v5 i wr => ∃ (k : Nat) (t v : ByteArray) (ys : List ByteArray) (es : List Ed) (ao : Option Addr) (cp : Nat), k ≤ len ∧ k ≤ 12 ∧ i = .int .i64 k ∧ sv = .string t ∧ vv = .string v ∧ v5 = .slice ao ys.length cp ∧ ys.length ≤ k ∧ t.size ≤ 28 + 20 * k ∧ v.size ≤ 199 ∧ wr.ownsRow w1.heap.size 9 1 (.slice ao ys.length cp) ys.length (ys.map Value.string) ∧ Q w1 wr ∧ Hid (okV (bl v)) ∧ Hid (Run (bl t) (mbS es (bl v))) ∧ Hid (ys.map bl = es.map cmE)) (fun _ _ _ i _ => len - (intOf i).toNat)
  case atStart => exact ⟨0, (ByteArray.mk #[114, 117, 108, 101, 32, 99, 99, 10, 32, 99, 111, 109, 109, 97, 110, 100, 32, 61, 32, 60, 36, 118, 62, 36, 111, 117, 116, 10]), (ByteArray.mk #[]), [], [], none, 0, Nat.zero_le _, Nat.zero_le _, rfl, rfl, rfl, rfl, Nat.le_refl _, by decide, by decide, World.ownsRow_nil _ _ _ _, Q.refl _, (⟨rfl, by decide⟩ : okV []), mb_base, (rfl : ([] : List Tx) = [])⟩
  case round =>
    obtain ⟨k, t, v, ys, es, ao, cp, hk, hk12, rfl, rfl, rfl, rfl, hyk, hts, hvs, hown, hq, HV, HRN, HYE⟩ := hrel
    have hyc := own_le hown
    have hqs := hq.size
    have HEL : Hid (es.length = ys.length) := by
      show _ = _
      have h1 := congrArg List.length HYE.out
      rw [List.length_map, List.length_map] at h1
      exact h1.symm
    by_cases hlt : k < len ∧ k < 12
    · obtain ⟨hlt, hlt2⟩ := hlt
      rcases hcells with h0 | ⟨b, o, rfl, hb, hcell⟩
      · omega
      have hc : wr.cell? ⟨b, o + k, none⟩ = some (.int .i64 (z.getD k 0)) := ((q1.trans hq).cell (p := ⟨b, o + k, none⟩) hb).trans (hcell k hlt)
      generalize z.getD k 0 = n at hc
      have hc2 : ∀ ob, (wr.alloc ob).cell? ⟨b, o + k, none⟩ = some (.int .i64 n) := fun ob => by
        rw [World.cell?_alloc_old _ _ _ (Nat.ne_of_lt (World.block_lt_of_cell? _ _ hc))]; exact hc
      have hlt3 : (k : Int) < 12 := by omega
      clear hcell
      obtain ⟨c, hcc, hcv⟩ := str_int (97 + (k : Int)) (by omega) (by omega)
      have HCC := hide (of_byteB hcc)
      clear hcc
      obtain ⟨r, hr3, hr⟩ := umod n 3 (by decide) (by decide)
      have hr' : wrap64 ((IntKind.u64.wrap n).tmod 3) = (r : Int) := hr
      clear hr
      rcases (by omega : r = 0 ∨ r = 1 ∨ r = 2) with rfl | rfl | rfl
      · have HZ : Hid ((t ++ (ByteArray.mk #[118, 32, 61, 32]) ++ ⟨#[c]⟩ ++ (ByteArray.mk #[10])).size = t.size + 6) := by show _ = _; rw [← bl_size]; simp only [bl_app, List.length_append, bl_size]; rfl
        have HR2 : Hid (Run (bl (t ++ (ByteArray.mk #[118, 32, 61, 32]) ++ ⟨#[c]⟩ ++ (ByteArray.mk #[10]))) (mbS es (bl ⟨#[c]⟩))) := by
          show Run _ _
          have := mb_more HRN.out (mb0_step k hlt2 es (bl v) HV.out)
          rwa [show bl (t ++ (ByteArray.mk #[118, 32, 61, 32]) ++ ⟨#[c]⟩ ++ (ByteArray.mk #[10])) = bl t ++ mb0 k by rw [bl_app, bl_app, bl_app, unhide HCC]; unfold mb0; simp only [List.append_assoc]; rfl, show bl ⟨#[c]⟩ = mbC k by rw [unhide HCC]; rfl]
        have HV2 : Hid (okV (bl ⟨#[c]⟩)) := by
          rw [show bl ⟨#[c]⟩ = mbC k by rw [unhide HCC]; rfl]
          exact ⟨(mb0_all k hlt2).2.2.2.2.2, by unfold mbC; simp⟩
        clear HRN HV
        go_wp2_with fail
        go_roundw
        case rel =>
          refine ⟨k + 1, _, _, ys, es, ao, cp, by omega, by omega, by go_num, rfl, rfl, rfl, by omega, ?_, ?_, hown.alloc _, hq.alloc _, HV2, HR2, HYE⟩
          · have := HZ.out; omega
          · show (1 : Nat) ≤ 199; decide
        case measure => simp [intOf]; omega
      · by_cases hv : v.size < 100
        · have hv' : (v.size : Int) < 100 := by omega
          have HZ : Hid ((t ++ (ByteArray.mk #[118, 32, 61, 32, 36, 123, 118, 125, 36, 123, 118, 125]) ++ ⟨#[c]⟩ ++ (ByteArray.mk #[10])).size = t.size + 14 ∧ (v ++ v ++ ⟨#[c]⟩).size = v.size + v.size + 1) := by
            constructor
            all_goals (rw [← bl_size]; simp only [bl_app, List.length_append, bl_size]; rfl)
          have HR2 : Hid (Run (bl (t ++ (ByteArray.mk #[118, 32, 61, 32, 36, 123, 118, 125, 36, 123, 118, 125]) ++ ⟨#[c]⟩ ++ (ByteArray.mk #[10]))) (mbS es (bl (v ++ v ++ ⟨#[c]⟩)))) := by
            show Run _ _
            have := mb_more HRN.out (mb1_step k hlt2 es (bl v) HV.out (by rw [bl_size]; exact hv))
            rwa [show bl (t ++ (ByteArray.mk #[118, 32, 61, 32, 36, 123, 118, 125, 36, 123, 118, 125]) ++ ⟨#[c]⟩ ++ (ByteArray.mk #[10])) = bl t ++ mb1 k by rw [bl_app, bl_app, bl_app, unhide HCC]; unfold mb1; simp only [List.append_assoc]; rfl, show bl (v ++ v ++ ⟨#[c]⟩) = bl v ++ bl v ++ mbC k by rw [bl_app, bl_app, unhide HCC]; rfl]
          have HV2 : Hid (okV (bl (v ++ v ++ ⟨#[c]⟩))) := by
            show okV _
            rw [show bl (v ++ v ++ ⟨#[c]⟩) = bl v ++ bl v ++ mbC k by rw [bl_app, bl_app, unhide HCC]; rfl]
            refine ⟨by rw [plainL_app, plainL_app, HV.out.1, (mb1_all k hlt2).2.2.2.2.2]; rfl, ?_⟩
            have : (bl v).length = v.size := bl_size v
            simp [mbC]; omega
          clear HRN HV
          go_wp2_with fail
          go_roundw
          case rel =>
            refine ⟨k + 1, _, _, ys, es, ao, cp, by omega, by omega, by go_num, rfl, rfl, rfl, by omega, ?_, ?_, hown.alloc _, hq.alloc _, HV2, HR2, HYE⟩
            · have := HZ.out.1; omega
            · have := HZ.out.2; omega
          case measure => simp [intOf]; omega
        · have hv' : (100 : Int) ≤ (v.size : Int) := by omega
          go_wp2_with fail
          go_roundw
          case rel => exact ⟨k + 1, t, v, ys, es, ao, cp, by omega, by omega, by go_num, rfl, rfl, rfl, by omega, by omega, hvs, hown.alloc _, hq.alloc _, HV, HRN, HYE⟩
          case measure => simp [intOf]; omega
      · have HZ : Hid ((t ++ (ByteArray.mk #[98, 117, 105, 108, 100, 32, 111]) ++ ⟨#[c]⟩ ++ (ByteArray.mk #[32, 58, 32, 99, 99, 10])).size = t.size + 14) := by show _ = _; rw [← bl_size]; simp only [bl_app, List.length_append, bl_size]; rfl
        have HR2 : Hid (Run (bl (t ++ (ByteArray.mk #[98, 117, 105, 108, 100, 32, 111]) ++ ⟨#[c]⟩ ++ (ByteArray.mk #[32, 58, 32, 99, 99, 10]))) (mbS (es ++ [mbE k (bl v)]) (bl v))) := by
          show Run _ _
          have := mb_more HRN.out (mb2_step k hlt2 es (bl v) HV.out (by rw [bl_size]; omega) (by have := HEL.out; omega))
          rwa [show bl (t ++ (ByteArray.mk #[98, 117, 105, 108, 100, 32, 111]) ++ ⟨#[c]⟩ ++ (ByteArray.mk #[32, 58, 32, 99, 99, 10])) = bl t ++ mb2 k by rw [bl_app, bl_app, bl_app, unhide HCC]; unfold mb2; simp only [List.append_assoc]; rfl]
        have HY2 : Hid ((ys ++ [(ByteArray.mk #[60]) ++ v ++ (ByteArray.mk #[62, 111]) ++ ⟨#[c]⟩]).map bl = (es ++ [mbE k (bl v)]).map cmE) := by
          show _ = _
          rw [List.map_append, List.map_append, HYE.out]
          show _ ++ [bl ((ByteArray.mk #[60]) ++ v ++ (ByteArray.mk #[62, 111]) ++ ⟨#[c]⟩)] = _ ++ [cmE (mbE k (bl v))]
          rw [show bl ((ByteArray.mk #[60]) ++ v ++ (ByteArray.mk #[62, 111]) ++ ⟨#[c]⟩) = cmE (mbE k (bl v)) by rw [bl_app, bl_app, bl_app, unhide HCC]; rfl]
        clear HRN HYE HEL
        go_wp2_with (at_builtin; refine wpList_append_lies _ rfl _ _ 24 rfl w1.heap.size 9 i0 (.string ByteArray.empty) 1 16 Tryz.underlying24 hi hz0 hz1 hz2 rfl (by decide) _ _ _ rfl ((hown.alloc _).alloc _) ⟨wr.heap.size + 1, 0, none⟩ 1 1 [.string ((ByteArray.mk #[60]) ++ v ++ (ByteArray.mk #[62, 111]) ++ ⟨#[c]⟩)] rfl rfl (news_at (by simp) #[.string ((ByteArray.mk #[60]) ++ v ++ (ByteArray.mk #[62, 111]) ++ ⟨#[c]⟩)] _) (one_str _) (by decide) (by unfold maxLen; omega) (by omega) (le_alloc (le_alloc hqs _) _) (wr.heap.size + 2) (by simp) ?_)
        intro g' cp' w2 hown2 hgrow hor hglt
        have hq2 : Q w1 w2 := Below.grown ((hq.alloc _).alloc _) hgrow (le_alloc (le_alloc hqs _) _) (fun r hr => (hown.lt r hr).1)
        have HO : Hid (w2.ownsRow w1.heap.size 9 1 (.slice (some ⟨g', 0, none⟩) (ys ++ [(ByteArray.mk #[60]) ++ v ++ (ByteArray.mk #[62, 111]) ++ ⟨#[c]⟩]).length cp') (ys ++ [(ByteArray.mk #[60]) ++ v ++ (ByteArray.mk #[62, 111]) ++ ⟨#[c]⟩]).length ((ys ++ [(ByteArray.mk #[60]) ++ v ++ (ByteArray.mk #[62, 111]) ++ ⟨#[c]⟩]).map Value.string)) := by
          have h := hown2
          rw [List.map_append, List.length_append]
          exact h
        clear hown2 hgrow hown hor
        go_wp2
        go_roundw
        case rel =>
          refine ⟨k + 1, _, v, ys ++ [(ByteArray.mk #[60]) ++ v ++ (ByteArray.mk #[62, 111]) ++ ⟨#[c]⟩], es ++ [mbE k (bl v)], some ⟨g', 0, none⟩, cp', by omega, by omega, by go_num, rfl, rfl, ?_, ?_, ?_, hvs, unhide HO, hq2, HV, HR2, HY2⟩
          · simp
          · simp; omega
          · have := HZ.out; omega
        case measure => simp [intOf]; omega
    · have HMF := hide (HRN.out.mf (by rw [bl_size]; omega))
      have HRW : Hid (RowG (fun y : ByteArray => [Value.string y]) 1 wr ao ys) := RowG.own (f := fun y : ByteArray => [Value.string y]) (sz := 1) (fun _ => rfl) (by decide) (show wr.ownsRow w1.heap.size 9 1 (.slice ao ys.length cp) ys.length (lay (fun y : ByteArray => [Value.string y]) ys) by
        rw [show lay (fun y : ByteArray => [Value.string y]) ys = ys.map Value.string from lay_str ys]; exact hown)
      have hel : ys.length ≤ 12 := by omega
      clear HRN hown hcells HV
      rcases (by omega : (len : Int) ≤ (k : Int) ∨ ((k : Int) < (len : Int) ∧ (12 : Int) ≤ (k : Int))) with hA | ⟨hA, hB⟩
      all_goals
        go_wp2_with fail
        refine (parse_gr t wr ((unhide HT).q (q1.trans hq)) (by unfold maxLen; omega) (mf_of (unhide HMF))).mono ?_
        rintro e w2 ⟨es2, eo, po, dd, ec, pc, dc, rfl, hr2, q2⟩
        have HEM : Hid (es2.map Prod.fst = es) := hr2.em
        have hl2 : es2.length = ys.length := by
          have h1 := congrArg List.length HEM.out
          rw [List.length_map] at h1
          rw [h1]; exact HEL.out
        have HR2 := hide hr2.e
        rw [hl2, show (grOf (mbS es (bl v))).2.1.length = 0 from rfl, show (grOf (mbS es (bl v))).2.2.length = 0 from rfl]
        clear hr2 HMF
        go_upto_region 21 with fail
        have b3 := Blk.new w2 #[.slice eo ys.length ec, .slice po 0 pc, .slice dd 0 dc] 30
        have q3 := (Q.refl w2).alloc (.cells #[.slice eo ys.length ec, .slice po 0 pc, .slice dd 0 dc] 30)
        have HR3 := hide ((unhide HR2).q q3)
        have HRW3 := hide ((unhide HRW).q (q2.trans q3))
        have HB3 := hide b3
        have qz := ((q1.trans hq).trans q2).trans q3
        clear HR2 HRW b3 q3
        generalize w2.heap.size = G at *
        generalize w2.alloc (.cells #[.slice eo ys.length ec, .slice po 0 pc, .slice dd 0 dc] 30) = w3 at *
        have x0 : w3.cell? ⟨G, 0, none⟩ = some (.slice eo ys.length ec) := (unhide HB3).cell 0 rfl
        have HEQ : Hid (∀ (j : Nat) (p : EdA) (y : ByteArray), es2[j]? = some p → ys[j]? = some y → (⟨p.1.2.2.2.2.1.toArray⟩ : ByteArray) = y) := by
          intro j p y hp hy
          have h1 : (es.map cmE)[j]? = some (cmE p.1) := by rw [← HEM.out, List.getElem?_map, List.getElem?_map, hp]; rfl
          have h2 : (ys.map bl)[j]? = some (bl y) := by rw [List.getElem?_map, hy]; rfl
          rw [HYE.out, h1] at h2
          have h3 : p.1.2.2.2.2.1 = bl y := Option.some.inj h2
          rw [h3, mk_bl]
        clear HYE HEM HEL
        have HL2 := hide hl2
        clear hl2
        go_wp2_with (go_at_call 6; refine (num_any _ _).mono ?_; rintro e w3 ⟨rfl, rfl⟩)
        clear x0
        go_loopw [10] (fun i wr => ∃ j : Nat, j ≤ ys.length ∧ i = .int .i64 j ∧ Q w3 wr) (fun i _ => ys.length - (intOf i).toNat)
        case atStart => exact ⟨0, Nat.zero_le _, rfl, Q.refl _⟩
        case round =>
          obtain ⟨j, hj, rfl, hq3⟩ := hrel
          by_cases hlt3 : j < ys.length
          · have x0 : wr.cell? ⟨G, 0, none⟩ = some (.slice eo ys.length ec) := ((unhide HB3).q hq3).cell 0 rfl
            rcases (unhide HR3).q hq3 with he | ⟨gg, oo, rfl, hcg, hcc⟩
            · have := unhide HL2; rw [he] at this; simp at this; omega
            rcases (unhide HRW3).q hq3 with he | ⟨g3, o3, rfl, hdg, hdc⟩
            · rw [he] at hlt3; simp at hlt3
            obtain ⟨p, hp⟩ : ∃ p, es2[j]? = some p := ⟨es2[j]'(by have := unhide HL2; omega), List.getElem?_eq_getElem _⟩
            obtain ⟨y, hy⟩ : ∃ y, ys[j]? = some y := ⟨ys[j], List.getElem?_eq_getElem hlt3⟩
            have c4 : wr.cell? ⟨gg, oo + j * 7 + 4, none⟩ = some (.string y) := by
              have := hcc j 4 p _ hp (by decide) rfl
              rw [HEQ.out j p y hp hy] at this
              exact this
            have d0 : wr.cell? ⟨g3, o3 + j, none⟩ = some (.string y) := by
              have := hdc j 0 y _ hy (by decide) rfl
              simpa using this
            clear hcc hdc hp hy
            go_wp2_with fail
            go_region
            go_wp2_with fail
            go_roundw
            case rel => exact ⟨j + 1, by omega, by go_num, hq3.drew⟩
            case measure => simp [intOf]; omega
          · go_wp2_with fail
            go_ret
            exact ⟨rfl, qz.trans hq3⟩

theorem Tryz.laidOut : laidOutB Tryz.prog = true := by kernel_rfl
set_option maxRecDepth 100000 in
theorem manifestBinds_lifted (os : Os) (started : os.Started) (H : Type) (enc : TypeId × Value → H) :
    ReturnsInHanded {} Tryz.checked os 3 .any (fun w args => (Rows.manifestBindsSpec.pre enc Tryz.prog Tryz.f3 [] false w args ∧ laidMetH Tryz.prog Rows.manifestBindsRow.laid w) ∧ sizedMet enc Tryz.prog Tryz.f3 (OpenSpec.ofChange Rows.manifestBindsSpec) false w args) (Rows.manifestBindsSpec.post enc Tryz.prog Tryz.f3 false true false false) := by
  refine returnsInHanded_of_change_and (C := Tryz.checked) (X := fun w _ => laidMetH Tryz.prog Rows.manifestBindsRow.laid w) (fun _ _ _ hh h => h.of_heap hh) Tryz.own started (by kernel_rfl) Tryz.func3
    (ChangeSpec.witness_shaped (enc := enc) (C := Tryz.checked) (os := os) (X := fun w _ => laidMetH Tryz.prog Rows.manifestBindsRow.laid w) false (World.laidAll Tryz.prog os Rows.manifestBindsRow.laid) #[.slice none 0 0] 8 (World.laidAll_os _ _ _)
      (World.shaped_of_ZipB (by kernel_rfl) (by kernel_rfl)) (by kernel_rfl) (by kernel_rfl) (by kernel_rfl)
      (by rw [MakeChecks.laidMetH_plain _ _ _ (by kernel_rfl)]; exact laidMet_laidAll _ (by kernel_rfl) (by kernel_rfl))) ?_
  intro W base args ds gs before hval0 hW _ hsz0 hL _
  have hval : ∀ (j : Nat) t v, Tryz.f3.params[j]? = some t → args[j]? = some v → Value.okWide Tryz.prog W .any base t v := hval0
  have hW' := hW
  obtain ⟨p, q, hA0, hV, rfl, hfz, hnd⟩ := hW
  have hA : DataW.TrodAll enc Tryz.prog W 0 (fun _ => true) true Tryz.f3.params.toList args.toList ds p := hA0
  rw [Tryz.params3] at hA hval
  obtain ⟨v0, vs0, d0, ds0, p0, q0, hargs, rfl, rfl, h0, r0⟩ := trodAll_cons hA
  obtain ⟨rfl, rfl, rfl⟩ := trodAll_nil r0
  obtain rfl : args = #[v0] := by cases args; simp_all
  obtain ⟨rfl, rfl⟩ := trodVars_none hV
  obtain ⟨a0, len0, cap0, rfl⟩ := okWide_slice Tryz.underlying22 (hval 0 22 v0 rfl rfl)
  have k0 := h0
  have lt0 : ∀ x ∈ p0, x.block < W.heap.size := by obtain ⟨m, hm⟩ := k0; exact DataW.trod_lt m _ _ _ hm
  obtain ⟨z0, w0⟩ : ∃ zs, IsRow .i64 W a0 len0 cap0 zs := is_row Tryz.underlying22 Tryz.underlying3 (by kernel_rfl) h0
  clear hA0 hval0
  refine (manifestBinds_any W a0 len0 cap0 z0 w0 (tab_of_laid (laid := Rows.manifestBindsRow.laid) (by kernel_rfl) hL)).mono fun e W' ⟨he, bel⟩ => ?_
  subst he
  exact ⟨_, rfl, _, _, _, [], _, [], hW', trodAll_mk1 (shut_bool Tryz.underlying4 _), (trodAll_cons_mk (Below.trod Tryz.laidOut (by kernel_rfl) (of_decide_eq_true (by kernel_rfl)) k0 bel lt0) trodAll_mk0), rfl, bel.frame _, fun h => by cases h⟩

theorem manifestBinds_holds : Rows.ManifestBindsSaid :=
  OpenClaim.holds_of_wide 3 Tryz.f3 rfl rfl rfl rfl rfl rfl rfl ⟨rfl, rfl, rfl, rfl, rfl⟩ rfl rfl rfl rfl rfl (by kernel_rfl) Tryz.func3 (by kernel_rfl)
    (of_decide_eq_true (by kernel_rfl)) (by unfold Func.isWrapper; first | (rw [if_pos (by decide +kernel)]; kernel_rfl) | (rw [if_neg (by decide +kernel)]; exact ⟨rfl, rfl⟩))
    (fun os started H enc _ => manifestBinds_lifted os started H enc)
theorem manifestBinds_card : Rows.ManifestBindsCardSaid :=
  Claim7.holds_tied_plain_at .later [] [.data, .listed, .data, .pinned] true (true, "e91aa74e5e6161712afa0d2e35e099038aebbe27e67d30108803e65392c41e5d") false manifestBinds_holds (fun _ h => by cases h) (by kernel_rfl) (fun _ h => by cases h) manifestBinds_row_tie rfl ⟨rfl, rfl⟩ (by kernel_rfl) rfl
    (fun f fn hf hfn => by
      obtain rfl : f = 3 := Option.some.inj ((show Tryz.prog.funcNamed Rows.manifestBindsRow.func = some 3 by kernel_rfl).symm.trans hf) |>.symm
      obtain rfl : fn = Tryz.f3 := (Option.some.inj (Tryz.func3.symm.trans hfn)).symm
      exact ⟨by kernel_rfl, fun j t ht => by
        rw [Tryz.params3] at ht
        have hm : t ∈ [22] := by simpa using Array.mem_of_getElem? ht
        have hall : ([22].all fun u => !Tryz.prog.wantsStandIn u) = true := by kernel_rfl
        exact (show Tryz.prog.wantsStandIn t = false by simpa using List.all_eq_true.1 hall t hm)⟩)
    (by kernel_rfl)
#print axioms manifestBinds_card
end Go.Proofs.YtgfegbeickaknabGreatDoor
