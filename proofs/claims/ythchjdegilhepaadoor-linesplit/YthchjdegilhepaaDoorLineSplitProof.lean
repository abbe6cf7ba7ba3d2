/- The statement on a line that is broken at its blanks, or nowhere, holds for every row of numbers and every number; no conditions. -/
import Derived.Test.YthchjdegilhepaaDoorRows
import Derived.Test.YthchjdegilhepaaDoorCards
import Derived.Test.YthchjdegilhepaaDoorTie
import Derived.LaidMore
import Derived.Lay
import Derived.SevenTiedAt
import Derived.Stop.Joined
import Derived.ProofKit
import Derived.OpenShut
import Derived.ShutString
import Derived.ChangeOld
import Derived.Below
import Derived.SizedLaws
import Derived.Test.YthchjdegilhepaaDoorRowPlain
import Derived.Test.YthchjdegilhepaaDoorBitPlain
import Derived.Test.YthchjdegilhepaaDoorStrOne
import Derived.Test.YthchjdegilhepaaDoorLnAwake
import Derived.Test.YthchjdegilhepaaDoorLnMore
import Derived.Test.YthchjdegilhepaaDoorLsPlain
namespace Go.Proofs.YthchjdegilhepaaDoor
open Go.ChangeShapes Go.WideShapes Go.ChangeAt Go.RowKit

theorem nlS : lnS ([] ++ bl { data := #[10] }) = [] ∧ lnE ([] ++ bl { data := #[10] }) = 0 := by decide +kernel

/-- The state of the walk. -/
def LS (k : Nat) (s t : ByteArray) : Prop := (k = 0 ∧ bl s = [] ∧ bl t = []) ∨ (0 < k ∧ Brk (bl s) (bl s) ∧ Brk (bl s) (bl t))

theorem LS.first {k : Nat} {s t : ByteArray} {c : UInt8} (h : LS k s t) (hk : k = 0) (hc : Let c) : LS (k + 1) (s ++ ⟨#[c]⟩) (t ++ ⟨#[c]⟩) := by
  rcases h with ⟨_, h1, h2⟩ | ⟨h, _⟩
  · refine Or.inr ⟨by omega, ?_⟩
    rw [bl_app, bl_app, h1, h2]
    exact ⟨Brk.one hc, Brk.one hc⟩
  · omega
theorem LS.plain {k : Nat} {s t : ByteArray} {c : UInt8} (h : LS k s t) (hk : 0 < k) (hc : Let c) : LS (k + 1) (s ++ ⟨#[32]⟩ ++ ⟨#[c]⟩) (t ++ ⟨#[32]⟩ ++ ⟨#[c]⟩) := by
  rcases h with ⟨h, _⟩ | ⟨_, h1, h2⟩
  · omega
  · refine Or.inr ⟨by omega, ?_⟩
    rw [bl_app, bl_app, bl_app, bl_app]
    exact ⟨h1.plain hc, h2.plain hc⟩
theorem LS.broken {k : Nat} {s t : ByteArray} {c : UInt8} (h : LS k s t) (hk : 0 < k) (hc : Let c) : LS (k + 1) (s ++ ⟨#[32]⟩ ++ ⟨#[c]⟩) (t ++ ⟨#[32]⟩ ++ ⟨#[36, 10, 32, 32, 32, 32]⟩ ++ ⟨#[c]⟩) := by
  rcases h with ⟨h, _⟩ | ⟨_, h1, h2⟩
  · omega
  · refine Or.inr ⟨by omega, ?_⟩
    rw [bl_app, bl_app, bl_app, bl_app, bl_app]
    exact ⟨h1.plain hc, h2.broken hc⟩

set_option maxRecDepth 20000 in
set_option maxHeartbeats 4000000 in
theorem lineSplit_any (w : World) (a : Option Addr) (len cap : Nat) (z : List Int) (hrow : IsRow .i64 w a len cap z) (n : Int) (_ : (Lit.int .i64 n).wf = true) :
    Calls Tryd.prog 7 #[.slice a len cap, .int .i64 n] w fun e w' => e = .returned (.bool true) ∧ Q w w' := by
  obtain ⟨hlc, hcm, hzl, hcells, _⟩ := hrow
  unfold maxLen at hcm
  go_enter Tryd.func7, Tryd.ntmps7
  go_wp2_with fail
  refine (lnawake_any _).mono ?_
  rintro e w1 ⟨rfl, q1⟩
  go_wp2_with fail
  go_loopw [5, 6, 7] (fun sv tv i wr => ∃ (k : Nat) (s t : ByteArray), k ≤ len ∧ k ≤ 12 ∧ i = .int .i64 k ∧ sv = .string s ∧ tv = .string t ∧ s.size ≤ k * 2 ∧ t.size ≤ k * 8 ∧ Q w1 wr ∧ Hid (LS k s t)) (fun _ _ i _ => len - (intOf i).toNat)
  case atStart => exact ⟨0, ⟨#[]⟩, ⟨#[]⟩, by omega, by omega, rfl, rfl, rfl, by decide, by decide, Q.refl _, Or.inl ⟨rfl, rfl, rfl⟩⟩
  case round =>
    obtain ⟨k, s, t, hk, hk12, rfl, rfl, rfl, hss, hts, hq, HL⟩ := hrel
    have hqs := hq.size
    by_cases hlt : k < len ∧ k < 12
    · obtain ⟨hlt, hlt2⟩ := hlt
      rcases hcells with h0 | ⟨b, o, rfl, hb, hcell⟩
      · omega
      have hc : wr.cell? ⟨b, o + k, none⟩ = some (.int .i64 (z.getD k 0)) := ((q1.trans hq).cell (p := ⟨b, o + k, none⟩) hb).trans (hcell k hlt)
      generalize z.getD k 0 = m at hc
      have hlt3 : (k : Int) < 12 := by omega
      have h15 := and15 m
      obtain ⟨p, hp⟩ : ∃ p : Nat, m % 16 = (p : Int) := ⟨(m % 16).toNat, by omega⟩
      have hp16 : p < 16 := by omega
      rw [hp] at h15
      clear hp hcell
      obtain ⟨c, hcc, hcv⟩ := str_int (97 + (p : Int)) (by omega) (by omega)
      have HLC : Hid (Let c) := ⟨by omega, by omega⟩
      clear hcc
      rcases Nat.eq_zero_or_pos k with h0 | h0
      · have hk0 : (k : Int) ≤ 0 := by omega
        have HZ : Hid ((s ++ ⟨#[c]⟩).size = s.size + 1 ∧ (t ++ ⟨#[c]⟩).size = t.size + 1) := ⟨ByteArray.size_append, ByteArray.size_append⟩
        have HS := hide (LS.first HL.out h0 HLC.out)
        clear HL h0
        go_wp2_with fail
        go_roundw
        case rel =>
          refine ⟨k + 1, _, _, by omega, by omega, by go_num, rfl, rfl, ?_, ?_, hq.alloc _, ?_⟩
          · have := HZ.out; omega
          · have := HZ.out; omega
          · exact HS
        case measure => simp [intOf]; omega
      · have h0' : (0 : Int) < (k : Int) := by omega
        have h1 := and1 (n / 2 ^ k)
        rcases (by omega : n / 2 ^ k % 2 = 0 ∨ n / 2 ^ k % 2 = 1) with h2 | h2
        · rw [h2] at h1
          clear h2
          have HZ : Hid ((s ++ ⟨#[32]⟩ ++ ⟨#[c]⟩).size = s.size + 2 ∧ (t ++ ⟨#[32]⟩ ++ ⟨#[c]⟩).size = t.size + 2) := by
            constructor
            all_goals (rw [← bl_size]; simp only [bl_app, List.length_append, bl_size]; rfl)
          have HS := hide (LS.plain HL.out h0 HLC.out)
          clear HL
          go_wp2_with fail
          go_roundw
          case rel =>
            refine ⟨k + 1, _, _, by omega, by omega, by go_num, rfl, rfl, ?_, ?_, hq.alloc _, ?_⟩
            · have := HZ.out; omega
            · have := HZ.out; omega
            · exact HS
          case measure => simp [intOf]; omega
        · rw [h2] at h1
          clear h2
          have HZ : Hid ((s ++ ⟨#[32]⟩ ++ ⟨#[c]⟩).size = s.size + 2 ∧ (t ++ ⟨#[32]⟩ ++ ⟨#[36, 10, 32, 32, 32, 32]⟩ ++ ⟨#[c]⟩).size = t.size + 8) := by
            constructor
            all_goals (rw [← bl_size]; simp only [bl_app, List.length_append, bl_size]; rfl)
          have HS := hide (LS.broken HL.out h0 HLC.out)
          clear HL
          go_wp2_with fail
          go_roundw
          case rel =>
            refine ⟨k + 1, _, _, by omega, by omega, by go_num, rfl, rfl, ?_, ?_, hq.alloc _, ?_⟩
            · have := HZ.out; omega
            · have := HZ.out; omega
            · exact HS
          case measure => simp [intOf]; omega
    · have hz1 : (s ++ ⟨#[10]⟩).size = s.size + 1 := ByteArray.size_append
      have hz2 : (t ++ ⟨#[10]⟩).size = t.size + 1 := ByteArray.size_append
      rcases Nat.eq_zero_or_pos len with h0 | h0
      · subst h0
        obtain rfl : k = 0 := by omega
        have HF : Hid ((lnS (bl (s ++ ⟨#[10]⟩)) = [] ∧ lnE (bl (s ++ ⟨#[10]⟩)) = 0) ∧ (lnS (bl (t ++ ⟨#[10]⟩)) = [] ∧ lnE (bl (t ++ ⟨#[10]⟩)) = 0)) := by
          rcases HL.out with ⟨_, h1, h2⟩ | ⟨h, _⟩
          · rw [bl_app, bl_app, h1, h2]; exact ⟨nlS, nlS⟩
          · omega
        have HC1 := hide (fun w => cutl_at (s ++ ⟨#[10]⟩) w (by unfold maxLen; omega) HF.out.1)
        have HC2 := hide (fun w => cutl_at (t ++ ⟨#[10]⟩) w (by unfold maxLen; omega) HF.out.2)
        clear HL HF hz1 hz2
        go_wp2_with fail
        refine (unhide HC1 _).mono ?_
        rintro e w2 ⟨ao2, cap2, rfl, _, q2⟩
        go_wp2_with fail
        refine (unhide HC2 _).mono ?_
        rintro e w3 ⟨ao3, cap3, rfl, _, q3⟩
        have qq := q1.trans (hq.trans (q2.trans q3))
        clear q2 q3
        go_wp2_with fail
        refine (num_any _ _).mono ?_
        rintro e w4 ⟨rfl, rfl⟩
        go_wp2_with fail
        go_ret
        exact ⟨rfl, qq⟩
      · have hk0 : 0 < k := by omega
        have HF : Hid ((lnS (bl (s ++ ⟨#[10]⟩)) = [(false, bl s)] ∧ lnE (bl (s ++ ⟨#[10]⟩)) = 0) ∧ (lnS (bl (t ++ ⟨#[10]⟩)) = [(false, bl s)] ∧ lnE (bl (t ++ ⟨#[10]⟩)) = 0)) := by
          rcases HL.out with ⟨h, _⟩ | ⟨_, h1, h2⟩
          · omega
          · exact ⟨ln_good (lnC_of (by rw [bl_app]; exact h1.cut) (by rw [bl_size]; omega)), ln_good (lnC_of (by rw [bl_app]; exact h2.cut) (by rw [bl_size]; omega))⟩
        have HC1 := hide (fun w => cutl_at (s ++ ⟨#[10]⟩) w (by unfold maxLen; omega) HF.out.1)
        have HC2 := hide (fun w => cutl_at (t ++ ⟨#[10]⟩) w (by unfold maxLen; omega) HF.out.2)
        have HLY : Hid ([Value.bool false, .string s] = lay lv [(false, bl s)]) := by
          show _ = [Value.bool false, .string ⟨(bl s).toArray⟩]
          rw [mk_bl]
        have hge : (len : Int) ≤ (k : Int) ∨ ((k : Int) < (len : Int) ∧ (12 : Int) ≤ (k : Int)) := by omega
        have hl0 : ((len : Int) == 0) = false := beq_eq_false_iff_ne.2 (by omega)
        clear HL HF hz1 hz2 hlt
        rcases hge with hge | ⟨hge1, hge2⟩
        all_goals
          go_wp2_with fail
          refine (unhide HC1 _).mono ?_
          rintro e w2 ⟨ao2, cap2, rfl, own2, q2⟩
          go_wp2_with fail
          refine (unhide HC2 _).mono ?_
          rintro e w3 ⟨ao3, cap3, rfl, own3, q3⟩
          have qq := q1.trans (hq.trans (q2.trans q3))
          have HR2 := hide ((OwnL.row own2).q q3)
          have HR3 := hide (OwnL.row own3)
          clear q2 q3 own2 own3
          go_wp2_with fail
          refine (num_any _ _).mono ?_
          rintro e w4 ⟨rfl, rfl⟩
          go_wp2_with fail
          refine (num_any _ _).mono ?_
          rintro e w5 ⟨rfl, rfl⟩
          go_wp2_with fail
          refine (sameL_any ao2 ao3 cap2 cap3 [(false, bl s)] [(false, bl s)] _ (unhide HR2) (unhide HR3) (by simp)).mono ?_
          rintro e w6 ⟨rfl, q6⟩
          rw [decide_eq_true (rfl : [(false, bl s)] = [(false, bl s)])]
          have HR6 := hide ((unhide HR2).q q6)
          go_wp2_with fail
          refine (sameL_any ao2 _ cap2 1 [(false, bl s)] [(false, bl s)] _ ((unhide HR6).q ((Q.refl _).alloc _)) (rowG_block lv_len _ _ _ [(false, bl s)] (unhide HLY)) (by simp)).mono ?_
          rintro e w7 ⟨rfl, q7⟩
          rw [decide_eq_true (rfl : [(false, bl s)] = [(false, bl s)])]
          have qr := qq.trans (q6.trans (((Q.refl _).alloc _).trans q7))
          clear qq q6 q7
          go_wp2_with fail
          go_ret
          exact ⟨rfl, qr⟩

theorem Tryd.laidOut : laidOutB Tryd.prog = true := by kernel_rfl
set_option maxRecDepth 100000 in
theorem lineSplit_lifted (os : Os) (started : os.Started) (H : Type) (enc : TypeId × Value → H) :
    ReturnsInHanded {} Tryd.checked os 7 .any (fun w args => (Rows.lineSplitSpec.pre enc Tryd.prog Tryd.f7 [] false w args ∧ laidMetH Tryd.prog Rows.lineSplitRow.laid w) ∧ sizedMet enc Tryd.prog Tryd.f7 (OpenSpec.ofChange Rows.lineSplitSpec) false w args) (Rows.lineSplitSpec.post enc Tryd.prog Tryd.f7 false true false false) := by
  refine returnsInHanded_of_change_and (C := Tryd.checked) (X := fun w _ => laidMetH Tryd.prog Rows.lineSplitRow.laid w) (fun _ _ _ hh h => h.of_heap hh) Tryd.own started (by kernel_rfl) Tryd.func7
    (ChangeSpec.witness_shaped (enc := enc) (C := Tryd.checked) (os := os) (X := fun w _ => laidMetH Tryd.prog Rows.lineSplitRow.laid w) false (World.laidAll Tryd.prog os Rows.lineSplitRow.laid) #[.slice none 0 0, .int .i64 0] 8 (World.laidAll_os _ _ _)
      (World.shaped_of_ZipB (by kernel_rfl) (by kernel_rfl)) (by kernel_rfl) (by kernel_rfl) (by kernel_rfl)
      (by rw [MakeChecks.laidMetH_plain _ _ _ (by kernel_rfl)]; exact laidMet_laidAll _ (by kernel_rfl) (by kernel_rfl))) ?_
  intro W base args ds gs before hval0 hW _ hsz0 hL _
  have hval : ∀ (j : Nat) t v, Tryd.f7.params[j]? = some t → args[j]? = some v → Value.okWide Tryd.prog W .any base t v := hval0
  have hW' := hW
  obtain ⟨p, q, hA0, hV, rfl, hfz, hnd⟩ := hW
  have hA : DataW.TrodAll enc Tryd.prog W 0 (fun _ => true) true Tryd.f7.params.toList args.toList ds p := hA0
  rw [Tryd.params7] at hA hval
  obtain ⟨v0, vs0, d0, ds0, p0, q0, hargs, rfl, rfl, h0, r0⟩ := trodAll_cons hA
  obtain ⟨v1, vs1, d1, ds1, p1, q1, rfl, rfl, rfl, h1, r1⟩ := trodAll_cons r0
  obtain ⟨rfl, rfl, rfl⟩ := trodAll_nil r1
  obtain rfl : args = #[v0, v1] := by cases args; simp_all
  obtain ⟨rfl, rfl⟩ := trodVars_none hV
  obtain ⟨a0, len0, cap0, rfl⟩ := okWide_slice Tryd.underlying35 (hval 0 35 v0 rfl rfl)
  have k0 := h0
  have lt0 : ∀ x ∈ p0, x.block < W.heap.size := by obtain ⟨m, hm⟩ := k0; exact DataW.trod_lt m _ _ _ hm
  obtain ⟨z0, w0⟩ : ∃ zs, IsRow .i64 W a0 len0 cap0 zs := is_row Tryd.underlying35 Tryd.underlying3 (by kernel_rfl) h0
  obtain ⟨a1, rfl, rfl, rfl, w1⟩ := open_int Tryd.underlying3 (hval 1 3 v1 rfl rfl) h1
  clear hA0 hval0
  refine (lineSplit_any W a0 len0 cap0 z0 w0 a1 w1).mono fun e W' ⟨he, bel⟩ => ?_
  subst he
  exact ⟨_, rfl, _, _, _, [], _, [], hW', trodAll_mk1 (shut_bool Tryd.underlying4 _), (trodAll_cons_mk (Below.trod Tryd.laidOut (by kernel_rfl) (of_decide_eq_true (by kernel_rfl)) k0 bel lt0) (trodAll_cons_mk (shut_int Tryd.underlying3 w1) trodAll_mk0)), rfl, bel.frame _, fun h => by cases h⟩

theorem lineSplit_holds : Rows.LineSplitSaid :=
  OpenClaim.holds_of_wide 7 Tryd.f7 rfl rfl rfl rfl rfl rfl rfl ⟨rfl, rfl, rfl, rfl, rfl⟩ rfl rfl rfl rfl rfl (by kernel_rfl) Tryd.func7 (by kernel_rfl)
    (of_decide_eq_true (by kernel_rfl)) (by unfold Func.isWrapper; first | (rw [if_pos (by decide +kernel)]; kernel_rfl) | (rw [if_neg (by decide +kernel)]; exact ⟨rfl, rfl⟩))
    (fun os started H enc _ => lineSplit_lifted os started H enc)
theorem lineSplit_card : Rows.LineSplitCardSaid :=
  Claim7.holds_tied_plain_at .later [] [.data, .pinned] true (true, "be002fb75483f9dd850ebf38b52f8a9eb6525c7705505c172b325be768154826") false lineSplit_holds (fun _ h => by cases h) (by kernel_rfl) (fun _ h => by cases h) lineSplit_row_tie rfl ⟨rfl, rfl⟩ (by kernel_rfl) rfl
    (fun f fn hf hfn => by
      obtain rfl : f = 7 := Option.some.inj ((show Tryd.prog.funcNamed Rows.lineSplitRow.func = some 7 by kernel_rfl).symm.trans hf) |>.symm
      obtain rfl : fn = Tryd.f7 := (Option.some.inj (Tryd.func7.symm.trans hfn)).symm
      exact ⟨by kernel_rfl, fun j t ht => by
        rw [Tryd.params7] at ht
        have hm : t ∈ [35, 3] := by simpa using Array.mem_of_getElem? ht
        have hall : ([35, 3].all fun u => !Tryd.prog.wantsStandIn u) = true := by kernel_rfl
        exact (show Tryd.prog.wantsStandIn t = false by simpa using List.all_eq_true.1 hall t hm)⟩)
    (by kernel_rfl)
#print axioms lineSplit_card
end Go.Proofs.YthchjdegilhepaaDoor
