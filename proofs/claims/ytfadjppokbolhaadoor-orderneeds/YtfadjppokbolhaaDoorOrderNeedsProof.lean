/- OrderNeeds, whole: each edge stands once, behind all that it needs, and the least one that may goes first, whatever the graph; no conditions. -/
import Derived.Test.YtfadjppokbolhaaDoorRows
import Derived.Test.YtfadjppokbolhaaDoorCards
import Derived.Test.YtfadjppokbolhaaDoorTie
import Derived.LaidMore
import Derived.Lay
import Derived.SevenTiedAt
import Derived.Stop.Joined
import Derived.ProofKit
import Derived.OpenShut
import Derived.ShutString
import Derived.ChangeOld
import Derived.Below
import Derived.SizedLaws
import Derived.Test.YtfadjppokbolhaaDoorGfOpen
import Derived.Test.YtfadjppokbolhaaDoorOrRNeeds
import Derived.Test.YtfadjppokbolhaaDoorOrAwake
namespace Go.Proofs.YtfadjppokbolhaaDoor
open Go.ChangeShapes Go.WideShapes Go.ChangeAt Go.RowKit

/-- What is known of a row at its k-th place. -/
theorem row_at {g : Gh} (h : orE g = 0) : (orL g).length = g.1.length ∧ (twB (ouL g.1) = false) ∧ ∀ (k x : Nat), (orL g)[k]? = some x → x < g.1.length ∧ tB (tld (fls g.1.length) ((orL g).take k)) x = false ∧ (∀ e, g.1[x]? = some e → (rnd g.1 e).all (tB (tld (fls g.1.length) ((orL g).take k))) = true) ∧ (∀ j e, j < x → g.1[j]? = some e → tB (tld (fls g.1.length) ((orL g).take k)) j = false → (rnd g.1 e).all (tB (tld (fls g.1.length) ((orL g).take k))) = false) := by
  obtain ⟨hc, r, h1, h2, h3⟩ := orL_facts h
  have ht := ck_tw hc
  rw [h1]
  refine ⟨h2, ht, fun k x hk => ?_⟩
  obtain ⟨a, b, c⟩ := nxt_is (steps_at h3 hk)
  have b2 := b
  rw [okB_at (List.getElem?_eq_getElem a), Bool.and_eq_true, Bool.not_eq_true'] at b2
  refine ⟨a, b2.1, fun e he => ?_, fun j e hj he htb => ?_⟩
  · rw [okB_at he, Bool.and_eq_true] at b
    rw [rnd_all ht]; exact b.2
  · have := c j hj
    rw [okB_at he, htb] at this
    rw [rnd_all ht]; simpa using this

set_option maxRecDepth 20000 in
set_option maxHeartbeats 16000000 in
theorem orderNeeds_any (w : World) (g : Gh) (es : List EdA) (eo po dd : Option Addr) (ec pc dc : Nat) (hg0 : IsGr w g es eo po dd ec pc dc) :
    Calls Tryd.prog 3 #[.agg #[.slice eo es.length ec, .slice po g.2.1.length pc, .slice dd g.2.2.length dc]] w fun e w' => e = .returned (.bool true) ∧ Q w w' := by
  obtain ⟨i1, ji, jz0, jz1, jz2⟩ : ∃ i1, Tryd.prog.info? 4 = some i1 ∧ i1.zero = some (.bool false) ∧ i1.size = 1 ∧ i1.bytes = 1 := ⟨_, rfl, rfl, rfl, rfl⟩
  have hpm : pc ≤ maxLen := by have := hg0.pc2; unfold reachBytes at this; unfold maxLen; omega
  have HS := hide (hg0.r.osays ec pc dc hg0.pc1 hpm)
  have HG := hide hg0.r
  have HLN := hide hg0.r.len
  have hle : es.length ≤ 140737488355328 := by rw [hg0.r.len]; exact hg0.r.z.le
  have qb := grB_q w es g eo po dd ec pc dc
  have HB1 := hide (grB_blk w es g eo po dd ec pc dc)
  clear hg0 hpm
  go_enter Tryd.func3, Tryd.ntmps3
  go_wp2_with fail
  change Calls _ _ _ (grB w es g eo po dd ec pc dc) _
  generalize grB w es g eo po dd ec pc dc = wb at *
  generalize hX : w.heap.size = X at HB1 ⊢
  clear hX
  refine (oawake_any wb).mono ?_
  rintro e w1 ⟨rfl, q1⟩
  have qw1 := qb.trans q1
  have HX : Hid (∀ w2, Q w1 w2 → w2.cell? ⟨X, 0, none⟩ = some (.slice eo es.length ec) ∧ w2.cell? ⟨X, 1, none⟩ = some (.slice po g.2.1.length pc) ∧ w2.cell? ⟨X, 2, none⟩ = some (.slice dd g.2.2.length dc) ∧ X < w2.heap.size) :=
    fun w2 q => ⟨(((unhide HB1).q (q1.trans q))).cell 0 rfl, (((unhide HB1).q (q1.trans q))).cell 1 rfl, (((unhide HB1).q (q1.trans q))).cell 2 rfl, ((unhide HB1).q (q1.trans q)).hi⟩
  clear HB1 qb q1
  obtain ⟨x0, x1, x2, _⟩ := unhide HX w1 (Q.refl _)
  go_wp2_with fail
  refine (unhide HS _ qw1).mono ?_
  rintro e w2 ⟨ao, cap, rfl, hown, q2⟩
  have qw2 := qw1.trans q2
  have HR := hide (OwnI.row hown)
  clear x0 x1 x2 hown
  by_cases h0 : orE g = 0
  case neg =>
    have h1 : (orE g != 0) = true := by simpa using h0
    have hl : (orL g).length = 0 := by rw [orL_empty h0]; rfl
    have HL := hide hl
    have hl2 : (((orL g).length : Int) == 0) = true := by rw [hl]; rfl
    clear h0 hl
    generalize (orL g).length = n at *
    generalize orE g = ck at *
    go_wp2_with (go_at_call 9; refine (num_any _ _).mono ?_; rintro e w3 ⟨rfl, rfl⟩)
    go_ret
    exact ⟨rfl, qw2⟩
  case pos =>
    obtain ⟨hlen, htw, hat⟩ := row_at h0
    have h8 := ck_ed8 (orL_facts h0).1
    have hln : (orL g).length = es.length := by rw [hlen, unhide HLN]
    have h16 : es.length ≤ 16 := by
      have hm : gmB g = true := by
        cases hm : gmB g with
        | true => rfl
        | false => have := (orL_facts h0).1; rw [ck_form hm] at this; cases this
      rw [unhide HLN]; exact (gm_facts hm).1
    rw [← unhide HLN] at hat
    have HAT := hide hat
    have H8 := hide h8
    have HFR : Hid (∀ (j : Nat) (ed : Ed) (t : List Bool) (T : Option Addr) (w5 : World), g.1[j]? = some ed → Q w w5 → RowB w5 T t → t.length = es.length → Calls Tryd.prog 10 #[.agg #[.slice eo es.length ec, .slice po g.2.1.length pc, .slice dd g.2.2.length dc], .slice T es.length es.length, .int .i64 j] w5 fun e w' => e = .returned (.bool ((rnd g.1 ed).all (tB t))) ∧ Q w5 w') := by
      show ∀ (j : Nat) (ed : Ed) (t : List Bool) (T : Option Addr) (w5 : World), _
      intro j ed t T w5 hed q hb htl
      rw [← (unhide HG).em, List.getElem?_map] at hed
      obtain ⟨x, hx, rfl⟩ := Option.map_eq_some_iff.1 hed
      have h := free_any g es eo po dd ec pc dc j x t T es.length w5 ((unhide HG).q' q) hx ((unhide H8) _ (by rw [← (unhide HG).em]; exact List.mem_map_of_mem (List.mem_of_getElem? hx))) hb (by rw [htl, unhide HLN]) (by omega)
      rwa [htl] at h
    rw [h0, hln]
    have HLR := hide hln
    generalize orL g = r at *
    clear hln h0 htw hat h8 hlen HS HG
    obtain ⟨x0, x1, x2, _⟩ := unhide HX w2 q2
    have hb1 : i1.bytes * es.length ≤ 281474976710656 := by rw [jz2]; omega
    have hb2 : es.length ≤ 9223372036854775807 := by omega
    go_wp2_with (first | (go_at_call 9; refine (num_any _ _).mono ?_; rintro e w3 ⟨rfl, rfl⟩) | (refine wpList_make_row _ rfl _ _ 33 rfl 4 i1 (.bool false) Tryd.underlying33 ji jz0 jz1 rfl .i64 .i64 es.length rfl rfl hb1 hb2 ?_))
    rw [made_rep]
    have HT0 : Hid (Blk (w3.alloc (.cells (List.replicate es.length (Value.bool false)).toArray 4)) w3.heap.size ((fls es.length).map Value.bool).toArray 4) := by
      have h := Blk.new w3 (List.replicate es.length (Value.bool false)).toArray 4
      unfold fls
      rw [List.map_replicate]
      exact h
    have qa := (Q.refl w3).alloc (.cells (List.replicate es.length (Value.bool false)).toArray 4)
    generalize w3.alloc (.cells (List.replicate es.length (Value.bool false)).toArray 4) = w4 at *
    generalize hT : w3.heap.size = T at *
    have hwT : w1.heap.size ≤ T := by rw [← hT]; exact q2.size
    clear x0 x1 x2 hb1 hb2 ji jz0 jz1 jz2
    go_wp2_with fail
    go_loopw [6] (fun i wr => ∃ k : Nat, k ≤ es.length ∧ i = .int .i64 k ∧ Blk wr T ((tld (fls es.length) (r.take k)).map Value.bool).toArray 4 ∧ But T w4 wr) (fun i _ => es.length - (intOf i).toNat)
    case atStart => exact ⟨0, Nat.zero_le _, rfl, unhide HT0, But.refl _ _⟩
    case round =>
      obtain ⟨k, hk, rfl, hbk, hbut⟩ := hrel
      have hq3 : Q w3 wr := Below.trans qa (hbut.below (by omega) qa.size)
      have hq2 : Q w1 wr := q2.trans hq3
      by_cases hlt : k < es.length
      · obtain ⟨x, hx⟩ : ∃ x, r[k]? = some x := ⟨_, List.getElem?_eq_getElem (by rw [unhide HLR]; exact hlt)⟩
        obtain ⟨hxn, htx, hfx, hno⟩ := unhide HAT k x hx
        have htl : (tld (fls es.length) (r.take k)).length = es.length := by rw [tld_len]; simp [fls]
        have HSN : Hid (tld (fls es.length) (r.take (k + 1)) = (tld (fls es.length) (r.take k)).set x true) := by
          show _ = _
          rw [List.take_add_one, hx]; exact tld_snoc _ _ _
        generalize hto : tld (fls es.length) (r.take k) = t at *
        clear hto
        obtain ⟨ed, hed⟩ : ∃ ed, g.1[x]? = some ed := ⟨_, List.getElem?_eq_getElem (by have := unhide HLN; omega)⟩
        have hfx2 := hfx ed hed
        rcases (unhide HR).q hq3 with he | ⟨g2, o2, rfl, hg2, hcell2⟩
        · rw [he] at hx; simp at hx
        have cr : wr.cell? ⟨g2, o2 + k, none⟩ = some (.int .i64 (x : Int)) := by have := hcell2 k 0 x _ hx (by decide) rfl; simpa using this
        obtain ⟨c0, hc0⟩ : ∃ c, t[x]? = some c := ⟨_, List.getElem?_eq_getElem (by omega)⟩
        obtain rfl : c0 = false := by rw [tB_get hc0] at htx; exact htx
        have ct : wr.cell? ⟨T, x, none⟩ = some (.bool false) := bv_at hbk hc0
        obtain ⟨z0, z1, z2, z3⟩ := unhide HX wr hq2
        have A0 : ∀ u : Aft wr, u.to.cell? ⟨X, 0, none⟩ = some (.slice eo es.length ec) := Aft.cell z0 z3
        have A1 : ∀ u : Aft wr, u.to.cell? ⟨X, 1, none⟩ = some (.slice po g.2.1.length pc) := Aft.cell z1 z3
        have A2 : ∀ u : Aft wr, u.to.cell? ⟨X, 2, none⟩ = some (.slice dd g.2.2.length dc) := Aft.cell z2 z3
        have A3 : ∀ u : Aft wr, u.to.cell? ⟨g2, o2 + k, none⟩ = some (.int .i64 (x : Int)) := Aft.cell cr hg2
        have A4 : ∀ u : Aft wr, u.to.cell? ⟨T, x, none⟩ = some (.bool false) := Aft.cell ct hbk.hi
        have HCF : Hid (∀ u : Aft wr, Calls Tryd.prog 10 #[.agg #[.slice eo es.length ec, .slice po g.2.1.length pc, .slice dd g.2.2.length dc], .slice (some ⟨T, 0, none⟩) es.length es.length, .int .i64 x] u.to fun e w' => e = .returned (.bool true) ∧ Q u.to w') := by
          show ∀ u : Aft wr, _
          intro u
          have h := unhide HFR x ed t (some ⟨T, 0, none⟩) u.to hed ((qw1.trans hq2).trans u.q) (bv_row (hbk.q u.q)) htl
          rwa [hfx2] at h
        have HNO := hide hno
        have HC0 := hide hc0
        have HCR : Hid (∀ w5, Q w3 w5 → w5.cell? ⟨g2, o2 + k, none⟩ = some (.int .i64 (x : Int))) := by
          show ∀ w5, _
          intro w5 q5
          rcases (unhide HR).q q5 with he | ⟨g2', o2', e2, _, hc2⟩
          · rw [he] at hx; simp at hx
          · cases e2
            have := hc2 k 0 x _ hx (by decide) rfl
            simpa using this
        have HBK := hide hbk
        have HBU := hide hbut
        have HTL := hide htl
        have hne := Aft.ne wr
        have hkI : (k : Int) < (r.length : Int) := by have := unhide HLR; omega
        have hkI2 : (k : Int) < (es.length : Int) := by omega
        have hx0 : (0 : Int) ≤ (x : Int) := by omega
        have hxI : (x : Int) < (es.length : Int) := by omega
        have hx1 : decide ((x : Int) < 0) = false := decide_eq_false (by omega)
        have hx2 : decide ((es.length : Int) ≤ (x : Int)) = false := decide_eq_false (by omega)
        have hx3 : decide (es.length ≤ x) = false := decide_eq_false (by omega)
        clear hcell2 hx hfx hfx2 hno htx hc0 cr ct z0 z1 z2 z3 hed hbk hbut htl
        go_wp2_with fail
        refine wp_region_aft (by kernel_rfl) (by kernel_rfl) ?_
        repeat (go_big_quiet_step ((go_at_call 10; exact Calls.aft (unhide HCF _))))
        refine wpQuiet_nil ?_
        intro _ hw'
        obtain ⟨u, hw''⟩ := hw'
        subst hw''
        have q36 := hq3.trans u.q
        have q26 := hq2.trans u.q
        have HBK6 := hide ((unhide HBK).q u.q)
        have HBU6 := hide ((unhide HBU).q u.q)
        generalize u.to = w6 at *
        clear A0 A1 A2 A3 A4 HCF hne HBK HBU hq2 hq3
        go_wp2_with fail
        go_loopw [7] (fun i wq => ∃ j : Nat, j ≤ x ∧ i = .int .i64 j ∧ Q w6 wq) (fun i _ => x - (intOf i).toNat)
        case atStart => exact ⟨0, Nat.zero_le _, rfl, Q.refl _⟩
        case round =>
          obtain ⟨j, hj, rfl, hq⟩ := hrel
          have cr : wr.cell? ⟨g2, o2 + k, none⟩ = some (.int .i64 (x : Int)) := (unhide HCR) wr (q36.trans hq)
          by_cases hltj : j < x
          · obtain ⟨ed, hed⟩ : ∃ ed, g.1[j]? = some ed := ⟨_, List.getElem?_eq_getElem (by have := unhide HLN; omega)⟩
            obtain ⟨cj, hcj⟩ : ∃ c, t[j]? = some c := ⟨_, List.getElem?_eq_getElem (by have := unhide HTL; omega)⟩
            have ct : wr.cell? ⟨T, j, none⟩ = some (.bool cj) := bv_at ((unhide HBK6).q hq) hcj
            have hjI : (j : Int) < (x : Int) := by omega
            have hjI2 : (j : Int) < (es.length : Int) := by omega
            cases cj
            · have HCF := hide (unhide HFR j ed t (some ⟨T, 0, none⟩) wr hed ((qw1.trans q26).trans hq) (bv_row ((unhide HBK6).q hq)) (unhide HTL))
              rw [(unhide HNO) j ed hltj hed (tB_get hcj)] at HCF
              obtain ⟨z0, z1, z2, z3⟩ := unhide HX wr (q26.trans hq)
              clear hed hcj
              go_wp2_with (go_at_call 10; refine (unhide HCF).mono ?_; rintro e w8 ⟨rfl, q8⟩)
              go_roundw
              case rel => exact ⟨j + 1, by omega, by go_num, hq.trans q8⟩
              case measure => simp [intOf]; omega
            · clear hed hcj
              go_wp2_with fail
              go_roundw
              case rel => exact ⟨j + 1, by omega, by go_num, hq⟩
              case measure => simp [intOf]; omega
          · have bk := (unhide HBK6).q hq
            have ct : wr.cell? ⟨T, x, none⟩ = some (.bool false) := bv_at bk (unhide HC0)
            have f1 : wr.frozen? ⟨T, x, none⟩ = false := bk.frz x
            have HB5 : Hid (Blk (wr.setCell ⟨T, x, none⟩ (.bool true)) T ((t.set x true).map Value.bool).toArray 4) := by
              have h := bk.set x (.bool true)
              rw [tv_bset] at h
              exact h
            have HV5 := hide (((unhide HBU6).q hq).set x (.bool true))
            clear bk
            go_wp2_with fail
            go_roundw
            case rel =>
              refine ⟨k + 1, by omega, by go_num, ?_, unhide HV5⟩
              rw [unhide HSN]; exact unhide HB5
            case measure => simp [intOf]; omega
      · clear hbk hbut
        go_wp2_with fail
        go_ret
        exact ⟨rfl, qw1.trans hq2⟩

theorem Tryd.laidOut : laidOutB Tryd.prog = true := by kernel_rfl
set_option maxRecDepth 100000 in
theorem orderNeeds_lifted (os : Os) (started : os.Started) (H : Type) (enc : TypeId × Value → H) :
    ReturnsInHanded {} Tryd.checked os 3 .any (fun w args => (Rows.orderNeedsSpec.pre enc Tryd.prog Tryd.f3 [] false w args ∧ laidMetH Tryd.prog Rows.orderNeedsRow.laid w) ∧ sizedMet enc Tryd.prog Tryd.f3 (OpenSpec.ofChange Rows.orderNeedsSpec) false w args) (Rows.orderNeedsSpec.post enc Tryd.prog Tryd.f3 false true false false) := by
  refine returnsInHanded_of_change_and (C := Tryd.checked) (X := fun w _ => laidMetH Tryd.prog Rows.orderNeedsRow.laid w) (fun _ _ _ hh h => h.of_heap hh) Tryd.own started (by kernel_rfl) Tryd.func3
    (ChangeSpec.witness_shaped (enc := enc) (C := Tryd.checked) (os := os) (X := fun w _ => laidMetH Tryd.prog Rows.orderNeedsRow.laid w) false (World.laidAll Tryd.prog os Rows.orderNeedsRow.laid) #[.agg #[.slice none 0 0, .slice none 0 0, .slice none 0 0]] 8 (World.laidAll_os _ _ _)
      (World.shaped_of_ZipB (by kernel_rfl) (by kernel_rfl)) (by kernel_rfl) (by kernel_rfl) (by kernel_rfl)
      (by rw [MakeChecks.laidMetH_plain _ _ _ (by kernel_rfl)]; exact laidMet_laidAll _ (by kernel_rfl) (by kernel_rfl))) ?_
  intro W base args ds gs before hval0 hW _ hsz0 hL _
  have hval : ∀ (j : Nat) t v, Tryd.f3.params[j]? = some t → args[j]? = some v → Value.okWide Tryd.prog W .any base t v := hval0
  have hW' := hW
  obtain ⟨p, q, hA0, hV, rfl, hfz, hnd⟩ := hW
  have hA : DataW.TrodAll enc Tryd.prog W 0 (fun _ => true) true Tryd.f3.params.toList args.toList ds p := hA0
  rw [Tryd.params3] at hA hval
  rw [Tryd.params3] at hsz0
  obtain ⟨v0, vs0, d0, ds0, p0, q0, hargs, rfl, rfl, h0, r0⟩ := trodAll_cons hA
  obtain ⟨rfl, rfl, rfl⟩ := trodAll_nil r0
  obtain rfl : args = #[v0] := by cases args; simp_all
  obtain ⟨rfl, rfl⟩ := trodVars_none hV
  have k0 := h0
  have lt0 : ∀ x ∈ p0, x.block < W.heap.size := by obtain ⟨m, hm⟩ := k0; exact DataW.trod_lt m _ _ _ hm
  obtain ⟨g0, es0, eo0, po0, dd0, ec0, pc0, dc0, rfl, w0⟩ := Tryd.is_graph (hval 0 26 v0 rfl rfl) h0 (fun m hm => by simpa using List.all_eq_true.1 hsz0 m (DataW.weights_mem_each (j := 0) (t := 26) rfl rfl m hm))
  clear hA0 hval0
  refine (orderNeeds_any W g0 es0 eo0 po0 dd0 ec0 pc0 dc0 w0).mono fun e W' ⟨he, bel⟩ => ?_
  subst he
  exact ⟨_, rfl, _, _, _, [], _, [], hW', trodAll_mk1 (shut_bool Tryd.underlying4 _), (trodAll_cons_mk (Below.trod Tryd.laidOut (by kernel_rfl) (of_decide_eq_true (by kernel_rfl)) k0 bel lt0) trodAll_mk0), rfl, bel.frame _, fun h => by cases h⟩

theorem orderNeeds_holds : Rows.OrderNeedsSaid :=
  OpenClaim.holds_of_wide 3 Tryd.f3 rfl rfl rfl rfl rfl rfl rfl ⟨rfl, rfl, rfl, rfl, rfl⟩ rfl rfl rfl rfl rfl (by kernel_rfl) Tryd.func3 (by kernel_rfl)
    (of_decide_eq_true (by kernel_rfl)) (by unfold Func.isWrapper; first | (rw [if_pos (by decide +kernel)]; kernel_rfl) | (rw [if_neg (by decide +kernel)]; exact ⟨rfl, rfl⟩))
    (fun os started H enc _ => orderNeeds_lifted os started H enc)
theorem orderNeeds_card : Rows.OrderNeedsCardSaid :=
  Claim7.holds_tied_plain_at .later [] [.data, .pinned] true (true, "543e068f81d2f4f0877a308eff9da4ecc968e2cc2313aa9e16d82eb0a95efa9c") false orderNeeds_holds (fun _ h => by cases h) (by kernel_rfl) (fun _ h => by cases h) orderNeeds_row_tie rfl ⟨rfl, rfl⟩ (by kernel_rfl) rfl
    (fun f fn hf hfn => by
      obtain rfl : f = 3 := Option.some.inj ((show Tryd.prog.funcNamed Rows.orderNeedsRow.func = some 3 by kernel_rfl).symm.trans hf) |>.symm
      obtain rfl : fn = Tryd.f3 := (Option.some.inj (Tryd.func3.symm.trans hfn)).symm
      exact ⟨by kernel_rfl, fun j t ht => by
        rw [Tryd.params3] at ht
        have hm : t ∈ [26] := by simpa using Array.mem_of_getElem? ht
        have hall : ([26].all fun u => !Tryd.prog.wantsStandIn u) = true := by kernel_rfl
        exact (show Tryd.prog.wantsStandIn t = false by simpa using List.all_eq_true.1 hall t hm)⟩)
    (by kernel_rfl)
#print axioms orderNeeds_card

end Go.Proofs.YtfadjppokbolhaaDoor
