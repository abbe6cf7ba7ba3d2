/- GraphMakes, whole: in a graph that is right each output has its own edge and nothing else has one, whatever the graph and the name; no conditions. -/
import Derived.Test.YtdcdghofkpbljaaDoorRows
import Derived.Test.YtdcdghofkpbljaaDoorCards
import Derived.Test.YtdcdghofkpbljaaDoorTie
import Derived.LaidMore
import Derived.Lay
import Derived.SevenTiedAt
import Derived.Stop.Joined
import Derived.ProofKit
import Derived.OpenShut
import Derived.ShutString
import Derived.ChangeOld
import Derived.Below
import Derived.SizedLaws
import Derived.Test.YtdcdghofkpbljaaDoorGfOpen
import Derived.Test.YtdcdghofkpbljaaDoorGfMkPlain
import Derived.Test.YtdcdghofkpbljaaDoorGfRCheck
import Derived.Test.YtdcdghofkpbljaaDoorGfAwake
namespace Go.Proofs.YtdcdghofkpbljaaDoor
open Go.ChangeShapes Go.WideShapes Go.ChangeAt Go.RowKit
open Go.ChangeMaps (open_string shut_string)

set_option maxRecDepth 20000 in
set_option maxHeartbeats 16000000 in
theorem graphMakes_any (w : World) (g : Gh) (es : List EdA) (eo po dd : Option Addr) (ec pc dc : Nat) (hg0 : IsGr w g es eo po dd ec pc dc) (n : ByteArray) (_ : n.size ≤ maxLen) :
    Calls Tryd.prog 5 #[.agg #[.slice eo es.length ec, .slice po g.2.1.length pc, .slice dd g.2.2.length dc], .string n] w fun e w' => e = .returned (.bool true) ∧ Q w w' := by
  have hpm : pc ≤ maxLen := by have := hg0.pc2; unfold reachBytes at this; unfold maxLen; omega
  have HS := hide (hg0.r.says ec pc dc hg0.pc1 hpm)
  have HR := hide (fun w2 (q : Q w w2) => rCk_any g es eo po dd ec pc dc w2 (hg0.r.q' q))
  have HE := hide hg0.r.e
  have HQ0 := hide hg0.r.q
  have HEM := hide hg0.r.em
  have HLN := hide hg0.r.len
  have qb := grB_q w es g eo po dd ec pc dc
  have HB1 := hide (grB_blk w es g eo po dd ec pc dc)
  clear hg0 hpm
  go_enter Tryd.func5, Tryd.ntmps5
  go_wp2_with fail
  change Calls _ _ _ (grB w es g eo po dd ec pc dc) _
  generalize grB w es g eo po dd ec pc dc = wb at *
  generalize hX : w.heap.size = X at HB1 ⊢
  clear hX
  refine (gawake_any wb).mono ?_
  rintro e w1 ⟨rfl, q1⟩
  have qw1 := qb.trans q1
  have HX : Hid (∀ w2, Q w1 w2 → w2.cell? ⟨X, 0, none⟩ = some (.slice eo es.length ec) ∧ w2.cell? ⟨X, 1, none⟩ = some (.slice po g.2.1.length pc) ∧ w2.cell? ⟨X, 2, none⟩ = some (.slice dd g.2.2.length dc) ∧ X < w2.heap.size) :=
    fun w2 q => ⟨(((unhide HB1).q (q1.trans q))).cell 0 rfl, (((unhide HB1).q (q1.trans q))).cell 1 rfl, (((unhide HB1).q (q1.trans q))).cell 2 rfl, ((unhide HB1).q (q1.trans q)).hi⟩
  clear HB1 qb q1
  obtain ⟨x0, x1, x2, _⟩ := unhide HX w1 (Q.refl _)
  go_wp2_with fail
  refine ((unhide HS).ck _ qw1).mono ?_
  rintro e w2 ⟨rfl, q2⟩
  have qw2 := qw1.trans q2
  clear x0 x1 x2
  by_cases h0 : ckE g = 0
  case neg =>
    have h1 : (ckE g != 0) = true := by simpa using h0
    have h2 : (ckE g == 0) = false := by simpa using h0
    have HRC := hide (unhide HR w2 qw2)
    obtain ⟨x0, x1, x2, _⟩ := unhide HX w2 q2
    clear h0
    generalize ckE g = ck at *
    go_wp2_with fail
    refine (num_any _ _).mono ?_
    rintro e w3 ⟨rfl, rfl⟩
    go_wp2_with fail
    refine (unhide HRC).mono ?_
    rintro e w4 ⟨rfl, q4⟩
    go_wp2_with fail
    go_ret
    exact ⟨rfl, qw2.trans q4⟩
  case pos =>
  have HND : Hid ((ouL g.1).Nodup) := (ck_nodup h0).2
  have hf := gm_facts (ck_nodup h0).1
  have h16 : es.length ≤ 16 := by rw [unhide HLN]; exact hf.1
  have H8 : Hid (∀ x ∈ es, x.1.1.length ≤ 8) := fun x hx => hf.2 _ (by rw [← unhide HEM]; exact List.mem_map_of_mem hx)
  have HMK : Hid (∀ (nm : ByteArray) w2, Q w w2 → Calls Tryd.prog 9 #[.agg #[.slice eo es.length ec, .slice po g.2.1.length pc, .slice dd g.2.2.length dc], .string nm] w2 fun e w' => e = .returned (.tuple #[.int .i64 (max 0 (mkA g.1 (bl nm))), .bool (decide (0 ≤ mkA g.1 (bl nm))), .int .i64 0]) ∧ Q w2 w') := by
    show ∀ (nm : ByteArray) w2, _
    intro nm w2 q
    have := (unhide HS).make w2 nm q
    unfold mkI mkIs at this
    rw [h0] at this
    exact this
  rw [h0]
  have HXA : Hid (∀ w2, Q w2 w2 → True) := fun _ _ => trivial
  clear h0 hf HS HR HLN HXA
  go_wp2_with fail
  refine (num_any _ _).mono ?_
  rintro e w3 ⟨rfl, rfl⟩
  go_wp2_with fail
  go_loopw [5] (fun i wr => ∃ k : Nat, k ≤ es.length ∧ i = .int .i64 k ∧ Q w1 wr) (fun i _ => es.length - (intOf i).toNat)
  case atStart => exact ⟨0, Nat.zero_le _, rfl, q2⟩
  case round =>
    obtain ⟨k, hk, rfl, hq⟩ := hrel
    obtain ⟨x0, x1, x2, _⟩ := unhide HX wr hq
    by_cases hlt : k < es.length
    · rcases unhide HE with he | ⟨gg, o, rfl, hgg, hcell⟩
      · rw [he] at hlt; simp at hlt
      · obtain ⟨b, hb⟩ : ∃ b, es[k]? = some b := ⟨es[k], List.getElem?_eq_getElem hlt⟩
        have HC0 : Hid (∀ w2, Q w w2 → w2.cell? ⟨gg, o + k * 7, none⟩ = some (.slice b.2.1.1 b.1.1.length b.2.1.2)) := fun w2 q => (q.cell (p := ⟨gg, o + k * 7, none⟩) hgg).trans (hcell k 0 b _ hb (by decide) rfl)
        have hb8 := unhide H8 b (List.mem_of_getElem? hb)
        have HRW := hide (fun w2 (q : Q w w2) => ((unhide HQ0) b (List.mem_of_getElem? hb)).a.q q)
        have HGK : Hid (g.1[k]? = some b.1) := by show _ = _; rw [← unhide HEM, List.getElem?_map, hb]; rfl
        have c0 := unhide HC0 wr (qw1.trans hq)
        clear hcell hb
        go_wp2_with fail
        clear c0 x0 x1 x2
        go_loopw [6] (fun i wq => ∃ j : Nat, j ≤ b.1.1.length ∧ i = .int .i64 j ∧ Q w1 wq) (fun i _ => b.1.1.length - (intOf i).toNat)
        case atStart => exact ⟨0, Nat.zero_le _, rfl, hq⟩
        case round =>
          clear hq
          obtain ⟨j, hj, rfl, hq⟩ := hrel
          obtain ⟨x0, x1, x2, hXs⟩ := unhide HX wr hq
          have c0 := unhide HC0 wr (qw1.trans hq)
          by_cases hltj : j < b.1.1.length
          · rcases unhide HRW wr (qw1.trans hq) with he | ⟨g2, o2, eb, hg2, hcell2⟩
            · rw [he] at hltj; simp at hltj
            · rw [eb] at c0
              obtain ⟨x, hx⟩ : ∃ x, b.1.1[j]? = some x := ⟨_, List.getElem?_eq_getElem hltj⟩
              have cx : wr.cell? ⟨g2, o2 + j, none⟩ = some (.string ⟨x.toArray⟩) := by have := hcell2 j 0 x _ hx (by decide) rfl; simpa using this
              have HA1 : ∀ u : Aft wr, u.to.cell? ⟨g2, o2 + j, none⟩ = some (.string ⟨x.toArray⟩) := Aft.cell cx hg2
              have HA2 : ∀ u : Aft wr, u.to.cell? ⟨gg, o + k * 7, none⟩ = some (.slice (some ⟨g2, o2, none⟩) b.1.1.length b.2.1.2) := Aft.cell c0 (by have := (qw1.trans hq).size; show gg < _; omega)
              have HA3 : ∀ u : Aft wr, u.to.cell? ⟨X, 0, none⟩ = some (.slice (some ⟨gg, o, none⟩) es.length ec) := Aft.cell x0 hXs
              have HA4 : ∀ u : Aft wr, u.to.cell? ⟨X, 1, none⟩ = some (.slice po g.2.1.length pc) := Aft.cell x1 hXs
              have HA5 : ∀ u : Aft wr, u.to.cell? ⟨X, 2, none⟩ = some (.slice dd g.2.2.length dc) := Aft.cell x2 hXs
              have HKI : Hid (mkA g.1 x = k) := mk_own (unhide HGK) (List.mem_of_getElem? hx) (unhide HND)
              have HCM : Hid (∀ u : Aft wr, Calls Tryd.prog 9 #[.agg #[.slice (some ⟨gg, o, none⟩) es.length ec, .slice po g.2.1.length pc, .slice dd g.2.2.length dc], .string ⟨x.toArray⟩] u.to fun e w' => e = .returned (.tuple #[.int .i64 k, .bool true, .int .i64 0]) ∧ Q u.to w') := by
                show ∀ u : Aft wr, _
                intro u
                have h := unhide HMK ⟨x.toArray⟩ u.to ((qw1.trans hq).trans u.q)
                rw [show bl (⟨x.toArray⟩ : ByteArray) = x from rfl, HKI.out, show max (0 : Int) (k : Int) = k by omega, decide_eq_true (show (0 : Int) ≤ (k : Int) by omega)] at h
                exact h
              have hne := Aft.ne wr
              have hjI : (j : Int) < (b.1.1.length : Int) := by omega
              have hkI : (k : Int) < (es.length : Int) := by omega
              clear hcell2 hx eb HKI cx
              generalize (⟨x.toArray⟩ : ByteArray) = xv at *
              go_wp2_with fail
              refine wp_region_aft (by kernel_rfl) (by kernel_rfl) ?_
              repeat (go_big_quiet_step ((go_at_call 9; exact Calls.aft (unhide HCM _))))
              refine wpQuiet_nil ?_
              intro _ hw'
              obtain ⟨u, hw''⟩ := hw'
              subst hw''
              have qu := u.q
              generalize u.to = w4 at qu ⊢
              clear HA1 HA2 HA3 HA4 HA5 hne c0 x0 x1 x2
              go_wp2_with fail
              refine (num_any _ _).mono ?_
              rintro e w5 ⟨rfl, rfl⟩
              go_wp2_with fail
              go_roundw
              case rel => exact ⟨j + 1, by omega, by go_num, hq.trans qu⟩
              case measure => simp [intOf]; omega
          · go_wp2_with fail
            go_roundw
            case rel => exact ⟨k + 1, by omega, by go_num, hq⟩
            case measure => simp [intOf]; omega
    · have HCM := hide (unhide HMK n wr (qw1.trans hq))
      go_wp2_with fail
      refine (unhide HCM).mono ?_
      rintro e w4 ⟨rfl, q4⟩
      have hq4 := hq.trans q4
      clear HCM x0 x1 x2
      by_cases hm : mkA g.1 (bl n) < 0
      · have e1 : max (0 : Int) (mkA g.1 (bl n)) = 0 := by omega
        have e2 : decide (0 ≤ mkA g.1 (bl n)) = false := decide_eq_false (by omega)
        rw [e1, e2]
        clear e1 e2 hm
        go_wp2_with fail
        refine (num_any _ _).mono ?_
        rintro e w5 ⟨rfl, rfl⟩
        go_wp2_with fail
        refine (num_any _ _).mono ?_
        rintro e w6 ⟨rfl, rfl⟩
        go_wp2_with fail
        go_ret
        exact ⟨rfl, qw1.trans hq4⟩
      · obtain ⟨m, hmm⟩ : ∃ m : Nat, mkA g.1 (bl n) = (m : Int) := ⟨(mkA g.1 (bl n)).toNat, by omega⟩
        obtain ⟨ed, hed, hin⟩ := mk_is hmm
        have e1 : max (0 : Int) (mkA g.1 (bl n)) = (m : Int) := by omega
        have e2 : decide (0 ≤ mkA g.1 (bl n)) = true := decide_eq_true (by omega)
        rw [e1, e2]
        rw [← unhide HEM, List.getElem?_map] at hed
        obtain ⟨b, hb, rfl⟩ := Option.map_eq_some_iff.1 hed
        have hmlt : m < es.length := (List.getElem?_eq_some_iff.1 hb).1
        rcases unhide HE with he | ⟨gg, o, rfl, hgg, hcell⟩
        · rw [he] at hmlt; simp at hmlt
        · have HC0 : Hid (∀ w2, Q w w2 → w2.cell? ⟨gg, o + m * 7, none⟩ = some (.slice b.2.1.1 b.1.1.length b.2.1.2)) := fun w2 q => (q.cell (p := ⟨gg, o + m * 7, none⟩) hgg).trans (hcell m 0 b _ hb (by decide) rfl)
          have hb8 := unhide H8 b (List.mem_of_getElem? hb)
          have HRW := hide (unhide ((hide (fun w2 (q : Q w w2) => ((unhide HQ0) b (List.mem_of_getElem? hb)).a.q q))) w4 (qw1.trans hq4))
          have HIN : Hid (bl n ∈ b.1.1) := hin
          have c0 := unhide HC0 w4 (qw1.trans hq4)
          obtain ⟨x0, x1, x2, _⟩ := unhide HX w4 hq4
          have hmI : (m : Int) < (es.length : Int) := by omega
          have hm0 : (0 : Int) ≤ (m : Int) := by omega
          clear hcell hb hed hin e1 e2 hm hmm HC0
          go_wp2_with fail
          refine (num_any _ _).mono ?_
          rintro e w5 ⟨rfl, rfl⟩
          go_wp2_with fail
          go_loop [13] (fun i => ∃ j : Nat, j ≤ b.1.1.length ∧ i = .int .i64 j ∧ Hid ((b.1.1.take j).any (fun x : Tx => x == bl n) = false)) (fun i => b.1.1.length - (intOf i).toNat)
          case atStart => exact ⟨0, Nat.zero_le _, rfl, rfl⟩
          case round =>
            obtain ⟨j, hj, rfl, HA⟩ := hrel
            by_cases hltj : j < b.1.1.length
            · rcases unhide HRW with he | ⟨g2, o2, eb, hg2, hcell2⟩
              · rw [he] at hltj; simp at hltj
              · rw [eb] at c0
                obtain ⟨x, hx⟩ : ∃ x, b.1.1[j]? = some x := ⟨_, List.getElem?_eq_getElem hltj⟩
                have cx : w5.cell? ⟨g2, o2 + j, none⟩ = some (.string ⟨x.toArray⟩) := by have := hcell2 j 0 x _ hx (by decide) rfl; simpa using this
                have HT := hide (anyt_succ (fun x : Tx => x == bl n) hx)
                have hxe := txt_beq x n
                generalize (⟨x.toArray⟩ : ByteArray) = x1' at cx hxe
                have hjI : (j : Int) < (b.1.1.length : Int) := by omega
                clear hcell2 hx eb
                cases hok : (x == bl n)
                · have HO : Hid ((b.1.1.take (j + 1)).any (fun x : Tx => x == bl n) = false) := by
                    show _ = false
                    rw [unhide HT, HA.out]; simpa using hok
                  rw [hok] at hxe
                  clear hok HT HA
                  go_wp2_with fail
                  go_round
                  case rel => exact ⟨j + 1, by omega, by go_num, HO⟩
                  case measure => simp [intOf]; omega
                · rw [hok] at hxe
                  clear hok HT HA
                  go_wp2_with fail
                  go_ret
                  exact ⟨rfl, qw1.trans hq4⟩
            · exfalso
              have h1 := HA.out
              rw [List.take_of_length_le (by omega), List.any_eq_false] at h1
              exact h1 _ (unhide HIN) (by simp)

theorem Tryd.laidOut : laidOutB Tryd.prog = true := by kernel_rfl
set_option maxRecDepth 100000 in
theorem graphMakes_lifted (os : Os) (started : os.Started) (H : Type) (enc : TypeId × Value → H) :
    ReturnsInHanded {} Tryd.checked os 5 .any (fun w args => (Rows.graphMakesSpec.pre enc Tryd.prog Tryd.f5 [] false w args ∧ laidMetH Tryd.prog Rows.graphMakesRow.laid w) ∧ sizedMet enc Tryd.prog Tryd.f5 (OpenSpec.ofChange Rows.graphMakesSpec) false w args) (Rows.graphMakesSpec.post enc Tryd.prog Tryd.f5 false true false false) := by
  refine returnsInHanded_of_change_and (C := Tryd.checked) (X := fun w _ => laidMetH Tryd.prog Rows.graphMakesRow.laid w) (fun _ _ _ hh h => h.of_heap hh) Tryd.own started (by kernel_rfl) Tryd.func5
    (ChangeSpec.witness_shaped (enc := enc) (C := Tryd.checked) (os := os) (X := fun w _ => laidMetH Tryd.prog Rows.graphMakesRow.laid w) false (World.laidAll Tryd.prog os Rows.graphMakesRow.laid) #[.agg #[.slice none 0 0, .slice none 0 0, .slice none 0 0], .string ByteArray.empty] 8 (World.laidAll_os _ _ _)
      (World.shaped_of_ZipB (by kernel_rfl) (by kernel_rfl)) (by kernel_rfl) (by kernel_rfl) (by kernel_rfl)
      (by rw [MakeChecks.laidMetH_plain _ _ _ (by kernel_rfl)]; exact laidMet_laidAll _ (by kernel_rfl) (by kernel_rfl))) ?_
  intro W base args ds gs before hval0 hW _ hsz0 hL _
  have hval : ∀ (j : Nat) t v, Tryd.f5.params[j]? = some t → args[j]? = some v → Value.okWide Tryd.prog W .any base t v := hval0
  have hW' := hW
  obtain ⟨p, q, hA0, hV, rfl, hfz, hnd⟩ := hW
  have hA : DataW.TrodAll enc Tryd.prog W 0 (fun _ => true) true Tryd.f5.params.toList args.toList ds p := hA0
  rw [Tryd.params5] at hA hval
  rw [Tryd.params5] at hsz0
  obtain ⟨v0, vs0, d0, ds0, p0, q0, hargs, rfl, rfl, h0, r0⟩ := trodAll_cons hA
  obtain ⟨v1, vs1, d1, ds1, p1, q1, rfl, rfl, rfl, h1, r1⟩ := trodAll_cons r0
  obtain ⟨rfl, rfl, rfl⟩ := trodAll_nil r1
  obtain rfl : args = #[v0, v1] := by cases args; simp_all
  obtain ⟨rfl, rfl⟩ := trodVars_none hV
  have k0 := h0
  have lt0 : ∀ x ∈ p0, x.block < W.heap.size := by obtain ⟨m, hm⟩ := k0; exact DataW.trod_lt m _ _ _ hm
  obtain ⟨g0, es0, eo0, po0, dd0, ec0, pc0, dc0, rfl, w0⟩ := Tryd.is_graph (hval 0 27 v0 rfl rfl) h0 (fun m hm => by simpa using List.all_eq_true.1 hsz0 m (DataW.weights_mem_each (j := 0) (t := 27) rfl rfl m hm))
  obtain ⟨a1, rfl, rfl, rfl, w1⟩ := open_string Tryd.underlying9 (hval 1 9 v1 rfl rfl) h1
  clear hA0 hval0
  refine (graphMakes_any W g0 es0 eo0 po0 dd0 ec0 pc0 dc0 w0 a1 w1).mono fun e W' ⟨he, bel⟩ => ?_
  subst he
  exact ⟨_, rfl, _, _, _, [], _, [], hW', trodAll_mk1 (shut_bool Tryd.underlying4 _), (trodAll_cons_mk (Below.trod Tryd.laidOut (by kernel_rfl) (of_decide_eq_true (by kernel_rfl)) k0 bel lt0) (trodAll_cons_mk (shut_string Tryd.underlying9 w1) trodAll_mk0)), rfl, bel.frame _, fun h => by cases h⟩

theorem graphMakes_holds : Rows.GraphMakesSaid :=
  OpenClaim.holds_of_wide 5 Tryd.f5 rfl rfl rfl rfl rfl rfl rfl ⟨rfl, rfl, rfl, rfl, rfl⟩ rfl rfl rfl rfl rfl (by kernel_rfl) Tryd.func5 (by kernel_rfl)
    (of_decide_eq_true (by kernel_rfl)) (by unfold Func.isWrapper; first | (rw [if_pos (by decide +kernel)]; kernel_rfl) | (rw [if_neg (by decide +kernel)]; exact ⟨rfl, rfl⟩))
    (fun os started H enc _ => graphMakes_lifted os started H enc)
theorem graphMakes_card : Rows.GraphMakesCardSaid :=
  Claim7.holds_tied_plain_at .later [] [.data, .pinned] true (true, "34930c2335a0f5bc5a06bdbfd5f205e646aed1e26a5a50b32a028c5565e280cf") false graphMakes_holds (fun _ h => by cases h) (by kernel_rfl) (fun _ h => by cases h) graphMakes_row_tie rfl ⟨rfl, rfl⟩ (by kernel_rfl) rfl
    (fun f fn hf hfn => by
      obtain rfl : f = 5 := Option.some.inj ((show Tryd.prog.funcNamed Rows.graphMakesRow.func = some 5 by kernel_rfl).symm.trans hf) |>.symm
      obtain rfl : fn = Tryd.f5 := (Option.some.inj (Tryd.func5.symm.trans hfn)).symm
      exact ⟨by kernel_rfl, fun j t ht => by
        rw [Tryd.params5] at ht
        have hm : t ∈ [27, 9] := by simpa using Array.mem_of_getElem? ht
        have hall : ([27, 9].all fun u => !Tryd.prog.wantsStandIn u) = true := by kernel_rfl
        exact (show Tryd.prog.wantsStandIn t = false by simpa using List.all_eq_true.1 hall t hm)⟩)
    (by kernel_rfl)
#print axioms graphMakes_card

end Go.Proofs.YtdcdghofkpbljaaDoor
