/- In which order the edges of a graph come, as package order's Of answers; the conditions: the graph lies in memory, no text is longer than a string can be. -/
import Derived.Test.YtfadjppokbolhaaDoorOrNeeds
import Derived.Test.YtfadjppokbolhaaDoorGfCheck
import Derived.Deep.LoopGhost
namespace Go.Proofs.YtfadjppokbolhaaDoor
open Go.RowKit

theorem tv_bset {t : List Bool} {k : Nat} : (t.map Value.bool).toArray.setIfInBounds k (.bool true) = ((t.set k true).map Value.bool).toArray := by
  rw [List.map_set]; simp
theorem bv_row {w : World} {T : Nat} {t : List Bool} (h : Blk w T (t.map Value.bool).toArray 4) : RowB w (some ⟨T, 0, none⟩) t := by
  have e : t.map Value.bool = lay bvB t := by
    clear h
    induction t with
    | nil => rfl
    | cons a r ih => rw [List.map_cons, ih]; rfl
  exact rowB bvB_len h t (by rw [e])
theorem bv_at {w : World} {T : Nat} {t : List Bool} (h : Blk w T (t.map Value.bool).toArray 4) {k : Nat} {b : Bool} (hb : t[k]? = some b) : w.cell? ⟨T, k, none⟩ = some (.bool b) := by
  refine h.cell k ?_
  rw [List.getElem?_toArray, List.getElem?_map, hb]; rfl
theorem run_full {es : List Ed} {t : List Bool} {r : List Nat} : run es 0 t r = some r := rfl

set_option maxRecDepth 20000 in
set_option maxHeartbeats 16000000 in
theorem orOf_any (g : Gh) (es : List EdA) (eo po dd : Option Addr) (ec pc dc : Nat) (w : World) (hg : GfR w g es eo po dd) (hc : g.2.1.length ≤ pc) (hcap : pc ≤ maxLen) :
    Calls Tryd.prog 8 #[.agg #[.slice eo es.length ec, .slice po g.2.1.length pc, .slice dd g.2.2.length dc]] w fun e w' => ∃ ao cap, e = .returned (.tuple #[.slice ao (orL g).length cap, .int .i64 (orE g)]) ∧ OwnI w' w.heap.size ao cap (orL g) ∧ Q w w' := by
  obtain ⟨i0, hi, hz0, hz1, hz2⟩ : ∃ i0, Tryd.prog.info? 3 = some i0 ∧ i0.zero = some (.int .i64 0) ∧ i0.size = 1 ∧ i0.bytes = 8 := ⟨_, rfl, rfl, rfl, rfl⟩
  obtain ⟨i1, ji, jz0, jz1, jz2⟩ : ∃ i1, Tryd.prog.info? 4 = some i1 ∧ i1.zero = some (.bool false) ∧ i1.size = 1 ∧ i1.bytes = 1 := ⟨_, rfl, rfl, rfl, rfl⟩
  have S1 := hide (fun w2 (q : Q w w2) => gCk_any g es eo po dd ec pc dc w2 (hg.q' q) hc hcap)
  have qb := grB_q w es g eo po dd ec pc dc
  have HB1 := hide (grB_blk w es g eo po dd ec pc dc)
  by_cases h0 : ckE g ≠ 0
  · have h1 : (ckE g != 0) = true := by simpa using h0
    have HO := hide (orE_form h0)
    clear h0 hg hc hcap
    generalize ckE g = ck at *
    go_enter Tryd.func8, Tryd.ntmps8
    go_wp2_with fail
    go_step3
    go_wp2_with fail
    change Calls _ _ _ (grB w es g eo po dd ec pc dc) _
    refine (unhide S1 _ qb).mono ?_
    rintro e w1 ⟨rfl, q1⟩
    go_wp2_with fail
    try rw [Exit.noGoto_ret]
    go_ret2
    refine ⟨none, 0, ?_, ?_, qb.trans q1⟩
    · rw [HO.out.1, HO.out.2]; rfl
    · rw [HO.out.2]; exact World.ownsRow_nil _ _ _ _
  · have h0' : ckE g = 0 := by simpa using h0
    have hm : gmB g = true := by
      cases hm : gmB g with
      | true => rfl
      | false => rw [ck_form hm] at h0'; cases h0'
    have hf := gm_facts hm
    have h16 : es.length ≤ 16 := by rw [hg.len]; exact hf.1
    have HLN := hide hg.len
    rw [h0'] at S1
    have S2 := hide (fun w2 (q : Q w w2) => needs_any es eo ec w2 (hg.e.q q) (fun x hx => ⟨(hg.q x hx).q q, hg.ez hx⟩) h16)
    rw [hg.em] at S2
    have HO : Hid (∀ r, ordO g.1 = some r → orE g = 0 ∧ orL g = r) := by
      show ∀ r, _
      intro r hr
      unfold orE orL
      rw [if_pos h0', if_pos h0', hr]; exact ⟨rfl, rfl⟩
    have HC : Hid (ordO g.1 = none → orE g = 1001 ∧ orL g = []) := fun hr => orE_cyc h0' hr
    clear hg hc hcap hm hf h0 h0'
    go_enter Tryd.func8, Tryd.ntmps8
    go_wp2_with fail
    go_step3
    go_wp2_with fail
    change Calls _ _ _ (grB w es g eo po dd ec pc dc) _
    generalize grB w es g eo po dd ec pc dc = wb at *
    generalize hX : w.heap.size = X at HB1 ⊢
    have hXs : X ≤ wb.heap.size := by rw [← hX]; exact qb.size
    refine (unhide S1 _ qb).mono ?_
    rintro e w1 ⟨rfl, q1⟩
    have c1 : w1.cell? ⟨X, 0, none⟩ = some (.slice eo es.length ec) := ((unhide HB1).q q1).cell 0 rfl
    have qw1 := qb.trans q1
    clear S1
    go_wp2_with fail
    refine (unhide S2 _ qw1).mono ?_
    rintro e w2 ⟨rfl, q2, ns, hns⟩
    have qw2 := qw1.trans q2
    have hwT : w.heap.size ≤ w2.heap.size := qw2.size
    have HNS := hide hns
    have hnl : ns.length = es.length := by
      have h := congrArg List.length hns.m
      rwa [List.length_map, List.length_map, ← unhide HLN] at h
    have hB2 : w1.heap.size < w2.heap.size := hns.b.hi
    have hX1 : X ≤ w1.heap.size := Nat.le_trans hXs q1.size
    clear c1 S2 hns q1 q2 HB1 qb hX
    have hb1 : i1.bytes * es.length ≤ 281474976710656 := by rw [jz2]; omega
    have hb2 : es.length ≤ 9223372036854775807 := by omega
    go_wp2_with (refine wpList_make_row _ rfl _ _ 33 rfl 4 i1 (.bool false) Tryd.underlying33 ji jz0 jz1 rfl .i64 .i64 es.length rfl rfl hb1 hb2 ?_)
    rw [made_rep]
    clear hb1 hb2 ji jz0 jz1 jz2
    have HT0 : Hid (Blk (w2.alloc (.cells (List.replicate es.length (Value.bool false)).toArray 4)) w2.heap.size ((fls es.length).map Value.bool).toArray 4) := by
      have h := Blk.new w2 (List.replicate es.length (Value.bool false)).toArray 4
      unfold fls
      rw [List.map_replicate]
      exact h
    have qa := (Q.refl w2).alloc (.cells (List.replicate es.length (Value.bool false)).toArray 4)
    have hTs : w2.heap.size < (w2.alloc (.cells (List.replicate es.length (Value.bool false)).toArray 4)).heap.size := (unhide HT0).hi
    have hT3 : (w2.alloc (.cells (List.replicate es.length (Value.bool false)).toArray 4)).heap.size ≤ w2.heap.size + 1 := Nat.le_of_eq (size_alloc _ _)
    generalize w2.alloc (.cells (List.replicate es.length (Value.bool false)).toArray 4) = w3 at *
    have HR0 : Hid (run g.1 (es.length - ([] : List Nat).length) (fls es.length) [] = ordO g.1) := by
      show _ = _
      unfold ordO
      rw [unhide HLN]; rfl
    go_wp2_with fail
    go_step3
    go_wp2_with fail
    generalize hT : w2.heap.size = T at *
    go_loopg [6] es.length (fun gk s wr => ∃ (t : List Bool) (r : List Nat) (ao : Option Addr) (cap : Nat), r.length + gk = es.length ∧ s = .slice ao r.length cap ∧ t.length = es.length ∧ Blk wr T (t.map Value.bool).toArray 4 ∧ OwnI wr (T + 1) ao cap r ∧ But T w3 wr ∧ Hid (run g.1 (es.length - r.length) t r = ordO g.1))
    case atStart => exact ⟨fls es.length, [], none, 0, by simp, rfl, by simp [fls], unhide HT0, World.ownsRow_nil _ _ _ _, But.refl _ _, unhide HR0⟩
    case round =>
      obtain ⟨t, r, ao, cap, hrl, rfl, htl, hbk, hown, hbut, HR⟩ := hrel
      have hq3 : Q w2 wr := Below.trans qa (hbut.below (by omega) qa.size)
      have hq : Q w wr := qw2.trans hq3
      cases gk with
      | zero =>
        have HR2 : Hid (orE g = 0 ∧ orL g = r) := by
          refine (unhide HO) r ?_
          rw [← HR.out, show es.length - r.length = 0 by omega]; rfl
        have hrl2 : r.length = es.length := by omega
        have HO2 := hide (own_low hown (show w.heap.size ≤ T + 1 by omega))
        clear hbk hown hbut HR hrl
        go_wp2_with fail
        try rw [Exit.noGoto_ret]
        go_ret2
        refine ⟨ao, cap, ?_, ?_, hq⟩
        · rw [HR2.out.1, HR2.out.2]; rfl
        · rw [HR2.out.2]; exact unhide HO2
      | succ go =>
        have hlt : r.length < es.length := by omega
        have HBK := hide hbk
        have HOW := hide hown
        have HBU := hide hbut
        clear hbk hown hbut
        go_wp2_with fail
        rename World => wo
        go_loopg [6, 24] es.length (fun g2 s6 s wq => ∃ k : Nat, k + g2 = es.length ∧ s6 = .slice ao r.length cap ∧ s = .int .i64 k ∧ wq = wo ∧ Hid (∀ j < k, okB g.1 t j = false))
        case atStart => exact ⟨0, by omega, rfl, rfl, rfl, fun j hj => by omega⟩
        case round =>
          obtain ⟨k, hkg, rfl, rfl, rfl, HK⟩ := hrel
          cases gk with
          | zero =>
            have HN : Hid (orE g = 1001 ∧ orL g = []) := by
              refine (unhide HC) ?_
              rw [← HR.out, show es.length - r.length = (es.length - r.length - 1) + 1 by omega]
              exact run_none (nxt_none (fun j hj => HK.out j (by have := unhide HLN; omega)))
            clear HR
            go_wp2_with fail
            try rw [Exit.noGoto_ret]
            go_ret2
            refine ⟨none, 0, ?_, ?_, hq⟩
            · rw [HN.out.1, HN.out.2]; rfl
            · rw [HN.out.2]; exact World.ownsRow_nil _ _ _ _
          | succ gi =>
            have hk : k < es.length := by omega
            obtain ⟨ed, hed⟩ : ∃ ed, g.1[k]? = some ed := ⟨_, List.getElem?_eq_getElem (by have := unhide HLN; omega)⟩
            obtain ⟨y, hy, hyn, hyr, hyc⟩ := ((unhide HNS).q hq3).at hed
            have HOK := hide (okB_at (t := t) hed)
            have HYL : Hid (∀ x ∈ y.1, x < t.length) := by
              show ∀ x ∈ y.1, _
              intro x hx
              rw [hyn] at hx
              obtain ⟨m, hm, _⟩ := mem_ndI.1 hx
              have := (List.getElem?_eq_some_iff.1 hm).1
              have := unhide HLN; omega
            have hyl : y.1.length ≤ 4096 := by
              have := ndK_len g.1 ed g.1.length
              have h2 : y.1.length ≤ g.1.length := by rw [hyn]; exact this
              have := unhide HLN; omega
            obtain ⟨b, hb⟩ : ∃ b, t[k]? = some b := ⟨_, List.getElem?_eq_getElem (by omega)⟩
            have c1 : wr.cell? ⟨T, k, none⟩ = some (.bool b) := bv_at (unhide HBK) hb
            have c2 : wr.cell? ⟨w1.heap.size, k, none⟩ = some (.slice y.2.1 y.1.length y.2.2) := hyc
            have HTB := hide (tB_get hb)
            have HAL := hide (all_any y.1 t y.2.1 (some ⟨T, 0, none⟩) y.2.2 es.length wr hyr (bv_row (unhide HBK)) hyl (unhide HYL))
            rw [htl] at HAL
            have HYN := hide hyn
            clear hed hy hyn hyr hyc hb HYL
            cases b
            · cases hal : y.1.all (tB t)
              · rw [hal] at HAL
                have HK2 : Hid (∀ j < k + 1, okB g.1 t j = false) := by
                  show ∀ j < k + 1, _
                  intro j hj
                  rcases Nat.lt_or_ge j k with h | h
                  · exact HK.out j h
                  · obtain rfl : j = k := by omega
                    rw [unhide HOK, ← unhide HYN, hal]; simp
                clear HK HOK HYN hal HTB
                go_wp2_with (go_at_call 17; refine (unhide HAL).mono ?_; rintro e w5 ⟨rfl, rfl⟩)
                go_roundg gi
                case rel => exact ⟨k + 1, by omega, rfl, by go_num, rfl, HK2⟩
                case measure => exact Nat.lt_succ_self _
              · rw [hal] at HAL
                have HNX : Hid (nxt g.1 t = some k) := by
                  refine nxt_some (by have := unhide HLN; omega) ?_ (fun j hj => HK.out j hj)
                  rw [unhide HOK, ← unhide HYN, hal, unhide HTB]; rfl
                clear HK HOK HYN hal HTB
                have f1 : wr.frozen? ⟨T, k, none⟩ = false := (unhide HBK).frz k
                have HB5 : Hid (Blk (wr.setCell ⟨T, k, none⟩ (.bool true)) T ((t.set k true).map Value.bool).toArray 4) := by
                  have h := (unhide HBK).set k (.bool true)
                  rw [tv_bset] at h
                  exact h
                have HO5 := hide (own_fr (unhide HOW) (Fr.set wr T k (.bool true)) (fun r hr => by have := ((unhide HOW).lt r hr).1; omega))
                have HV5 := hide ((unhide HBU).set k (.bool true))
                have HR6 : Hid (run g.1 (es.length - (r ++ [k]).length) (t.set k true) (r ++ [k]) = ordO g.1) := by
                  show _ = _
                  rw [← HR.out, show es.length - r.length = (es.length - (r ++ [k]).length) + 1 by simp; omega, run_some HNX.out]
                have hTw : T + 1 ≤ (wr.setCell ⟨T, k, none⟩ (.bool true)).heap.size := by have := (unhide HB5).hi; omega
                clear HR HNX HBK HOW HBU
                go_upto_region 12 with (go_at_call 17; refine (unhide HAL).mono ?_; rintro e w5 ⟨rfl, rfl⟩)
                go_wp2_with (at_builtin; refine wpList_append_lies _ rfl _ _ 28 rfl (T + 1) 3 i0 (.int .i64 0) 1 8 Tryd.underlying28 hi hz0 hz1 hz2 rfl (by decide) _ _ _ rfl ((unhide HO5).alloc _) ⟨w5.heap.size, 0, none⟩ 1 1 [.int .i64 k] rfl rfl (news_at (by simp) #[.int .i64 k] _) (one_int _ _) (by decide) (by unfold maxLen; omega) (by omega) (le_alloc hTw _) (w5.heap.size + 1) (by simp) ?_)
                intro g7 cp7 w7 own7 grow7 or7 lt7
                have hoA := (unhide HO5).alloc (.cells #[.int .i64 k] 3)
                have bk7 : Blk w7 T ((t.set k true).map Value.bool).toArray 4 := ((unhide HB5).q ((Q.refl _).alloc _)).fr (Fr.grown grow7) (fun e => by have := (hoA.lt _ e).1; omega)
                have bu7 : But T w3 w7 := ((unhide HV5).q ((Q.refl _).alloc _)).grown grow7 hT3 (fun r hr => by have := (hoA.lt r hr).1; omega)
                have ow7 : OwnI w7 (T + 1) (some ⟨g7, 0, none⟩) cp7 (r ++ [k]) := OwnI.snoc own7
                clear own7 grow7 or7 lt7 hoA HB5 HO5 HV5
                go_wp2
                go_roundg go
                case rel =>
                  refine ⟨t.set k true, r ++ [k], some ⟨g7, 0, none⟩, cp7, ?_, ?_, ?_, bk7, ow7, bu7, HR6⟩
                  · simp; omega
                  · simp
                  · simp; omega
                case measure => exact Nat.lt_succ_self _
            · have HK2 : Hid (∀ j < k + 1, okB g.1 t j = false) := by
                show ∀ j < k + 1, _
                intro j hj
                rcases Nat.lt_or_ge j k with h | h
                · exact HK.out j h
                · obtain rfl : j = k := by omega
                  rw [unhide HOK, unhide HTB]; simp
              clear HK HOK HYN HTB HAL
              go_wp2_with fail
              go_roundg gi
              case rel => exact ⟨k + 1, by omega, rfl, by go_num, rfl, HK2⟩
              case measure => exact Nat.lt_succ_self _

end Go.Proofs.YtfadjppokbolhaaDoor
