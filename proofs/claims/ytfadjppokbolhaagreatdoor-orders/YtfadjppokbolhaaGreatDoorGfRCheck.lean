/- What the document's own Check answers; the conditions: the graph lies in memory, no text is longer than a string can be. -/
import Derived.Test.YtfadjppokbolhaaGreatDoorGfRef
import Derived.Test.YtfadjppokbolhaaGreatDoorGfHas
import Derived.Test.YtfadjppokbolhaaGreatDoorStAppend
import Derived.Test.YtfadjppokbolhaaGreatDoorGfTwice
import Derived.Test.YtfadjppokbolhaaGreatDoorGfCheck
namespace Go.Proofs.YtfadjppokbolhaaGreatDoor
open Go.RowKit

theorem ou_all {es : List EdA} {k : Nat} {x : EdA} (h : es[k]? = some x) (j : Nat) : ∃ r, ouL (es.map Prod.fst) = (ouL ((es.take k).map Prod.fst) ++ x.1.1.take j) ++ r := by
  refine ⟨x.1.1.drop j ++ ouL ((es.drop (k + 1)).map Prod.fst), ?_⟩
  have h1 : es = es.take k ++ x :: es.drop (k + 1) := by
    obtain ⟨hlt, he⟩ := List.getElem?_eq_some_iff.1 h
    have hd := List.drop_eq_getElem_cons hlt
    rw [he] at hd
    have ht := List.take_append_drop k es
    rw [hd] at ht
    exact ht.symm
  have h2 : ouL (es.map Prod.fst) = ouL ((es.take k).map Prod.fst) ++ (x.1.1 ++ ouL ((es.drop (k + 1)).map Prod.fst)) := by
    conv => lhs; rw [h1]
    unfold ouL
    rw [List.map_append, List.flatMap_append, List.map_cons, List.flatMap_cons]
  rw [h2, List.append_assoc, ← List.append_assoc (x.1.1.take j), List.take_append_drop]

set_option maxRecDepth 20000 in
set_option maxHeartbeats 16000000 in
theorem rCk_any (g : Gh) (es : List EdA) (eo po dd : Option Addr) (ec pc dc : Nat) (w : World) (hg : GfR w g es eo po dd) :
    Calls Tryz.prog 16 #[.agg #[.slice eo es.length ec, .slice po g.2.1.length pc, .slice dd g.2.2.length dc]] w fun e w' => e = .returned (.int .i64 (ckE g)) ∧ Q w w' := by
  obtain ⟨i0, hi, hz0, hz1, hz2⟩ : ∃ i0, Tryz.prog.info? 9 = some i0 ∧ i0.zero = some (.string ByteArray.empty) ∧ i0.size = 1 ∧ i0.bytes = 16 := ⟨_, rfl, rfl, rfl, rfl⟩
  have S1 := hide (fun w2 (q : Q w w2) => rMay_any g es eo po dd ec pc dc w2 (hg.q' q))
  have qb := grB_q w es g eo po dd ec pc dc
  have HB1 := hide (grB_blk w es g eo po dd ec pc dc)
  cases hm : gmB g
  · have HO : Hid (ckE g = 900) := ck_form hm
    rw [hm] at S1
    clear hg hm
    go_enter Tryz.func16, Tryz.ntmps16
    go_wp2_with fail
    change Calls _ _ _ (grB w es g eo po dd ec pc dc) _
    refine (unhide S1 _ qb).mono ?_
    rintro e w1 ⟨rfl, q1⟩
    go_wp2_with fail
    go_ret
    exact ⟨ret_int HO.out.symm, qb.trans q1⟩
  have hf := gm_facts hm
  have h16 : es.length ≤ 16 := by rw [hg.len]; exact hf.1
  have H8 : Hid (∀ x ∈ es, x.1.1.length ≤ 8) := fun x hx => hf.2 _ (by rw [← hg.em]; exact List.mem_map_of_mem hx)
  have HTW : Hid (∀ b, twB (ouL (es.map Prod.fst)) = b → ckE g = if b then 901 else 0) := by
    show ∀ b, _
    intro b hb
    rw [ck_two hm, ← hg.em, hb]
  have HE := hide hg.e
  have HQ0 := hide hg.q
  rw [hm] at S1
  clear hg hm hf
  go_enter Tryz.func16, Tryz.ntmps16
  go_wp2_with fail
  change Calls _ _ _ (grB w es g eo po dd ec pc dc) _
  generalize grB w es g eo po dd ec pc dc = wb at *
  generalize hX : w.heap.size = X at HB1 ⊢
  refine (unhide S1 _ qb).mono ?_
  rintro e w1 ⟨rfl, q1⟩
  have HB2 := hide ((unhide HB1).q q1)
  have qw1 := qb.trans q1
  clear S1 HB1 hX
  go_wp2_with fail
  go_loopw [3, 4] (fun s i wr => ∃ (k : Nat) (ys : Ws) (ao : Option Addr) (cap : Nat), k ≤ es.length ∧ i = .int .i64 k ∧ s = .slice ao ys.length cap ∧ ys.length ≤ 8 * k ∧ OwnT wr w1.heap.size ao cap ys ∧ Q w1 wr ∧ Hid (ys = ouL ((es.take k).map Prod.fst) ∧ twB ys = false)) (fun _ i _ => es.length - (intOf i).toNat)
  case atStart => exact ⟨0, [], none, 0, Nat.zero_le _, rfl, rfl, Nat.le_refl _, World.ownsRow_nil _ _ _ _, Q.refl _, ⟨rfl, rfl⟩⟩
  case round =>
    obtain ⟨k, ys, ao, cap, hk, rfl, rfl, hyl, hown, hq, HY⟩ := hrel
    have HX0 : Hid (∀ w2, Q w1 w2 → w2.cell? ⟨X, 0, none⟩ = some (.slice eo es.length ec)) := fun w2 q => ((unhide HB2).q q).cell 0 rfl
    have x0 := unhide HX0 wr hq
    by_cases hlt : k < es.length
    · rcases unhide HE with he | ⟨gg, o, rfl, hgg, hcell⟩
      · rw [he] at hlt; simp at hlt
      · obtain ⟨b, hb⟩ : ∃ b, es[k]? = some b := ⟨es[k], List.getElem?_eq_getElem hlt⟩
        have HC0 : Hid (∀ w2, Q w w2 → w2.cell? ⟨gg, o + k * 7, none⟩ = some (.slice b.2.1.1 b.1.1.length b.2.1.2)) := fun w2 q => (q.cell (p := ⟨gg, o + k * 7, none⟩) hgg).trans (hcell k 0 b _ hb (by decide) rfl)
        have hb8 := unhide H8 b (List.mem_of_getElem? hb)
        have HR := hide (fun w2 (q : Q w w2) => ((unhide HQ0) b (List.mem_of_getElem? hb)).a.q q)
        have HS := hide (ou_succ hb)
        have HAL := hide (fun j => ou_all hb j)
        have c0 := unhide HC0 wr (qw1.trans hq)
        clear hcell hb
        go_wp2_with fail
        clear c0 x0
        go_loopw [3, 5] (fun s i wq => ∃ (j : Nat) (zs : Ws) (zo : Option Addr) (zc : Nat), j ≤ b.1.1.length ∧ i = .int .i64 j ∧ s = .slice zo zs.length zc ∧ zs.length ≤ ys.length + j ∧ OwnT wq w1.heap.size zo zc zs ∧ Q w1 wq ∧ Hid (zs = ys ++ b.1.1.take j ∧ twB zs = false)) (fun _ i _ => b.1.1.length - (intOf i).toNat)
        case atStart => exact ⟨0, ys, ao, cap, Nat.zero_le _, rfl, rfl, Nat.le_refl _, hown, hq, ⟨by simp, HY.out.2⟩⟩
        case round =>
          clear hown hq
          obtain ⟨j, zs, zo, zc, hj, rfl, rfl, hzl, hown, hq, HZ⟩ := hrel
          have x0 := unhide HX0 wr hq
          have c0 := unhide HC0 wr (qw1.trans hq)
          by_cases hltj : j < b.1.1.length
          · rcases unhide HR wr (qw1.trans hq) with he | ⟨g2, o2, eb, hg2, hcell2⟩
            · rw [he] at hltj; simp at hltj
            · rw [eb] at c0
              obtain ⟨x, hx⟩ : ∃ x, b.1.1[j]? = some x := ⟨_, List.getElem?_eq_getElem hltj⟩
              have cx : wr.cell? ⟨g2, o2 + j, none⟩ = some (.string ⟨x.toArray⟩) := by have := hcell2 j 0 x _ hx (by decide) rfl; simpa using this
              have HH := hide (has_any zs ⟨x.toArray⟩ zo zc wr (OwnT.row hown) (by omega))
              rw [show bl (⟨x.toArray⟩ : ByteArray) = x from rfl, any_contains] at HH
              have HTK : Hid (zs ++ [x] = ys ++ b.1.1.take (j + 1)) := by
                show _ = _
                rw [HZ.out.1, List.append_assoc, List.take_add_one, hx]; rfl
              have HTV : Hid (tv x = [Value.string ⟨x.toArray⟩]) := rfl
              clear hcell2 hx eb
              generalize hxv : (⟨x.toArray⟩ : ByteArray) = xv at *
              have HXV := hide hxv
              clear hxv
              cases hco : zs.contains x
              · rw [hco] at HH
                have HNW : Hid (twB (zs ++ [x]) = false) := by
                  have h2 := HZ.out.2
                  show _ = _
                  unfold twB at h2 ⊢
                  simp only [Bool.not_eq_false', decide_eq_true_eq] at h2 ⊢
                  exact (nodup_snoc zs x).2 ⟨h2, fun hm => by rw [List.contains_iff_mem.2 hm] at hco; cases hco⟩
                have hqs := hq.size
                clear hco HZ
                go_wp2_with fail
                refine (unhide HH).mono ?_
                rintro e w2 ⟨rfl, rfl⟩
                go_wp2_with (at_builtin; refine wpList_append_lies _ rfl _ _ 24 rfl w1.heap.size 9 i0 (.string ByteArray.empty) 1 16 Tryz.underlying24 hi hz0 hz1 hz2 rfl (by decide) _ _ _ rfl (hown.alloc _) ⟨w2.heap.size, 0, none⟩ 1 1 [.string xv] rfl rfl (news_at (by simp) #[.string xv] _) (one_str _) (by decide) (by unfold maxLen; omega) (by omega) (le_alloc hqs _) (w2.heap.size + 1) (by simp) ?_)
                intro g' cp' w3 hown3 hgrow hor hglt
                have hq3 : Q w1 w3 := Below.grown (hq.alloc _) hgrow (le_alloc hqs _) (fun r hr => (hown.lt r hr).1)
                have HO : Hid (OwnT w3 w1.heap.size (some ⟨g', 0, none⟩) cp' (zs ++ [x])) := by
                  have h := hown3
                  show w3.ownsRow _ _ _ (.slice _ (zs ++ [x]).length _) (zs ++ [x]).length (lay tv (zs ++ [x]))
                  rw [lay_snoc, List.length_append, unhide HTV]
                  exact h
                clear hown3 hgrow hown hor
                go_wp2
                go_roundw
                case rel =>
                  refine ⟨j + 1, zs ++ [x], some ⟨g', 0, none⟩, cp', by omega, by go_num, ?_, ?_, unhide HO, hq3, ⟨HTK.out, HNW.out⟩⟩
                  · simp
                  · simp; omega
                case measure => simp [intOf]; omega
              · rw [hco] at HH
                have HCK : Hid (ckE g = 901) := by
                  show _ = _
                  refine unhide HTW true ?_
                  obtain ⟨r, hr⟩ := unhide HAL (j + 1)
                  rw [hr]
                  refine tw_more ?_
                  rw [← HY.out.1, ← HTK.out]
                  unfold twB
                  rw [decide_eq_false]
                  · rfl
                  · intro hn
                    exact ((nodup_snoc zs x).1 hn).2 (List.contains_iff_mem.1 hco)
                clear hco HZ
                go_wp2_with fail
                refine (unhide HH).mono ?_
                rintro e w2 ⟨rfl, rfl⟩
                go_wp2_with fail
                go_ret
                exact ⟨ret_int HCK.out.symm, qw1.trans hq⟩
          · have HZ2 : Hid (zs = ouL ((es.take (k + 1)).map Prod.fst) ∧ twB zs = false) := by
              refine ⟨?_, HZ.out.2⟩
              rw [unhide HS, HZ.out.1, List.take_of_length_le (by omega), ← HY.out.1]
            clear HZ
            go_wp2_with fail
            go_roundw
            case rel => exact ⟨k + 1, zs, zo, zc, by omega, by go_num, rfl, by omega, hown, hq, HZ2⟩
            case measure => simp [intOf]; omega
    · have HCK : Hid (ckE g = 0) := by
        show _ = _
        refine unhide HTW false ?_
        have h1 := HY.out.1
        rw [List.take_of_length_le (by omega)] at h1
        rw [← h1]; exact HY.out.2
      clear HY
      go_wp2_with fail
      go_ret
      exact ⟨ret_int HCK.out.symm, qw1.trans hq⟩


end Go.Proofs.YtfadjppokbolhaaGreatDoor
