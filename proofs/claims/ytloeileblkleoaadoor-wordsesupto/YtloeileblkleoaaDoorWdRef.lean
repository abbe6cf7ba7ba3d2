/- What the document's own words and names answer: a text's words; how many names a row begins with; the conditions: the lengths. -/
import Derived.Test.YtloeileblkleoaaDoorWdBut
import Derived.Test.YtloeileblkleoaaDoorNmMay
import Derived.Test.YtloeileblkleoaaDoorStAppend
import Derived.Deep.AppendLies
namespace Go.Proofs.YtloeileblkleoaaDoor
open Go.RowKit

theorem filter_next {l : Ws} {k : Nat} {x : List UInt8} (h : l[k]? = some x) : (l.take (k + 1)).filter (fun x => !x.isEmpty) = (l.take k).filter (fun x => !x.isEmpty) ++ (if x.isEmpty then [] else [x]) := by
  rw [List.take_add_one, h, List.filter_append]
  cases x <;> simp

set_option maxRecDepth 20000 in
set_option maxHeartbeats 4000000 in
theorem rwords_any (s : ByteArray) (w : World) (hs : s.size ≤ 1073741824) :
    Calls Tryd.prog 21 #[.string s] w fun e w' => ∃ (ao : Option Addr) (cap : Nat), e = .returned (.slice ao (wdL (bl s)).length cap) ∧ OwnT w' w.heap.size ao cap (wdL (bl s)) ∧ (wdL (bl s)).length ≤ s.size + 1 ∧ Q w w' := by
  obtain ⟨i0, hi, hz0, hz1, hz2⟩ := info_parts Tryd.infoS
  go_enter Tryd.func21, Tryd.ntmps21
  go_wp2_with fail
  refine (rsplit_any s 32 _ (by omega)).mono ?_
  rintro e w1 ⟨ys, bo, bcap, hys, hyl, rfl, hown, q1⟩
  have HY := hide hys
  have HR : Hid (RowT w1 bo (ys.map bl)) := by
    rw [← lay_tv] at hown
    exact RowG.own tv_len (by decide) hown
  have q1s := q1.size
  clear hown hys
  go_wp2_with fail
  go_loopw [4, 5] (fun v i wr => ∃ (k : Nat) (zs : Ws) (ao : Option Addr) (cap : Nat), i = .int .i64 k ∧ v = .slice ao zs.length cap ∧ k ≤ ys.length ∧ zs.length ≤ k ∧ Hid (OwnT wr w1.heap.size ao cap zs) ∧ Q w1 wr ∧ Hid (zs = ((ys.map bl).take k).filter fun x => !x.isEmpty))
    (fun _ i _ => ys.length - (intOf i).toNat)
  case atStart => exact ⟨0, [], none, 0, rfl, rfl, by omega, by simp, World.ownsRow_nil _ _ _ _, Q.refl _, rfl⟩
  case round =>
    obtain ⟨k, zs, ao, cap, rfl, rfl, hk, hzl, HO, hq, HZ⟩ := hrel
    by_cases hlt : k < ys.length
    · obtain ⟨x, hx⟩ : ∃ x, ys[k]? = some x := ⟨ys[k], List.getElem?_eq_getElem hlt⟩
      have hxm : (ys.map bl)[k]? = some (bl x) := by rw [List.getElem?_map, hx]; rfl
      rcases HR.out.q hq with he | ⟨g, o, rfl, hg, hc⟩
      · rw [he] at hxm; simp at hxm
      have cx : wr.cell? ⟨g, o + k, none⟩ = some (.string x) := by
        have := hc k 0 (bl x) _ hxm (by decide) rfl
        rw [(of_bl rfl : x = ⟨(bl x).toArray⟩).symm] at this
        simpa using this
      have HF := hide (filter_next hxm)
      have hlt' : (k : Int) < (ys.length : Int) := by omega
      have hqs := hq.size
      clear hc hx hxm
      cases hem : (bl x).isEmpty
      · have e1 : x.toList.isEmpty = false := by rw [bl_toList]; exact hem
        have e2 : (x.toList == []) = false := by rw [bl_toList]; cases hb : bl x with
          | nil => rw [hb] at hem; cases hem
          | cons a b => rfl
        have HN : Hid (zs ++ [bl x] = ((ys.map bl).take (k + 1)).filter fun x => !x.isEmpty) := by show _ = _; rw [unhide HF, hem, HZ.out]; rfl
        clear hem HZ HF
        have hown := HO.out
        go_wp2_with (at_builtin; refine wpList_append_lies _ rfl _ _ 22 rfl w1.heap.size 9 i0 (.string ByteArray.empty) 1 16 Tryd.underlying22 hi hz0 hz1 hz2 rfl (by decide) _ _ _ rfl (hown.alloc _) ⟨wr.heap.size, 0, none⟩ 1 1 [.string x] rfl rfl (news_new wr #[.string x] _) (one_str _) (by decide) (by unfold maxLen; omega) (by omega) (le_alloc hqs _) (wr.heap.size + 1) (by simp) ?_)
        intro gg cp w3 hown3 hgrow hor hglt
        have hq3 : Q w1 w3 := Below.grown (hq.alloc _) hgrow (le_alloc hqs _) (fun r hr => (hown.lt r hr).1)
        have HO4 := hide (OwnT.snoc hown3)
        clear hown3 hgrow hown hor HO
        go_wp2
        go_roundw
        case rel => exact ⟨k + 1, zs ++ [bl x], some ⟨gg, 0, none⟩, cp, by go_num, by rw [List.length_append]; rfl, by omega, by rw [List.length_append]; show zs.length + 1 ≤ _; omega, unhide HO4, hq3, HN⟩
        case measure => simp [intOf]; omega
      · have e1 : x.toList.isEmpty = true := by rw [bl_toList]; exact hem
        have e2 : (x.toList == []) = true := by rw [bl_toList, List.isEmpty_iff.1 hem]; rfl
        have HN : Hid (zs = ((ys.map bl).take (k + 1)).filter fun x => !x.isEmpty) := by show _ = _; rw [unhide HF, hem, HZ.out]; simp
        clear hem HZ HF
        go_wp2_with fail
        go_roundw
        case rel => exact ⟨k + 1, zs, ao, cap, by go_num, rfl, by omega, by omega, HO, hq, HN⟩
        case measure => simp [intOf]; omega
    · have HF : Hid (wdL (bl s) = zs) := by
        show (spc 32 (bl s)).filter _ = _
        rw [← unhide HY, HZ.out, List.take_of_length_le (by rw [List.length_map]; omega)]
      clear HZ
      go_wp2_with fail
      go_ret
      rw [HF.out]
      exact ⟨ao, cap, rfl, own_low HO.out q1s, by omega, q1.trans hq⟩

/-- How many names a row begins with. -/
def cnW (ws : Ws) : Nat := (ws.takeWhile okN).length

theorem cn_no {ws : Ws} {k : Nat} {x : List UInt8} (h : ∀ y ∈ ws.take k, okN y = true) (hx : ws[k]? = some x) (ho : okN x = false) : cnW ws = k := by
  have hk : k < ws.length := by
    rcases Nat.lt_or_ge k ws.length with h | h
    · exact h
    · rw [List.getElem?_eq_none h] at hx; cases hx
  unfold cnW
  conv => lhs; rw [← List.take_append_drop k ws]
  rw [takeWhile_of h (fun y hy => by
    rw [List.head?_drop, hx] at hy; cases hy; exact ho), List.length_take]
  omega
theorem cn_all {ws : Ws} (h : ∀ y ∈ ws.take ws.length, okN y = true) : cnW ws = ws.length := by
  unfold cnW
  rw [List.take_of_length_le (Nat.le_refl _)] at h
  have := takeWhile_of (r := []) h (fun y hy => by cases hy)
  rw [List.append_nil] at this
  rw [this]
theorem cn_le (ws : Ws) : cnW ws ≤ ws.length := (List.takeWhile_sublist _).length_le

set_option maxRecDepth 20000 in
set_option maxHeartbeats 4000000 in
theorem rnames_any (ao : Option Addr) (cap m : Nat) (ws : Ws) (w : World) (hm : m = ws.length) (hr : RowT w ao ws) (hn : m ≤ 1099511627776) (hl : ∀ x ∈ ws, x.length ≤ 1099511627776) :
    Calls Tryd.prog 22 #[.slice ao m cap] w fun e w' => e = .returned (.int .i64 (cnW ws : Nat)) ∧ w' = w := by
  have HR := hide hr
  have HL := hide hl
  have HM := hide hm
  clear hr hl hm
  go_enter Tryd.func22, Tryd.ntmps22
  go_wp2_with fail
  go_loop [3] (fun i => ∃ k : Nat, k ≤ m ∧ i = .int .i64 k ∧ Hid (∀ y ∈ ws.take k, okN y = true)) (fun i => m - (intOf i).toNat)
  case atStart => exact ⟨0, Nat.zero_le _, rfl, fun y hy => by cases hy⟩
  case round =>
    obtain ⟨k, hk, rfl, HA⟩ := hrel
    by_cases hlt : k < m
    · have hlw : k < ws.length := by have := unhide HM; omega
      obtain ⟨x, hx⟩ : ∃ x, ws[k]? = some x := ⟨ws[k], List.getElem?_eq_getElem hlw⟩
      have hxl : x.length ≤ 1099511627776 := (unhide HL) x (List.mem_of_getElem? hx)
      rcases unhide HR with he | ⟨g, o, rfl, hg, hc⟩
      · rw [he] at hx; simp at hx
      have cx : w.cell? ⟨g, o + k, none⟩ = some (.string ⟨x.toArray⟩) := by simpa using hc k 0 x _ hx (by decide) rfl
      have HX := hide (bl_mk x)
      generalize (⟨x.toArray⟩ : ByteArray) = X at cx HX
      have hXz : X.size ≤ maxLen := by rw [← bl_size, unhide HX]; unfold maxLen; omega
      have hlt' : (k : Int) < (m : Int) := by omega
      have HXK := hide hx
      clear hc hx hxl hlw
      cases hok : okN x
      · have HM2 : Hid (mayB X = false) := by show _ = _; rw [may_okN, unhide HX]; exact hok
        have HF := hide (cn_no HA.out (unhide HXK) hok)
        clear hok
        go_wp2_with fail
        refine (nameMay_any X _ hXz).mono ?_
        rintro e w' ⟨rfl, rfl⟩
        rw [HM2.out]
        go_wp2_with fail
        go_ret
        rw [unhide HF]
        exact ⟨rfl, rfl⟩
      · have HM2 : Hid (mayB X = true) := by show _ = _; rw [may_okN, unhide HX]; exact hok
        have HN : Hid (∀ y ∈ ws.take (k + 1), okN y = true) := by
          intro y hy
          rw [List.take_add_one, unhide HXK] at hy
          rcases List.mem_append.1 hy with h1 | h1
          · exact HA.out y h1
          · simp at h1; rw [h1]; exact hok
        clear hok HA
        go_wp2_with fail
        refine (nameMay_any X _ hXz).mono ?_
        rintro e w' ⟨rfl, rfl⟩
        rw [HM2.out]
        go_wp2_with fail
        go_round
        case rel => exact ⟨k + 1, by omega, by go_num, HN⟩
        case measure => simp [intOf]; omega
    · have hkm : k = ws.length := by have := unhide HM; omega
      have HF : Hid (cnW ws = k) := by show _ = _; rw [hkm]; exact cn_all (by have := HA.out; rw [hkm] at this; exact this)
      clear hkm HA
      go_wp2_with fail
      go_ret
      rw [HF.out]
      exact ⟨rfl, rfl⟩

end Go.Proofs.YtloeileblkleoaaDoor
