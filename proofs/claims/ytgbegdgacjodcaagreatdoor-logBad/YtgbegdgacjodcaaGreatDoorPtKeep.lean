/- What package path's keep answers: the pieces that stay, from the left, or that two points have none to take away; the condition: the pieces lie in memory that stands, and are no more than a thousand. -/
import Derived.Test.YtgbegdgacjodcaaGreatDoorRfWalks
namespace Go.Proofs.YtgbegdgacjodcaaGreatDoor
open Go.RowKit

theorem kst_empty {ks : List (List UInt8)} {x : ByteArray} (h : x.toList.isEmpty = true) : kst ks (bl x) = some ks := by
  rw [bl_toList] at h; unfold kst; rw [if_pos (Or.inl (List.isEmpty_iff.1 h))]
theorem kst_dot {ks : List (List UInt8)} {x : ByteArray} (h : (x.toList == [46]) = true) : kst ks (bl x) = some ks := by
  rw [bl_toList] at h; unfold kst; rw [if_pos (Or.inr (beq_iff_eq.1 h))]
theorem kst_dots_none {x : ByteArray} (h : (x.toList == [46, 46]) = true) : kst [] (bl x) = none := by
  rw [bl_toList] at h; unfold kst; rw [beq_iff_eq.1 h]; simp
theorem kst_dots {ks : List (List UInt8)} {x : ByteArray} (h : (x.toList == [46, 46]) = true) (hk : ks ≠ []) : kst ks (bl x) = some ks.dropLast := by
  rw [bl_toList] at h; unfold kst; rw [beq_iff_eq.1 h]; simp [hk]
theorem kst_other {ks : List (List UInt8)} {x : ByteArray} (h : x.toList.isEmpty = false) (h1 : (x.toList == [46]) = false) (h2 : (x.toList == [46, 46]) = false) : kst ks (bl x) = some (ks ++ [bl x]) := by
  rw [bl_toList] at h h1 h2; unfold kst
  rw [if_neg (by rintro (e | e); rw [e] at h; cases h; rw [e] at h1; simp at h1), if_neg (by intro e; rw [e] at h2; simp at h2)]

theorem take_map_snoc (xs : List ByteArray) (k : Nat) (x : ByteArray) (h : xs[k]? = some x) : (xs.take (k + 1)).map bl = (xs.take k).map bl ++ [bl x] := by
  rw [List.take_add_one, h]; simp
theorem map_parts (xs : List ByteArray) (k : Nat) (x : ByteArray) (h : xs[k]? = some x) : xs.map bl = (xs.take k).map bl ++ bl x :: (xs.drop (k + 1)).map bl := by
  have hl : k < xs.length := by
    rcases Nat.lt_or_ge k xs.length with h' | h'
    · exact h'
    · rw [List.getElem?_eq_none h'] at h; cases h
  rw [← List.map_cons, ← List.map_append]
  congr 1
  conv => lhs; rw [← List.take_append_drop k xs]
  rw [List.drop_eq_getElem_cons hl]
  rw [List.getElem?_eq_getElem hl] at h
  cases h; rfl

theorem own_pop {w : World} {B : Nat} {ao : Option Addr} {cap : Nat} {ys : List ByteArray} (hy : ys ≠ []) (h : w.ownsRow B 9 1 (.slice ao ys.length cap) ys.length (ys.map Value.string)) :
    w.ownsRow B 9 1 (.slice ao (ys.length - 1) cap) ys.dropLast.length (ys.dropLast.map Value.string) := by
  obtain ⟨h1, h2⟩ := h
  have hl : 0 < ys.length := List.length_pos_iff.2 hy
  rcases h2 with ⟨_, h2⟩ | ⟨g, cap', cur, e, hb, hh, hn, hm, hs, ht⟩
  · omega
  · cases e
    refine ⟨by simp, Or.inr ⟨g, cap, cur, by simp, hb, hh, by simp; omega, hm, hs, ?_⟩⟩
    have e2 : (ys.map Value.string).take (ys.length - 1) = ys.dropLast.map Value.string := by
      rw [← List.map_take, List.dropLast_eq_take]
    rw [← e2, ← ht, List.take_take]
    simp

set_option maxHeartbeats 2000000 in
theorem keep_any (bk c : Nat) (xs : List ByteArray) (w : World) (hbk : bk < w.heap.size) (hn : xs.length ≤ 1000)
    (hcells : ∀ (j : Nat) x, xs[j]? = some x → w.cell? ⟨bk, j, none⟩ = some (.string x)) :
    Calls Tryz.prog 67 #[.slice (some ⟨bk, 0, none⟩) xs.length c] w fun e w' =>
      (kf [] (xs.map bl) = none ∧ e = .returned (.tuple #[.slice none 0 0, .bool false]) ∧ Q w w') ∨
      (∃ (ys : List ByteArray) (ao : Option Addr) (cap : Nat), kf [] (xs.map bl) = some (ys.map bl) ∧ e = .returned (.tuple #[.slice ao ys.length cap, .bool true]) ∧ ys.length ≤ 1000 ∧
        w'.ownsRow w.heap.size 9 1 (.slice ao ys.length cap) ys.length (ys.map Value.string) ∧ Q w w') := by
  obtain ⟨i0, hi, hz0, hz1, hz2⟩ := info_parts Tryz.infoS
  go_enter Tryz.func67, Tryz.ntmps67
  go_wp2
  go_loopw [4, 9] (fun v i wr => ∃ (k : Nat) (ys : List ByteArray) (ao : Option Addr) (cap : Nat), k ≤ xs.length ∧ i = .int .i64 k ∧ v = .slice ao ys.length cap ∧ ys.length ≤ k ∧
      Hid (kf [] ((xs.take k).map bl) = some (ys.map bl)) ∧ wr.ownsRow w.heap.size 9 1 (.slice ao ys.length cap) ys.length (ys.map Value.string) ∧ Q w wr)
    (fun _ i _ => xs.length - (intOf i).toNat)
  case atStart => exact ⟨0, [], none, 0, Nat.zero_le _, rfl, rfl, by simp, rfl, World.ownsRow_nil _ _ _ _, Q.refl _⟩
  case round =>
    obtain ⟨k, ys, ao, cap, hk, rfl, rfl, hyk, HK, hown, hq⟩ := hrel
    have hyc := own_cap hown
    by_cases hlt : k < xs.length
    · obtain ⟨x, hx⟩ : ∃ x, xs[k]? = some x := ⟨xs[k], List.getElem?_eq_getElem hlt⟩
      have hc : wr.cell? ⟨bk, k, none⟩ = some (.string x) := (hq.cell (p := ⟨bk, k, none⟩) hbk).trans (hcells k x hx)
      have HS := hide (take_map_snoc xs k x hx)
      have HP := hide (map_parts xs k x hx)
      clear hx hcells
      by_cases c1 : x.toList.isEmpty = true
      · have HN : Hid (kf [] ((xs.take (k + 1)).map bl) = some (ys.map bl)) := by
          show _ = _; rw [unhide HS]; exact kf_snoc HK.out (kst_empty c1)
        go_wp2_with fail
        go_roundw
        case rel => exact ⟨k + 1, ys, ao, cap, by omega, by go_num, rfl, by omega, HN, hown, hq⟩
        case measure => simp [intOf]; omega
      have c1 : x.toList.isEmpty = false := by simpa using c1
      by_cases c2 : (x.toList == [46]) = true
      · have HN : Hid (kf [] ((xs.take (k + 1)).map bl) = some (ys.map bl)) := by
          show _ = _; rw [unhide HS]; exact kf_snoc HK.out (kst_dot c2)
        go_wp2_with fail
        go_roundw
        case rel => exact ⟨k + 1, ys, ao, cap, by omega, by go_num, rfl, by omega, HN, hown, hq⟩
        case measure => simp [intOf]; omega
      have c2 : (x.toList == [46]) = false := by simpa using c2
      by_cases c3 : (x.toList == [46, 46]) = true
      · by_cases hy : ys = []
        · subst hy
          have HN : Hid (kf [] (xs.map bl) = none) := by
            show _ = _; rw [unhide HP]; exact kf_fail HK.out (kst_dots_none c3)
          go_wp2_with fail
          go_ret2
          exact Or.inl ⟨HN.out, rfl, hq⟩
        · have HN : Hid (kf [] ((xs.take (k + 1)).map bl) = some (ys.dropLast.map bl)) := by
            show _ = _; rw [unhide HS]
            have := kf_snoc HK.out (kst_dots c3 (ks := ys.map bl) (by simpa using hy))
            rw [this, List.map_dropLast]
          have hown' := hide (own_pop hy hown)
          have hl : 1 ≤ ys.length := List.length_pos_iff.2 hy
          have hl0 : ((ys.length : Int) == 0) = false := beq_eq_false_iff_ne.2 (by omega)
          clear hown
          go_wp2_with fail
          go_roundw
          case rel => exact ⟨k + 1, ys.dropLast, ao, cap, by omega, by go_num, by simp, by simp; omega, HN, by have := unhide hown'; simpa using this, hq⟩
          case measure => simp [intOf]; omega
      have c3 : (x.toList == [46, 46]) = false := by simpa using c3
      have HN : Hid (kf [] ((xs.take (k + 1)).map bl) = some ((ys ++ [x]).map bl)) := by
        show _ = _; rw [unhide HS]
        have := kf_snoc HK.out (kst_other c1 c2 c3)
        rw [this]; simp
      go_wp2_with (at_builtin; refine wpList_append_lies _ rfl _ _ 45 rfl w.heap.size 9 i0 (.string ByteArray.empty) 1 16 Tryz.underlying45 hi hz0 hz1 hz2 rfl (by decide) _ _ _ rfl (hown.alloc _) ⟨wr.heap.size, 0, none⟩ 1 1 [.string x] rfl rfl ?c1 ?c2 (by decide) ?c3 ?c4 ?c5 (wr.heap.size + 1) (by simp) ?_)
      case c1 =>
        intro j u hj
        match j, hj with
        | 0, hj => simp at hj; subst hj; simp [Addr.add]
      case c2 => intro u hu; simp at hu; subst hu; rfl
      case c3 => unfold maxLen; omega
      case c4 => omega
      case c5 => have := hq.size; simp; omega
      intro g cp w1 hown1 hgrow hor hglt
      have hq1 : Q w w1 := Below.grown (hq.alloc _) hgrow (by have := hq.size; simp; omega) (fun r hr => (hown.lt r hr).1)
      have HO := hide hown1
      clear hown1 hgrow hown hor
      go_wp2
      go_roundw
      case rel => exact ⟨k + 1, ys ++ [x], some ⟨g, 0, none⟩, cp, by omega, by go_num, by simp, by simp; omega, HN, by have := unhide HO; simpa using this, hq1⟩
      case measure => simp [intOf]; omega
    · have HF : Hid (kf [] (xs.map bl) = some (ys.map bl)) := by
        have := HK.out
        rw [List.take_of_length_le (by omega)] at this
        exact this
      go_wp2
      go_ret2
      exact Or.inr ⟨ys, ao, cap, HF.out, rfl, by omega, hown, hq⟩

end Go.Proofs.YtgbegdgacjodcaaGreatDoor
