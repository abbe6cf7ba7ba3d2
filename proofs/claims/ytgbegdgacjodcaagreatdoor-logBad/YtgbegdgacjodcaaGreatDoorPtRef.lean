/- What the document's own CleanPath answers, for every text: the same path, or the same number; no conditions but that the text is no longer than a string can be. -/
import Derived.Test.YtgbegdgacjodcaaGreatDoorNmMay
import Derived.Test.YtgbegdgacjodcaaGreatDoorPtClean
namespace Go.Proofs.YtgbegdgacjodcaaGreatDoor
open Go.RowKit

set_option maxHeartbeats 4000000 in
set_option maxRecDepth 20000 in
theorem cleanPath_any (s : ByteArray) (w : World) (hs : s.size ≤ maxLen) :
    Calls Tryz.prog 60 #[.string s] w fun e w' => e = .returned (.tuple #[.string ⟨(cstr (bl s)).toArray⟩, .int .i64 (cerr (bl s))]) ∧ Q w w' := by
  have hmb := mayB_mayL s
  have hs' := hs
  unfold maxLen at hs'
  obtain ⟨i0, hi, hz0, hz1, hz2⟩ := info_parts Tryz.infoS
  cases hm : mayB s
  · have HF := hide (clean_no1 (l := bl s) (by rw [hm] at hmb; exact hmb.symm))
    clear hmb
    go_enter Tryz.func60, Tryz.ntmps60
    go_wp2_with fail
    refine (nameMay_any s _ hs).mono ?_
    rintro e w1 ⟨rfl, rfl⟩
    rw [hm]
    go_wp2_with fail
    go_ret2
    exact ⟨ret_clean (unhide HF), Q.refl _⟩
  have hml : mayL (bl s) = true := by rw [hm] at hmb; exact hmb.symm
  have hsz : 1 ≤ s.size ∧ s.size ≤ 16 := by
    unfold mayB at hm; simp at hm; omega
  obtain ⟨hsz1, hsz2⟩ := hsz
  have hh := head_byte s (by omega)
  have HM := hide hm
  have HML := hide hml
  clear hmb hm hml
  by_cases h0 : s[0] = 47
  · have HF := hide (clean_no2 (l := bl s) (by rw [hh, h0]))
    have h0' : ((s[0].toNat : Int) == 47) = true := by rw [h0]; rfl
    clear hh h0
    go_enter Tryz.func60, Tryz.ntmps60
    go_wp2_with fail
    refine (nameMay_any s _ hs).mono ?_
    rintro e w1 ⟨rfl, rfl⟩
    rw [unhide HM]
    go_wp2_with fail
    go_ret2
    exact ⟨ret_clean (unhide HF), Q.refl _⟩
  have h0' : ((s[0].toNat : Int) == 47) = false := beq_eq_false_iff_ne.2 (fun e => h0 (UInt8.toNat_inj.1 (by simpa using (by omega : s[0].toNat = 47))))
  have HH : Hid ((bl s).head? ≠ some 47) := by show _ ≠ _; rw [hh]; simpa using h0
  clear hh h0
  go_enter Tryz.func60, Tryz.ntmps60
  go_wp2_with fail
  refine (nameMay_any s _ hs).mono ?_
  rintro e w1 ⟨rfl, rfl⟩
  rw [unhide HM]
  go_wp2_with fail
  refine (rsplit_any s 47 _ (by omega)).mono ?_
  rintro e w2 ⟨xs, ax, cx, hx1, hx2, rfl, hownx, q2⟩
  rw [spc_47] at hx1
  have HX := hide hx1
  have hxne : xs ≠ [] := by intro e; rw [e] at hx1; exact sp_ne _ hx1.symm
  have hxc := own_cap hownx
  rcases RowS.of_own hownx with hy' | ⟨gx, ox, rfl, hgx, hcells⟩
  · exact absurd hy' hxne
  clear hx1 hownx hxne
  go_wp2_with fail
  go_loopw [5, 6] (fun v i wr => ∃ (k : Nat) (ys : List ByteArray) (ao : Option Addr) (cap : Nat), k ≤ xs.length ∧ i = .int .i64 k ∧ v = .slice ao ys.length cap ∧ ys.length ≤ k ∧
      Hid (kf [] ((xs.take k).map bl) = some (ys.map bl)) ∧ wr.ownsRow w2.heap.size 9 1 (.slice ao ys.length cap) ys.length (ys.map Value.string) ∧ Q w2 wr)
    (fun _ i _ => xs.length - (intOf i).toNat)
  case atStart => exact ⟨0, [], none, 0, Nat.zero_le _, rfl, rfl, by simp, rfl, World.ownsRow_nil _ _ _ _, Q.refl _⟩
  case round =>
    obtain ⟨k, ys, ao, cap, hk, rfl, rfl, hyk, HK, hown, hq⟩ := hrel
    have hyc := own_cap hown
    by_cases hlt : k < xs.length
    · obtain ⟨x, hx⟩ : ∃ x, xs[k]? = some x := ⟨xs[k], List.getElem?_eq_getElem hlt⟩
      have hc : wr.cell? ⟨gx, ox + k, none⟩ = some (.string x) := (hq.cell (p := ⟨gx, ox + k, none⟩) hgx).trans (hcells k x hx)
      have HS := hide (take_map_snoc xs k x hx)
      have HP := hide (map_parts xs k x hx)
      clear hx hcells
      by_cases c1 : x.toList.isEmpty = true
      · have HN : Hid (kf [] ((xs.take (k + 1)).map bl) = some (ys.map bl)) := by
          show _ = _; rw [unhide HS]; exact kf_snoc HK.out (kst_empty c1)
        go_wp2_with fail
        go_roundw
        case rel => exact ⟨k + 1, ys, ao, cap, by omega, by go_num, rfl, by omega, HN, hown, hq⟩
        case measure => simp [intOf]; omega
      have c1 : x.toList.isEmpty = false := by simpa using c1
      by_cases c2 : (x.toList == [46]) = true
      · have HN : Hid (kf [] ((xs.take (k + 1)).map bl) = some (ys.map bl)) := by
          show _ = _; rw [unhide HS]; exact kf_snoc HK.out (kst_dot c2)
        go_wp2_with fail
        go_roundw
        case rel => exact ⟨k + 1, ys, ao, cap, by omega, by go_num, rfl, by omega, HN, hown, hq⟩
        case measure => simp [intOf]; omega
      have c2 : (x.toList == [46]) = false := by simpa using c2
      by_cases c3 : (x.toList == [46, 46]) = true
      · by_cases hy : ys = []
        · subst hy
          have HF := hide (clean_no3 (l := bl s) (by rw [← unhide HX, unhide HP]; exact kf_fail HK.out (kst_dots_none c3)))
          go_wp2_with fail
          go_ret2
          exact ⟨ret_clean (unhide HF), q2.trans hq⟩
        · have HN : Hid (kf [] ((xs.take (k + 1)).map bl) = some (ys.dropLast.map bl)) := by
            show _ = _; rw [unhide HS]
            have := kf_snoc HK.out (kst_dots c3 (ks := ys.map bl) (by simpa using hy))
            rw [this, List.map_dropLast]
          have hown' := hide (own_pop hy hown)
          have hl : 1 ≤ ys.length := List.length_pos_iff.2 hy
          have hl0 : ((ys.length : Int) == 0) = false := beq_eq_false_iff_ne.2 (by omega)
          clear hown
          go_wp2_with fail
          go_roundw
          case rel => exact ⟨k + 1, ys.dropLast, ao, cap, by omega, by go_num, by simp, by simp; omega, HN, by have := unhide hown'; simpa using this, hq⟩
          case measure => simp [intOf]; omega
      have c3 : (x.toList == [46, 46]) = false := by simpa using c3
      have HN : Hid (kf [] ((xs.take (k + 1)).map bl) = some ((ys ++ [x]).map bl)) := by
        show _ = _; rw [unhide HS]
        have := kf_snoc HK.out (kst_other c1 c2 c3)
        rw [this]; simp
      go_wp2_with (at_builtin; refine wpList_append_lies _ rfl _ _ 45 rfl w2.heap.size 9 i0 (.string ByteArray.empty) 1 16 Tryz.underlying45 hi hz0 hz1 hz2 rfl (by decide) _ _ _ rfl (hown.alloc _) ⟨wr.heap.size, 0, none⟩ 1 1 [.string x] rfl rfl ?c1 ?c2 (by decide) ?c3 ?c4 ?c5 (wr.heap.size + 1) (by simp) ?_)
      case c1 =>
        intro j u hj
        match j, hj with
        | 0, hj => simp at hj; subst hj; simp [Addr.add]
      case c2 => intro u hu; simp at hu; subst hu; rfl
      case c3 => unfold maxLen; omega
      case c4 => omega
      case c5 => have := hq.size; simp; omega
      intro g cp w1 hown1 hgrow hor hglt
      have hq1 : Q w2 w1 := Below.grown (hq.alloc _) hgrow (by have := hq.size; simp; omega) (fun r hr => (hown.lt r hr).1)
      have HO := hide hown1
      clear hown1 hgrow hown hor
      go_wp2
      go_roundw
      case rel => exact ⟨k + 1, ys ++ [x], some ⟨g, 0, none⟩, cp, by omega, by go_num, by simp, by simp; omega, HN, by have := unhide HO; simpa using this, hq1⟩
      case measure => simp [intOf]; omega
    · have hk' : kf [] (sp (bl s)) = some (ys.map bl) := by
        have := HK.out
        rw [List.take_of_length_le (by omega), unhide HX] at this
        exact this
      clear hcells
      have q4 := q2.trans hq
      by_cases hy : ys = []
      · subst hy
        have HF := hide (clean_no4 hk')
        clear hk'
        go_wp2_with fail
        go_ret2
        exact ⟨ret_clean (unhide HF), q4⟩
      have hl1 : 1 ≤ ys.length := List.length_pos_iff.2 hy
      have hl0 : ((ys.length : Int) == 0) = false := beq_eq_false_iff_ne.2 (by omega)
      have hyes := clean_yes (unhide HML) HH.out hk' (by simpa using hy)
      have hle := clean_le hyes.2.2
      rw [bl_size] at hle
      have HJ : Hid ((Lib.join (ys.map bl) (bl ⟨#[47]⟩)).length ≤ 1099511627776) := by
        show (Lib.join (ys.map bl) [47]).length ≤ _; omega
      have HF := hide (And.intro hyes.1 hyes.2.1)
      have HR := hide (RowS.of_own hown)
      clear hk' hown hyes hle hy
      go_wp2_with fail
      refine (rjoin_any ao cap ys ⟨#[47]⟩ _ (unhide HR) (by omega) (by decide) (unhide HJ)).mono ?_
      rintro e w5 ⟨t, rfl, ht, rfl⟩
      obtain rfl := of_bl ht
      clear ht
      go_wp2_with fail
      go_ret2
      exact ⟨ret_clean (unhide HF), q4⟩

end Go.Proofs.YtgbegdgacjodcaaGreatDoor
