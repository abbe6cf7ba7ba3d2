/- What the document's own text answers: one more byte of text; the conditions: at most 2048 pieces, each of at most 2048 bytes. -/
import Derived.Test.YtpddckgkaopnlaaGreatDoorPcCut
import Derived.Test.YtpddckgkaopnlaaGreatDoorWk1
namespace Go.Proofs.YtpddckgkaopnlaaGreatDoor
open Go.RowKit

theorem one_lay (ps : List Pc) : ∀ u ∈ lay pv ps, u.oneCell' = true := by
  intro u hu
  unfold lay at hu
  obtain ⟨p, _, hp⟩ := List.mem_flatMap.1 hu
  simp [pv] at hp
  rcases hp with rfl | rfl <;> rfl

theorem last_is {ps : List Pc} {p : Pc} (h : ps.getLast? = some p) : ps[ps.length - 1]? = some p := by rw [← List.getLast?_eq_getElem?]; exact h

theorem add_set {ps : List Pc} {l : List UInt8} {c : UInt8} (h : ps.getLast? = some (false, l)) : add ps (.inl c) = ps.set (ps.length - 1) (false, l ++ [c]) := by
  have hne : ps ≠ [] := by intro e; subst e; simp at h
  unfold add; simp only [h]
  have hd : ps = ps.dropLast ++ [(false, l)] := by
    conv => lhs; rw [← List.dropLast_concat_getLast hne]
    rw [List.getLast?_eq_some_getLast hne] at h
    rw [Option.some.inj h]
  have hl : ps.length - 1 = ps.dropLast.length := by simp
  rw [hl]
  conv => rhs; rw [hd]
  rw [List.set_append_right _ _ (by simp)]
  simp

set_option maxRecDepth 20000 in
set_option maxHeartbeats 4000000 in
theorem rtext_new (ps : List Pc) (ao : Option Addr) (cap : Nat) (c : UInt8) (B : Nat) (w : World) (hown : OwnP w B ao cap ps) (hB : B ≤ w.heap.size) (hn : ps.length ≤ 2048) (hnt : noText ps) :
    Calls Tryz.prog 154 #[.slice ao ps.length cap, .int .u8 (c.toNat : Int)] w fun e w' =>
      ∃ ao' cap', e = .returned (.slice ao' (ps ++ [(false, [c])]).length cap') ∧ OwnP w' B ao' cap' (ps ++ [(false, [c])]) ∧ Below B w w' := by
  obtain ⟨i0, hi, hz0, hz1, hz2⟩ := info_parts Tryz.infoP
  have hcv := str_one c
  have hyc := own_le hown
  by_cases h0 : ps = []
  · have hl0 : ps.length = 0 := by rw [h0]; rfl
    have hl2 : (ps.length : Int) ≤ 0 := by omega
    clear h0 hnt hl0
    go_enter Tryz.func154, Tryz.ntmps154
    go_wp2_with (at_builtin; refine wpList_append_lies _ rfl _ _ 161 rfl B 166 i0 (.agg #[.bool false, .string ByteArray.empty]) 2 24 Tryz.underlying161 hi hz0 hz1 hz2 rfl (by decide) _ _ _ rfl ((hown.alloc _).alloc _) ⟨w.heap.size + 1, 0, none⟩ 1 1 [.bool false, .string ⟨#[c]⟩] rfl rfl (news_at (by simp) #[.bool false, .string ⟨#[c]⟩] _) (one_bs _ _) (by decide) (by unfold maxLen; omega) (by omega) (le_alloc (le_alloc hB _) _) (w.heap.size + 2) (by simp) ?_)
    intro g' cp w1 hown1 hgrow hor hglt
    have hq1 : Below B w w1 := Below.grown (((Below.refl _ _).alloc hB _).alloc (le_alloc hB _) _) hgrow (by simp; omega) (fun r hr => (hown.lt r hr).1)
    have HO := hide (OwnP.snoc (p := (false, [c])) hown1)
    clear hown1 hgrow hown hor
    go_wp2
    go_ret
    exact ⟨some ⟨g', 0, none⟩, cp, by simp, unhide HO, hq1⟩
  have hl1 : 1 ≤ ps.length := List.length_pos_iff.2 h0
  obtain ⟨g, rfl, hgB, hg, hf, hc⟩ := own_some pv_len (by decide) hl1 hown
  have hlast : ∃ l, ps[ps.length - 1]? = some (true, l) := by
    cases hp : ps.getLast? with
    | none => exact absurd (List.getLast?_eq_none_iff.1 hp) h0
    | some p =>
      obtain ⟨b, l⟩ := p
      cases b
      · exact absurd hp (hnt l)
      · exact ⟨l, last_is hp⟩
  obtain ⟨l, hla⟩ := hlast
  have hb : w.cell? ⟨g, (ps.length - 1) * 2, none⟩ = some (.bool true) := hc _ 0 _ _ hla (by decide) rfl
  clear hc hla hnt h0 hf
  go_enter Tryz.func154, Tryz.ntmps154
  go_wp2_with (at_builtin; refine wpList_append_lies _ rfl _ _ 161 rfl B 166 i0 (.agg #[.bool false, .string ByteArray.empty]) 2 24 Tryz.underlying161 hi hz0 hz1 hz2 rfl (by decide) _ _ _ rfl ((hown.alloc _).alloc _) ⟨w.heap.size + 1, 0, none⟩ 1 1 [.bool false, .string ⟨#[c]⟩] rfl rfl (news_at (by simp) #[.bool false, .string ⟨#[c]⟩] _) (one_bs _ _) (by decide) (by unfold maxLen; omega) (by omega) (le_alloc (le_alloc hB _) _) (w.heap.size + 2) (by simp) ?_)
  intro g' cp w1 hown1 hgrow hor hglt
  have hq1 : Below B w w1 := Below.grown (((Below.refl _ _).alloc hB _).alloc (le_alloc hB _) _) hgrow (by simp; omega) (fun r hr => (hown.lt r hr).1)
  have HO := hide (OwnP.snoc (p := (false, [c])) hown1)
  clear hown1 hgrow hown hor
  go_wp2
  go_ret
  exact ⟨some ⟨g', 0, none⟩, cp, by simp, unhide HO, hq1⟩

set_option maxRecDepth 20000 in
set_option maxHeartbeats 4000000 in
theorem rtext_more (ps : List Pc) (ao : Option Addr) (cap : Nat) (c : UInt8) (l : List UInt8) (B : Nat) (w : World) (hown : OwnP w B ao cap ps) (hB : B ≤ w.heap.size) (hn : ps.length ≤ 2048) (hla : ps.getLast? = some (false, l)) (hl : l.length ≤ 2048) :
    Calls Tryz.prog 154 #[.slice ao ps.length cap, .int .u8 (c.toNat : Int)] w fun e w' =>
      ∃ ao' cap', e = .returned (.slice ao' (ps.set (ps.length - 1) (false, l ++ [c])).length cap') ∧ OwnP w' B ao' cap' (ps.set (ps.length - 1) (false, l ++ [c])) ∧ Below B w w' := by
  obtain ⟨i0, hi, hz0, hz1, hz2⟩ := info_parts Tryz.infoP
  have hcv := str_one' c
  have hyc := own_le hown
  have h0 : ps ≠ [] := by intro e; subst e; simp at hla
  have hl1 : 1 ≤ ps.length := List.length_pos_iff.2 h0
  have hll := lay_length pv_len ps
  have HLA := hide (last_is hla)
  have HLL := hide hll
  obtain ⟨g, rfl, hgB, hg, hf, hc⟩ := own_some pv_len (by decide) hl1 hown
  have hb : w.cell? ⟨g, (ps.length - 1) * 2, none⟩ = some (.bool false) := hc _ 0 _ _ (unhide HLA) (by decide) rfl
  have HNW := hide ((hown.alloc (.cells #[] 166)).cells (g := g) rfl)
  clear hc hla h0 hf hll
  go_enter Tryz.func154, Tryz.ntmps154
  go_wp2_with (at_builtin; go_loud (refine wpList_append_lies _ rfl _ _ 161 rfl B 166 i0 (.agg #[.bool false, .string ByteArray.empty]) 2 24 Tryz.underlying161 hi hz0 hz1 hz2 rfl (by decide) _ _ _ rfl (World.ownsRow_made w #[] 0 hB (by unfold maxLen; omega) rfl) ⟨g, 0, none⟩ ps.length cap (lay pv ps) rfl (unhide HLL) (unhide HNW) (one_lay ps) (by omega) (by unfold maxLen; omega) (by omega) (le_alloc hB _) (w.heap.size + 1) (by simp) ?_))
  intro g' cp w1 hown1 hgrow hor hglt
  have hq1 : Below B w w1 := Below.grown ((Below.refl _ _).alloc hB _) hgrow (by simp; omega) (fun r hr => by cases hr; exact hB)
  have hown2 : OwnP w1 B (some ⟨g', 0, none⟩) cp ps := by simpa using hown1
  obtain ⟨g2, e2, hgB2, hg2, hf2, hc2⟩ := own_some pv_len (by decide) hl1 hown2
  cases e2
  have hb2 : w1.cell? ⟨g', (ps.length - 1) * 2 + 1, none⟩ = some (.string ⟨l.toArray⟩) := hc2 _ 1 _ _ (unhide HLA) (by decide) rfl
  have hfr := hf2 ((ps.length - 1) * 2 + 1)
  have HO := hide hown2
  clear hown1 hgrow hown hor hc2 hf2 hown2
  have hnn : ((0 + ps.length : Nat) : Int) = (ps.length : Int) := by simp
  go_wp2
  go_region
  go_wp2
  go_ret
  refine ⟨some ⟨g', 0, none⟩, cp, by simp, ?_, ?_⟩
  · have hx := own_set pv_len (w := w1) (unhide HO) (ps.length - 1) 1 (false, l) (false, l ++ [c]) (.string (⟨l.toArray⟩ ++ ⟨#[c]⟩)) (unhide HLA) (by decide) (by
      show [Value.bool false, .string ⟨(l ++ [c]).toArray⟩] = [Value.bool false, .string (⟨l.toArray⟩ ++ ⟨#[c]⟩)]
      rw [show (⟨l.toArray⟩ ++ ⟨#[c]⟩ : ByteArray) = ⟨(l ++ [c]).toArray⟩ from of_bl (by rw [bl_app]; rfl)])
    show World.ownsRow _ _ _ _ (.slice _ (ps.set _ _).length _) (ps.set _ _).length _
    rw [List.length_set]
    exact hx.alloc (.cells #[.int .u8 (c.toNat : Int)] 5)
  · exact ((hq1.setCell hgB2 _).alloc (by rw [World.size_setCell]; exact Nat.le_trans hB hq1.size) _).drew

theorem rtext_any (ps : List Pc) (ao : Option Addr) (cap : Nat) (c : UInt8) (B : Nat) (w : World) (hown : OwnP w B ao cap ps) (hB : B ≤ w.heap.size) (hn : ps.length ≤ 2048) (hm : most 2048 ps) :
    Calls Tryz.prog 154 #[.slice ao ps.length cap, .int .u8 (c.toNat : Int)] w fun e w' =>
      ∃ ao' cap', e = .returned (.slice ao' (add ps (.inl c)).length cap') ∧ OwnP w' B ao' cap' (add ps (.inl c)) ∧ Below B w w' := by
  by_cases h : ∃ l, ps.getLast? = some (false, l)
  · obtain ⟨l, hl⟩ := h
    rw [add_set hl]
    exact rtext_more ps ao cap c l B w hown hB hn hl (hm _ (List.mem_of_getLast? hl))
  · have hnt : noText ps := fun l hl => h ⟨l, hl⟩
    have e : add ps (.inl c) = ps ++ [(false, [c])] := by
      unfold add; simp only; split
      · rename_i l hl; exact absurd hl (hnt l)
      · rfl
    rw [e]
    exact rtext_new ps ao cap c B w hown hB hn hnt

end Go.Proofs.YtpddckgkaopnlaaGreatDoor
