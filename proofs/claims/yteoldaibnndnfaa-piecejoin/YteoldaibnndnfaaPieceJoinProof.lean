/- The statement on pieces put together holds for every row of numbers; no conditions. -/
import Derived.Test.YteoldaibnndnfaaRows
import Derived.ProofKit
import Derived.OpenShut
import Derived.ShutString
import Derived.ChangeOld
import Derived.Below
import Derived.SizedLaws
import Derived.Test.YteoldaibnndnfaaRowPlain
import Derived.Test.YteoldaibnndnfaaBitPlain
import Derived.Test.YteoldaibnndnfaaPcMore
import Derived.Test.YteoldaibnndnfaaPcAwake
import Derived.Test.YteoldaibnndnfaaPcText
namespace Go.Proofs.Yteoldaibnndnfaa
open Go.ChangeShapes Go.WideShapes Go.ChangeAt Go.RowKit

theorem app3 (t a b c : ByteArray) : t ++ a ++ b ++ c = t ++ (a ++ b ++ c) := by
  obtain ⟨l, hl⟩ : ∃ l, bl (t ++ (a ++ b ++ c)) = l := ⟨_, rfl⟩
  rw [of_bl hl]
  exact of_bl (by rw [← hl, bl_app, bl_app, bl_app, bl_app, bl_app, bl_app]; simp)

set_option maxRecDepth 20000 in
set_option maxHeartbeats 8000000 in
theorem pieceJoin_any (w : World) (a : Option Addr) (len cap : Nat) (z : List Int) (hrow : IsRow .i64 w a len cap z) :
    Calls Try.prog 5 #[.slice a len cap] w fun e w' => e = .returned (.bool true) ∧ Q w w' := by
  obtain ⟨i0, hi, hz0, hz1, hz2⟩ := info_parts Try.infoP
  obtain ⟨hlc, hcm, hzl, hcells, _⟩ := hrow
  unfold maxLen at hcm
  go_enter Try.func5, Try.ntmps5
  go_wp2_with fail
  refine (pcawake_any _).mono ?_
  rintro e w1 ⟨rfl, q1⟩
  go_wp2_with fail
  go_loopw [3, 4, 5] (fun sv v i wr => ∃ (k : Nat) (ps : List Pc) (t : ByteArray) (ao : Option Addr) (cp : Nat), k ≤ len ∧ k ≤ 20 ∧ i = .int .i64 k ∧ sv = .string t ∧ v = .slice ao ps.length cp ∧ OwnP wr w1.heap.size ao cp ps ∧ Q w1 wr ∧ ∃ ts, JS k t ps ts) (fun _ _ i _ => len - (intOf i).toNat)
  case atStart => exact ⟨0, [], ⟨#[]⟩, none, 0, by omega, by omega, rfl, rfl, rfl, World.ownsRow_nil _ _ _ _, Q.refl _, [], JS.start⟩
  case round =>
    obtain ⟨k, ps, t, ao, cp, hk, hk20, rfl, rfl, rfl, hown, hq, ts, hjs⟩ := hrel
    obtain ⟨hpl, hmo⟩ := hjs.facts
    have hts := hjs.size
    have HJ := hide hjs
    have hyc := own_le hown
    have hqs := hq.size
    clear hjs
    by_cases hlt : k < len ∧ k < 20
    · obtain ⟨hlt, hlt2⟩ := hlt
      rcases hcells with h0 | ⟨b, o, rfl, hb, hcell⟩
      · omega
      have hc : wr.cell? ⟨b, o + k, none⟩ = some (.int .i64 (z.getD k 0)) := ((q1.trans hq).cell (p := ⟨b, o + k, none⟩) hb).trans (hcell k hlt)
      generalize z.getD k 0 = n at hc
      have hc2 : ∀ ob, (wr.alloc ob).cell? ⟨b, o + k, none⟩ = some (.int .i64 n) := fun ob => by
        rw [World.cell?_alloc_old _ _ _ (Nat.ne_of_lt (World.block_lt_of_cell? _ _ hc))]; exact hc
      have hlt3 : (k : Int) < 20 := by omega
      have ha1 := and1 n
      clear hcell
      by_cases hp : n % 2 = 0
      · rw [hp] at ha1
        obtain ⟨r, hr3, hr⟩ := umodS n 3 (by decide) (by decide)
        have hr' : wrap64 ((IntKind.u64.wrap n / 2).tmod 3) = (r : Int) := hr
        clear hr hp
        rcases (by omega : r = 0 ∨ r = 1 ∨ r = 2) with rfl | rfl | rfl
        · have HS := hide (JS.step (x := .inr [97]) (u := ⟨#[36, 123]⟩ ++ ⟨#[97]⟩ ++ ⟨#[125]⟩) (unhide HJ) (by decide) (by decide) (by decide))
          rw [← app3] at HS
          clear HJ
          go_wp2_with (at_builtin; refine wpList_append_lies _ rfl _ _ 22 rfl w1.heap.size 39 i0 (.agg #[.bool false, .string ByteArray.empty]) 2 24 Try.underlying22 hi hz0 hz1 hz2 rfl (by decide) _ _ _ rfl ((hown.alloc _).alloc _) ⟨wr.heap.size + 1, 0, none⟩ 1 1 [.bool true, .string ⟨#[97]⟩] rfl rfl (news_at (by simp) #[.bool true, .string ⟨#[97]⟩] _) (one_bs _ _) (by decide) (by unfold maxLen; omega) (by omega) (le_alloc (le_alloc hqs _) _) (wr.heap.size + 2) (by simp) ?_)
          intro g' cp' w2 hown2 hgrow hor hglt
          have hq2 : Q w1 w2 := Below.grown ((hq.alloc _).alloc _) hgrow (by simp; omega) (fun r hr => (hown.lt r hr).1)
          have HO := hide (OwnP.snoc (p := (true, [97])) hown2)
          clear hown2 hgrow hown hor
          go_wp2
          go_roundw
          case rel => exact ⟨k + 1, ps ++ [(true, [97])], t ++ ⟨#[36, 123]⟩ ++ ⟨#[97]⟩ ++ ⟨#[125]⟩, some ⟨g', 0, none⟩, cp', by omega, by omega, by go_num, rfl, by simp, unhide HO, hq2, _, unhide HS⟩
          case measure => simp [intOf]; omega
        · have HS := hide (JS.step (x := .inr [105, 110]) (u := ⟨#[36, 123]⟩ ++ ⟨#[105, 110]⟩ ++ ⟨#[125]⟩) (unhide HJ) (by decide) (by decide) (by decide))
          rw [← app3] at HS
          clear HJ
          go_wp2_with (at_builtin; refine wpList_append_lies _ rfl _ _ 22 rfl w1.heap.size 39 i0 (.agg #[.bool false, .string ByteArray.empty]) 2 24 Try.underlying22 hi hz0 hz1 hz2 rfl (by decide) _ _ _ rfl ((hown.alloc _).alloc _) ⟨wr.heap.size + 1, 0, none⟩ 1 1 [.bool true, .string ⟨#[105, 110]⟩] rfl rfl (news_at (by simp) #[.bool true, .string ⟨#[105, 110]⟩] _) (one_bs _ _) (by decide) (by unfold maxLen; omega) (by omega) (le_alloc (le_alloc hqs _) _) (wr.heap.size + 2) (by simp) ?_)
          intro g' cp' w2 hown2 hgrow hor hglt
          have hq2 : Q w1 w2 := Below.grown ((hq.alloc _).alloc _) hgrow (by simp; omega) (fun r hr => (hown.lt r hr).1)
          have HO := hide (OwnP.snoc (p := (true, [105, 110])) hown2)
          clear hown2 hgrow hown hor
          go_wp2
          go_roundw
          case rel => exact ⟨k + 1, ps ++ [(true, [105, 110])], t ++ ⟨#[36, 123]⟩ ++ ⟨#[105, 110]⟩ ++ ⟨#[125]⟩, some ⟨g', 0, none⟩, cp', by omega, by omega, by go_num, rfl, by simp, unhide HO, hq2, _, unhide HS⟩
          case measure => simp [intOf]; omega
        · have HS := hide (JS.step (x := .inr [120, 95, 49]) (u := ⟨#[36, 123]⟩ ++ ⟨#[120, 95, 49]⟩ ++ ⟨#[125]⟩) (unhide HJ) (by decide) (by decide) (by decide))
          rw [← app3] at HS
          clear HJ
          go_wp2_with (at_builtin; refine wpList_append_lies _ rfl _ _ 22 rfl w1.heap.size 39 i0 (.agg #[.bool false, .string ByteArray.empty]) 2 24 Try.underlying22 hi hz0 hz1 hz2 rfl (by decide) _ _ _ rfl ((hown.alloc _).alloc _) ⟨wr.heap.size + 1, 0, none⟩ 1 1 [.bool true, .string ⟨#[120, 95, 49]⟩] rfl rfl (news_at (by simp) #[.bool true, .string ⟨#[120, 95, 49]⟩] _) (one_bs _ _) (by decide) (by unfold maxLen; omega) (by omega) (le_alloc (le_alloc hqs _) _) (wr.heap.size + 2) (by simp) ?_)
          intro g' cp' w2 hown2 hgrow hor hglt
          have hq2 : Q w1 w2 := Below.grown ((hq.alloc _).alloc _) hgrow (by simp; omega) (fun r hr => (hown.lt r hr).1)
          have HO := hide (OwnP.snoc (p := (true, [120, 95, 49])) hown2)
          clear hown2 hgrow hown hor
          go_wp2
          go_roundw
          case rel => exact ⟨k + 1, ps ++ [(true, [120, 95, 49])], t ++ ⟨#[36, 123]⟩ ++ ⟨#[120, 95, 49]⟩ ++ ⟨#[125]⟩, some ⟨g', 0, none⟩, cp', by omega, by omega, by go_num, rfl, by simp, unhide HO, hq2, _, unhide HS⟩
          case measure => simp [intOf]; omega
      · have hp1 : n % 2 = 1 := by omega
        rw [hp1] at ha1
        obtain ⟨r, hr5, hr⟩ := umodS n 5 (by decide) (by decide)
        have hr' : wrap64 ((IntKind.u64.wrap n / 2).tmod 5) = (r : Int) := hr
        clear hr hp hp1
        rcases (by omega : r = 0 ∨ r = 1 ∨ r = 2 ∨ r = 3 ∨ r = 4) with rfl | rfl | rfl | rfl | rfl
        · have HS0 := hide (JS.step (x := .inl 113) (u := ⟨#[113]⟩) (unhide HJ) (by decide) (by decide) (by decide))
          clear HJ
          by_cases hlast : ∃ l, ps.getLast? = some (false, l)
          · obtain ⟨l, hla⟩ := hlast
            have HS := hide (add_set (c := 113) hla)
            have HLA := hide (last_is hla)
            have h0 : ps ≠ [] := by intro e; subst e; simp at hla
            have hl1 : 1 ≤ ps.length := List.length_pos_iff.2 h0
            have hll : l.length ≤ 16 + k := hmo _ (List.mem_of_getLast? hla)
            obtain ⟨g, rfl, hgB, hg, hf, hcc⟩ := own_some pv_len (by decide) hl1 hown
            have c0 : ∀ ob, (wr.alloc ob).cell? ⟨g, (ps.length - 1) * 2, none⟩ = some (.bool false) := fun ob => by
              rw [World.cell?_alloc_old _ _ _ (Nat.ne_of_lt hg)]; exact hcc _ 0 _ _ (unhide HLA) (by decide) rfl
            have c1 : ∀ ob, (wr.alloc ob).cell? ⟨g, (ps.length - 1) * 2 + 1, none⟩ = some (.string ⟨l.toArray⟩) := fun ob => by
              rw [World.cell?_alloc_old _ _ _ (Nat.ne_of_lt hg)]; exact hcc _ 1 _ _ (unhide HLA) (by decide) rfl
            have hfr : ∀ ob, (wr.alloc ob).frozen? ⟨g, (ps.length - 1) * 2 + 1, none⟩ = false := fun ob => by
              rw [World.frozen?_alloc_old _ _ _ (Nat.ne_of_lt hg)]; exact hf _
            have hps : (⟨l.toArray⟩ : ByteArray).size = l.length := by rw [← bl_size]; rfl
            have HX := hide (own_set pv_len hown (ps.length - 1) 1 (false, l) (false, l ++ [113]) (.string (⟨l.toArray⟩ ++ ⟨#[113]⟩)) (unhide HLA) (by decide) (by
              show [Value.bool false, .string ⟨(l ++ [113]).toArray⟩] = [Value.bool false, .string (⟨l.toArray⟩ ++ ⟨#[113]⟩)]
              rw [show (⟨l.toArray⟩ ++ ⟨#[113]⟩ : ByteArray) = ⟨(l ++ [113]).toArray⟩ from of_bl (by rw [bl_app]; rfl)]))
            have HO2 : Hid (OwnP (wr.setCell ⟨g, (ps.length - 1) * 2 + 1, none⟩ (.string (⟨l.toArray⟩ ++ ⟨#[113]⟩))) w1.heap.size (some ⟨g, 0, none⟩) cp (add ps (.inl 113))) := by
              rw [unhide HS]
              show World.ownsRow _ _ _ _ (.slice _ (ps.set _ _).length _) (ps.set _ _).length _
              rw [List.length_set]; exact unhide HX
            have HLE : Hid ((add ps (.inl 113)).length = ps.length) := by show _ = _; rw [unhide HS, List.length_set]
            have hq2 : Q w1 (wr.setCell ⟨g, (ps.length - 1) * 2 + 1, none⟩ (.string (⟨l.toArray⟩ ++ ⟨#[113]⟩))) := Below.setCell hq hgB _
            clear hf hcc HX hown hla h0 hmo HS hq
            go_wp2_with fail
            go_roundw
            case rel => exact ⟨k + 1, add ps (.inl 113), t ++ ⟨#[113]⟩, some ⟨g, 0, none⟩, cp, by omega, by omega, by go_num, rfl, by rw [unhide HLE], World.ownsRow.alloc (unhide HO2) _, hq2.alloc _, _, unhide HS0⟩
            case measure => simp [intOf]; omega
          have hadd : add ps (.inl 113) = ps ++ [(false, [113])] := by
            unfold add; simp only; split
            · rename_i l hl; exact absurd ⟨l, hl⟩ hlast
            · rfl
          rw [hadd] at HS0
          have HS := HS0
          clear HS0 hadd
          by_cases h0 : ps = []
          · have hl2 : (ps.length : Int) ≤ 0 := by rw [h0]; simp
            clear h0 hlast
            go_wp2_with (at_builtin; refine wpList_append_lies _ rfl _ _ 22 rfl w1.heap.size 39 i0 (.agg #[.bool false, .string ByteArray.empty]) 2 24 Try.underlying22 hi hz0 hz1 hz2 rfl (by decide) _ _ _ rfl ((hown.alloc _).alloc _) ⟨wr.heap.size + 1, 0, none⟩ 1 1 [.bool false, .string ⟨#[113]⟩] rfl rfl (news_at (by simp) #[.bool false, .string ⟨#[113]⟩] _) (one_bs _ _) (by decide) (by unfold maxLen; omega) (by omega) (le_alloc (le_alloc hqs _) _) (wr.heap.size + 2) (by simp) ?_)
            intro g' cp' w2 hown2 hgrow hor hglt
            have hq2 : Q w1 w2 := Below.grown ((hq.alloc _).alloc _) hgrow (by simp; omega) (fun r hr => (hown.lt r hr).1)
            have HO := hide (OwnP.snoc (p := (false, [113])) hown2)
            clear hown2 hgrow hown hor
            go_wp2
            go_roundw
            case rel => exact ⟨k + 1, ps ++ [(false, [113])], t ++ ⟨#[113]⟩, some ⟨g', 0, none⟩, cp', by omega, by omega, by go_num, rfl, by simp, unhide HO, hq2, _, unhide HS⟩
            case measure => simp [intOf]; omega
          have hl1 : 1 ≤ ps.length := List.length_pos_iff.2 h0
          obtain ⟨g, rfl, hgB, hg, hf, hcc⟩ := own_some pv_len (by decide) hl1 hown
          have hlv : ∃ l, ps[ps.length - 1]? = some (true, l) := by
            cases hp : ps.getLast? with
            | none => exact absurd (List.getLast?_eq_none_iff.1 hp) h0
            | some p =>
              obtain ⟨b, l⟩ := p
              cases b
              · exact absurd ⟨l, hp⟩ hlast
              · exact ⟨l, last_is hp⟩
          obtain ⟨l, hla⟩ := hlv
          have c0 : ∀ ob, (wr.alloc ob).cell? ⟨g, (ps.length - 1) * 2, none⟩ = some (.bool true) := fun ob => by
            rw [World.cell?_alloc_old _ _ _ (Nat.ne_of_lt hg)]; exact hcc _ 0 _ _ hla (by decide) rfl
          clear hcc hla h0 hf hlast
          go_wp2_with (at_builtin; refine wpList_append_lies _ rfl _ _ 22 rfl w1.heap.size 39 i0 (.agg #[.bool false, .string ByteArray.empty]) 2 24 Try.underlying22 hi hz0 hz1 hz2 rfl (by decide) _ _ _ rfl ((hown.alloc _).alloc _) ⟨wr.heap.size + 1, 0, none⟩ 1 1 [.bool false, .string ⟨#[113]⟩] rfl rfl (news_at (by simp) #[.bool false, .string ⟨#[113]⟩] _) (one_bs _ _) (by decide) (by unfold maxLen; omega) (by omega) (le_alloc (le_alloc hqs _) _) (wr.heap.size + 2) (by simp) ?_)
          intro g' cp' w2 hown2 hgrow hor hglt
          have hq2 : Q w1 w2 := Below.grown ((hq.alloc _).alloc _) hgrow (by simp; omega) (fun r hr => (hown.lt r hr).1)
          have HO := hide (OwnP.snoc (p := (false, [113])) hown2)
          clear hown2 hgrow hown hor
          go_wp2
          go_roundw
          case rel => exact ⟨k + 1, ps ++ [(false, [113])], t ++ ⟨#[113]⟩, some ⟨g', 0, none⟩, cp', by omega, by omega, by go_num, rfl, by simp, unhide HO, hq2, _, unhide HS⟩
          case measure => simp [intOf]; omega
        · have HS0 := hide (JS.step (x := .inl 36) (u := ⟨#[36, 36]⟩) (unhide HJ) (by decide) (by decide) (by decide))
          clear HJ
          by_cases hlast : ∃ l, ps.getLast? = some (false, l)
          · obtain ⟨l, hla⟩ := hlast
            have HS := hide (add_set (c := 36) hla)
            have HLA := hide (last_is hla)
            have h0 : ps ≠ [] := by intro e; subst e; simp at hla
            have hl1 : 1 ≤ ps.length := List.length_pos_iff.2 h0
            have hll : l.length ≤ 16 + k := hmo _ (List.mem_of_getLast? hla)
            obtain ⟨g, rfl, hgB, hg, hf, hcc⟩ := own_some pv_len (by decide) hl1 hown
            have c0 : ∀ ob, (wr.alloc ob).cell? ⟨g, (ps.length - 1) * 2, none⟩ = some (.bool false) := fun ob => by
              rw [World.cell?_alloc_old _ _ _ (Nat.ne_of_lt hg)]; exact hcc _ 0 _ _ (unhide HLA) (by decide) rfl
            have c1 : ∀ ob, (wr.alloc ob).cell? ⟨g, (ps.length - 1) * 2 + 1, none⟩ = some (.string ⟨l.toArray⟩) := fun ob => by
              rw [World.cell?_alloc_old _ _ _ (Nat.ne_of_lt hg)]; exact hcc _ 1 _ _ (unhide HLA) (by decide) rfl
            have hfr : ∀ ob, (wr.alloc ob).frozen? ⟨g, (ps.length - 1) * 2 + 1, none⟩ = false := fun ob => by
              rw [World.frozen?_alloc_old _ _ _ (Nat.ne_of_lt hg)]; exact hf _
            have hps : (⟨l.toArray⟩ : ByteArray).size = l.length := by rw [← bl_size]; rfl
            have HX := hide (own_set pv_len hown (ps.length - 1) 1 (false, l) (false, l ++ [36]) (.string (⟨l.toArray⟩ ++ ⟨#[36]⟩)) (unhide HLA) (by decide) (by
              show [Value.bool false, .string ⟨(l ++ [36]).toArray⟩] = [Value.bool false, .string (⟨l.toArray⟩ ++ ⟨#[36]⟩)]
              rw [show (⟨l.toArray⟩ ++ ⟨#[36]⟩ : ByteArray) = ⟨(l ++ [36]).toArray⟩ from of_bl (by rw [bl_app]; rfl)]))
            have HO2 : Hid (OwnP (wr.setCell ⟨g, (ps.length - 1) * 2 + 1, none⟩ (.string (⟨l.toArray⟩ ++ ⟨#[36]⟩))) w1.heap.size (some ⟨g, 0, none⟩) cp (add ps (.inl 36))) := by
              rw [unhide HS]
              show World.ownsRow _ _ _ _ (.slice _ (ps.set _ _).length _) (ps.set _ _).length _
              rw [List.length_set]; exact unhide HX
            have HLE : Hid ((add ps (.inl 36)).length = ps.length) := by show _ = _; rw [unhide HS, List.length_set]
            have hq2 : Q w1 (wr.setCell ⟨g, (ps.length - 1) * 2 + 1, none⟩ (.string (⟨l.toArray⟩ ++ ⟨#[36]⟩))) := Below.setCell hq hgB _
            clear hf hcc HX hown hla h0 hmo HS hq
            go_wp2_with fail
            go_roundw
            case rel => exact ⟨k + 1, add ps (.inl 36), t ++ ⟨#[36, 36]⟩, some ⟨g, 0, none⟩, cp, by omega, by omega, by go_num, rfl, by rw [unhide HLE], World.ownsRow.alloc (unhide HO2) _, hq2.alloc _, _, unhide HS0⟩
            case measure => simp [intOf]; omega
          have hadd : add ps (.inl 36) = ps ++ [(false, [36])] := by
            unfold add; simp only; split
            · rename_i l hl; exact absurd ⟨l, hl⟩ hlast
            · rfl
          rw [hadd] at HS0
          have HS := HS0
          clear HS0 hadd
          by_cases h0 : ps = []
          · have hl2 : (ps.length : Int) ≤ 0 := by rw [h0]; simp
            clear h0 hlast
            go_wp2_with (at_builtin; refine wpList_append_lies _ rfl _ _ 22 rfl w1.heap.size 39 i0 (.agg #[.bool false, .string ByteArray.empty]) 2 24 Try.underlying22 hi hz0 hz1 hz2 rfl (by decide) _ _ _ rfl ((hown.alloc _).alloc _) ⟨wr.heap.size + 1, 0, none⟩ 1 1 [.bool false, .string ⟨#[36]⟩] rfl rfl (news_at (by simp) #[.bool false, .string ⟨#[36]⟩] _) (one_bs _ _) (by decide) (by unfold maxLen; omega) (by omega) (le_alloc (le_alloc hqs _) _) (wr.heap.size + 2) (by simp) ?_)
            intro g' cp' w2 hown2 hgrow hor hglt
            have hq2 : Q w1 w2 := Below.grown ((hq.alloc _).alloc _) hgrow (by simp; omega) (fun r hr => (hown.lt r hr).1)
            have HO := hide (OwnP.snoc (p := (false, [36])) hown2)
            clear hown2 hgrow hown hor
            go_wp2
            go_roundw
            case rel => exact ⟨k + 1, ps ++ [(false, [36])], t ++ ⟨#[36, 36]⟩, some ⟨g', 0, none⟩, cp', by omega, by omega, by go_num, rfl, by simp, unhide HO, hq2, _, unhide HS⟩
            case measure => simp [intOf]; omega
          have hl1 : 1 ≤ ps.length := List.length_pos_iff.2 h0
          obtain ⟨g, rfl, hgB, hg, hf, hcc⟩ := own_some pv_len (by decide) hl1 hown
          have hlv : ∃ l, ps[ps.length - 1]? = some (true, l) := by
            cases hp : ps.getLast? with
            | none => exact absurd (List.getLast?_eq_none_iff.1 hp) h0
            | some p =>
              obtain ⟨b, l⟩ := p
              cases b
              · exact absurd ⟨l, hp⟩ hlast
              · exact ⟨l, last_is hp⟩
          obtain ⟨l, hla⟩ := hlv
          have c0 : ∀ ob, (wr.alloc ob).cell? ⟨g, (ps.length - 1) * 2, none⟩ = some (.bool true) := fun ob => by
            rw [World.cell?_alloc_old _ _ _ (Nat.ne_of_lt hg)]; exact hcc _ 0 _ _ hla (by decide) rfl
          clear hcc hla h0 hf hlast
          go_wp2_with (at_builtin; refine wpList_append_lies _ rfl _ _ 22 rfl w1.heap.size 39 i0 (.agg #[.bool false, .string ByteArray.empty]) 2 24 Try.underlying22 hi hz0 hz1 hz2 rfl (by decide) _ _ _ rfl ((hown.alloc _).alloc _) ⟨wr.heap.size + 1, 0, none⟩ 1 1 [.bool false, .string ⟨#[36]⟩] rfl rfl (news_at (by simp) #[.bool false, .string ⟨#[36]⟩] _) (one_bs _ _) (by decide) (by unfold maxLen; omega) (by omega) (le_alloc (le_alloc hqs _) _) (wr.heap.size + 2) (by simp) ?_)
          intro g' cp' w2 hown2 hgrow hor hglt
          have hq2 : Q w1 w2 := Below.grown ((hq.alloc _).alloc _) hgrow (by simp; omega) (fun r hr => (hown.lt r hr).1)
          have HO := hide (OwnP.snoc (p := (false, [36])) hown2)
          clear hown2 hgrow hown hor
          go_wp2
          go_roundw
          case rel => exact ⟨k + 1, ps ++ [(false, [36])], t ++ ⟨#[36, 36]⟩, some ⟨g', 0, none⟩, cp', by omega, by omega, by go_num, rfl, by simp, unhide HO, hq2, _, unhide HS⟩
          case measure => simp [intOf]; omega
        · have HS0 := hide (JS.step (x := .inl 32) (u := ⟨#[32]⟩) (unhide HJ) (by decide) (by decide) (by decide))
          clear HJ
          by_cases hlast : ∃ l, ps.getLast? = some (false, l)
          · obtain ⟨l, hla⟩ := hlast
            have HS := hide (add_set (c := 32) hla)
            have HLA := hide (last_is hla)
            have h0 : ps ≠ [] := by intro e; subst e; simp at hla
            have hl1 : 1 ≤ ps.length := List.length_pos_iff.2 h0
            have hll : l.length ≤ 16 + k := hmo _ (List.mem_of_getLast? hla)
            obtain ⟨g, rfl, hgB, hg, hf, hcc⟩ := own_some pv_len (by decide) hl1 hown
            have c0 : ∀ ob, (wr.alloc ob).cell? ⟨g, (ps.length - 1) * 2, none⟩ = some (.bool false) := fun ob => by
              rw [World.cell?_alloc_old _ _ _ (Nat.ne_of_lt hg)]; exact hcc _ 0 _ _ (unhide HLA) (by decide) rfl
            have c1 : ∀ ob, (wr.alloc ob).cell? ⟨g, (ps.length - 1) * 2 + 1, none⟩ = some (.string ⟨l.toArray⟩) := fun ob => by
              rw [World.cell?_alloc_old _ _ _ (Nat.ne_of_lt hg)]; exact hcc _ 1 _ _ (unhide HLA) (by decide) rfl
            have hfr : ∀ ob, (wr.alloc ob).frozen? ⟨g, (ps.length - 1) * 2 + 1, none⟩ = false := fun ob => by
              rw [World.frozen?_alloc_old _ _ _ (Nat.ne_of_lt hg)]; exact hf _
            have hps : (⟨l.toArray⟩ : ByteArray).size = l.length := by rw [← bl_size]; rfl
            have HX := hide (own_set pv_len hown (ps.length - 1) 1 (false, l) (false, l ++ [32]) (.string (⟨l.toArray⟩ ++ ⟨#[32]⟩)) (unhide HLA) (by decide) (by
              show [Value.bool false, .string ⟨(l ++ [32]).toArray⟩] = [Value.bool false, .string (⟨l.toArray⟩ ++ ⟨#[32]⟩)]
              rw [show (⟨l.toArray⟩ ++ ⟨#[32]⟩ : ByteArray) = ⟨(l ++ [32]).toArray⟩ from of_bl (by rw [bl_app]; rfl)]))
            have HO2 : Hid (OwnP (wr.setCell ⟨g, (ps.length - 1) * 2 + 1, none⟩ (.string (⟨l.toArray⟩ ++ ⟨#[32]⟩))) w1.heap.size (some ⟨g, 0, none⟩) cp (add ps (.inl 32))) := by
              rw [unhide HS]
              show World.ownsRow _ _ _ _ (.slice _ (ps.set _ _).length _) (ps.set _ _).length _
              rw [List.length_set]; exact unhide HX
            have HLE : Hid ((add ps (.inl 32)).length = ps.length) := by show _ = _; rw [unhide HS, List.length_set]
            have hq2 : Q w1 (wr.setCell ⟨g, (ps.length - 1) * 2 + 1, none⟩ (.string (⟨l.toArray⟩ ++ ⟨#[32]⟩))) := Below.setCell hq hgB _
            clear hf hcc HX hown hla h0 hmo HS hq
            go_wp2_with fail
            go_roundw
            case rel => exact ⟨k + 1, add ps (.inl 32), t ++ ⟨#[32]⟩, some ⟨g, 0, none⟩, cp, by omega, by omega, by go_num, rfl, by rw [unhide HLE], World.ownsRow.alloc (unhide HO2) _, hq2.alloc _, _, unhide HS0⟩
            case measure => simp [intOf]; omega
          have hadd : add ps (.inl 32) = ps ++ [(false, [32])] := by
            unfold add; simp only; split
            · rename_i l hl; exact absurd ⟨l, hl⟩ hlast
            · rfl
          rw [hadd] at HS0
          have HS := HS0
          clear HS0 hadd
          by_cases h0 : ps = []
          · have hl2 : (ps.length : Int) ≤ 0 := by rw [h0]; simp
            clear h0 hlast
            go_wp2_with (at_builtin; refine wpList_append_lies _ rfl _ _ 22 rfl w1.heap.size 39 i0 (.agg #[.bool false, .string ByteArray.empty]) 2 24 Try.underlying22 hi hz0 hz1 hz2 rfl (by decide) _ _ _ rfl ((hown.alloc _).alloc _) ⟨wr.heap.size + 1, 0, none⟩ 1 1 [.bool false, .string ⟨#[32]⟩] rfl rfl (news_at (by simp) #[.bool false, .string ⟨#[32]⟩] _) (one_bs _ _) (by decide) (by unfold maxLen; omega) (by omega) (le_alloc (le_alloc hqs _) _) (wr.heap.size + 2) (by simp) ?_)
            intro g' cp' w2 hown2 hgrow hor hglt
            have hq2 : Q w1 w2 := Below.grown ((hq.alloc _).alloc _) hgrow (by simp; omega) (fun r hr => (hown.lt r hr).1)
            have HO := hide (OwnP.snoc (p := (false, [32])) hown2)
            clear hown2 hgrow hown hor
            go_wp2
            go_roundw
            case rel => exact ⟨k + 1, ps ++ [(false, [32])], t ++ ⟨#[32]⟩, some ⟨g', 0, none⟩, cp', by omega, by omega, by go_num, rfl, by simp, unhide HO, hq2, _, unhide HS⟩
            case measure => simp [intOf]; omega
          have hl1 : 1 ≤ ps.length := List.length_pos_iff.2 h0
          obtain ⟨g, rfl, hgB, hg, hf, hcc⟩ := own_some pv_len (by decide) hl1 hown
          have hlv : ∃ l, ps[ps.length - 1]? = some (true, l) := by
            cases hp : ps.getLast? with
            | none => exact absurd (List.getLast?_eq_none_iff.1 hp) h0
            | some p =>
              obtain ⟨b, l⟩ := p
              cases b
              · exact absurd ⟨l, hp⟩ hlast
              · exact ⟨l, last_is hp⟩
          obtain ⟨l, hla⟩ := hlv
          have c0 : ∀ ob, (wr.alloc ob).cell? ⟨g, (ps.length - 1) * 2, none⟩ = some (.bool true) := fun ob => by
            rw [World.cell?_alloc_old _ _ _ (Nat.ne_of_lt hg)]; exact hcc _ 0 _ _ hla (by decide) rfl
          clear hcc hla h0 hf hlast
          go_wp2_with (at_builtin; refine wpList_append_lies _ rfl _ _ 22 rfl w1.heap.size 39 i0 (.agg #[.bool false, .string ByteArray.empty]) 2 24 Try.underlying22 hi hz0 hz1 hz2 rfl (by decide) _ _ _ rfl ((hown.alloc _).alloc _) ⟨wr.heap.size + 1, 0, none⟩ 1 1 [.bool false, .string ⟨#[32]⟩] rfl rfl (news_at (by simp) #[.bool false, .string ⟨#[32]⟩] _) (one_bs _ _) (by decide) (by unfold maxLen; omega) (by omega) (le_alloc (le_alloc hqs _) _) (wr.heap.size + 2) (by simp) ?_)
          intro g' cp' w2 hown2 hgrow hor hglt
          have hq2 : Q w1 w2 := Below.grown ((hq.alloc _).alloc _) hgrow (by simp; omega) (fun r hr => (hown.lt r hr).1)
          have HO := hide (OwnP.snoc (p := (false, [32])) hown2)
          clear hown2 hgrow hown hor
          go_wp2
          go_roundw
          case rel => exact ⟨k + 1, ps ++ [(false, [32])], t ++ ⟨#[32]⟩, some ⟨g', 0, none⟩, cp', by omega, by omega, by go_num, rfl, by simp, unhide HO, hq2, _, unhide HS⟩
          case measure => simp [intOf]; omega
        · have HS0 := hide (JS.step (x := .inl 58) (u := ⟨#[58]⟩) (unhide HJ) (by decide) (by decide) (by decide))
          clear HJ
          by_cases hlast : ∃ l, ps.getLast? = some (false, l)
          · obtain ⟨l, hla⟩ := hlast
            have HS := hide (add_set (c := 58) hla)
            have HLA := hide (last_is hla)
            have h0 : ps ≠ [] := by intro e; subst e; simp at hla
            have hl1 : 1 ≤ ps.length := List.length_pos_iff.2 h0
            have hll : l.length ≤ 16 + k := hmo _ (List.mem_of_getLast? hla)
            obtain ⟨g, rfl, hgB, hg, hf, hcc⟩ := own_some pv_len (by decide) hl1 hown
            have c0 : ∀ ob, (wr.alloc ob).cell? ⟨g, (ps.length - 1) * 2, none⟩ = some (.bool false) := fun ob => by
              rw [World.cell?_alloc_old _ _ _ (Nat.ne_of_lt hg)]; exact hcc _ 0 _ _ (unhide HLA) (by decide) rfl
            have c1 : ∀ ob, (wr.alloc ob).cell? ⟨g, (ps.length - 1) * 2 + 1, none⟩ = some (.string ⟨l.toArray⟩) := fun ob => by
              rw [World.cell?_alloc_old _ _ _ (Nat.ne_of_lt hg)]; exact hcc _ 1 _ _ (unhide HLA) (by decide) rfl
            have hfr : ∀ ob, (wr.alloc ob).frozen? ⟨g, (ps.length - 1) * 2 + 1, none⟩ = false := fun ob => by
              rw [World.frozen?_alloc_old _ _ _ (Nat.ne_of_lt hg)]; exact hf _
            have hps : (⟨l.toArray⟩ : ByteArray).size = l.length := by rw [← bl_size]; rfl
            have HX := hide (own_set pv_len hown (ps.length - 1) 1 (false, l) (false, l ++ [58]) (.string (⟨l.toArray⟩ ++ ⟨#[58]⟩)) (unhide HLA) (by decide) (by
              show [Value.bool false, .string ⟨(l ++ [58]).toArray⟩] = [Value.bool false, .string (⟨l.toArray⟩ ++ ⟨#[58]⟩)]
              rw [show (⟨l.toArray⟩ ++ ⟨#[58]⟩ : ByteArray) = ⟨(l ++ [58]).toArray⟩ from of_bl (by rw [bl_app]; rfl)]))
            have HO2 : Hid (OwnP (wr.setCell ⟨g, (ps.length - 1) * 2 + 1, none⟩ (.string (⟨l.toArray⟩ ++ ⟨#[58]⟩))) w1.heap.size (some ⟨g, 0, none⟩) cp (add ps (.inl 58))) := by
              rw [unhide HS]
              show World.ownsRow _ _ _ _ (.slice _ (ps.set _ _).length _) (ps.set _ _).length _
              rw [List.length_set]; exact unhide HX
            have HLE : Hid ((add ps (.inl 58)).length = ps.length) := by show _ = _; rw [unhide HS, List.length_set]
            have hq2 : Q w1 (wr.setCell ⟨g, (ps.length - 1) * 2 + 1, none⟩ (.string (⟨l.toArray⟩ ++ ⟨#[58]⟩))) := Below.setCell hq hgB _
            clear hf hcc HX hown hla h0 hmo HS hq
            go_wp2_with fail
            go_roundw
            case rel => exact ⟨k + 1, add ps (.inl 58), t ++ ⟨#[58]⟩, some ⟨g, 0, none⟩, cp, by omega, by omega, by go_num, rfl, by rw [unhide HLE], World.ownsRow.alloc (unhide HO2) _, hq2.alloc _, _, unhide HS0⟩
            case measure => simp [intOf]; omega
          have hadd : add ps (.inl 58) = ps ++ [(false, [58])] := by
            unfold add; simp only; split
            · rename_i l hl; exact absurd ⟨l, hl⟩ hlast
            · rfl
          rw [hadd] at HS0
          have HS := HS0
          clear HS0 hadd
          by_cases h0 : ps = []
          · have hl2 : (ps.length : Int) ≤ 0 := by rw [h0]; simp
            clear h0 hlast
            go_wp2_with (at_builtin; refine wpList_append_lies _ rfl _ _ 22 rfl w1.heap.size 39 i0 (.agg #[.bool false, .string ByteArray.empty]) 2 24 Try.underlying22 hi hz0 hz1 hz2 rfl (by decide) _ _ _ rfl ((hown.alloc _).alloc _) ⟨wr.heap.size + 1, 0, none⟩ 1 1 [.bool false, .string ⟨#[58]⟩] rfl rfl (news_at (by simp) #[.bool false, .string ⟨#[58]⟩] _) (one_bs _ _) (by decide) (by unfold maxLen; omega) (by omega) (le_alloc (le_alloc hqs _) _) (wr.heap.size + 2) (by simp) ?_)
            intro g' cp' w2 hown2 hgrow hor hglt
            have hq2 : Q w1 w2 := Below.grown ((hq.alloc _).alloc _) hgrow (by simp; omega) (fun r hr => (hown.lt r hr).1)
            have HO := hide (OwnP.snoc (p := (false, [58])) hown2)
            clear hown2 hgrow hown hor
            go_wp2
            go_roundw
            case rel => exact ⟨k + 1, ps ++ [(false, [58])], t ++ ⟨#[58]⟩, some ⟨g', 0, none⟩, cp', by omega, by omega, by go_num, rfl, by simp, unhide HO, hq2, _, unhide HS⟩
            case measure => simp [intOf]; omega
          have hl1 : 1 ≤ ps.length := List.length_pos_iff.2 h0
          obtain ⟨g, rfl, hgB, hg, hf, hcc⟩ := own_some pv_len (by decide) hl1 hown
          have hlv : ∃ l, ps[ps.length - 1]? = some (true, l) := by
            cases hp : ps.getLast? with
            | none => exact absurd (List.getLast?_eq_none_iff.1 hp) h0
            | some p =>
              obtain ⟨b, l⟩ := p
              cases b
              · exact absurd ⟨l, hp⟩ hlast
              · exact ⟨l, last_is hp⟩
          obtain ⟨l, hla⟩ := hlv
          have c0 : ∀ ob, (wr.alloc ob).cell? ⟨g, (ps.length - 1) * 2, none⟩ = some (.bool true) := fun ob => by
            rw [World.cell?_alloc_old _ _ _ (Nat.ne_of_lt hg)]; exact hcc _ 0 _ _ hla (by decide) rfl
          clear hcc hla h0 hf hlast
          go_wp2_with (at_builtin; refine wpList_append_lies _ rfl _ _ 22 rfl w1.heap.size 39 i0 (.agg #[.bool false, .string ByteArray.empty]) 2 24 Try.underlying22 hi hz0 hz1 hz2 rfl (by decide) _ _ _ rfl ((hown.alloc _).alloc _) ⟨wr.heap.size + 1, 0, none⟩ 1 1 [.bool false, .string ⟨#[58]⟩] rfl rfl (news_at (by simp) #[.bool false, .string ⟨#[58]⟩] _) (one_bs _ _) (by decide) (by unfold maxLen; omega) (by omega) (le_alloc (le_alloc hqs _) _) (wr.heap.size + 2) (by simp) ?_)
          intro g' cp' w2 hown2 hgrow hor hglt
          have hq2 : Q w1 w2 := Below.grown ((hq.alloc _).alloc _) hgrow (by simp; omega) (fun r hr => (hown.lt r hr).1)
          have HO := hide (OwnP.snoc (p := (false, [58])) hown2)
          clear hown2 hgrow hown hor
          go_wp2
          go_roundw
          case rel => exact ⟨k + 1, ps ++ [(false, [58])], t ++ ⟨#[58]⟩, some ⟨g', 0, none⟩, cp', by omega, by omega, by go_num, rfl, by simp, unhide HO, hq2, _, unhide HS⟩
          case measure => simp [intOf]; omega
        · have HS0 := hide (JS.step (x := .inl 125) (u := ⟨#[125]⟩) (unhide HJ) (by decide) (by decide) (by decide))
          clear HJ
          by_cases hlast : ∃ l, ps.getLast? = some (false, l)
          · obtain ⟨l, hla⟩ := hlast
            have HS := hide (add_set (c := 125) hla)
            have HLA := hide (last_is hla)
            have h0 : ps ≠ [] := by intro e; subst e; simp at hla
            have hl1 : 1 ≤ ps.length := List.length_pos_iff.2 h0
            have hll : l.length ≤ 16 + k := hmo _ (List.mem_of_getLast? hla)
            obtain ⟨g, rfl, hgB, hg, hf, hcc⟩ := own_some pv_len (by decide) hl1 hown
            have c0 : ∀ ob, (wr.alloc ob).cell? ⟨g, (ps.length - 1) * 2, none⟩ = some (.bool false) := fun ob => by
              rw [World.cell?_alloc_old _ _ _ (Nat.ne_of_lt hg)]; exact hcc _ 0 _ _ (unhide HLA) (by decide) rfl
            have c1 : ∀ ob, (wr.alloc ob).cell? ⟨g, (ps.length - 1) * 2 + 1, none⟩ = some (.string ⟨l.toArray⟩) := fun ob => by
              rw [World.cell?_alloc_old _ _ _ (Nat.ne_of_lt hg)]; exact hcc _ 1 _ _ (unhide HLA) (by decide) rfl
            have hfr : ∀ ob, (wr.alloc ob).frozen? ⟨g, (ps.length - 1) * 2 + 1, none⟩ = false := fun ob => by
              rw [World.frozen?_alloc_old _ _ _ (Nat.ne_of_lt hg)]; exact hf _
            have hps : (⟨l.toArray⟩ : ByteArray).size = l.length := by rw [← bl_size]; rfl
            have HX := hide (own_set pv_len hown (ps.length - 1) 1 (false, l) (false, l ++ [125]) (.string (⟨l.toArray⟩ ++ ⟨#[125]⟩)) (unhide HLA) (by decide) (by
              show [Value.bool false, .string ⟨(l ++ [125]).toArray⟩] = [Value.bool false, .string (⟨l.toArray⟩ ++ ⟨#[125]⟩)]
              rw [show (⟨l.toArray⟩ ++ ⟨#[125]⟩ : ByteArray) = ⟨(l ++ [125]).toArray⟩ from of_bl (by rw [bl_app]; rfl)]))
            have HO2 : Hid (OwnP (wr.setCell ⟨g, (ps.length - 1) * 2 + 1, none⟩ (.string (⟨l.toArray⟩ ++ ⟨#[125]⟩))) w1.heap.size (some ⟨g, 0, none⟩) cp (add ps (.inl 125))) := by
              rw [unhide HS]
              show World.ownsRow _ _ _ _ (.slice _ (ps.set _ _).length _) (ps.set _ _).length _
              rw [List.length_set]; exact unhide HX
            have HLE : Hid ((add ps (.inl 125)).length = ps.length) := by show _ = _; rw [unhide HS, List.length_set]
            have hq2 : Q w1 (wr.setCell ⟨g, (ps.length - 1) * 2 + 1, none⟩ (.string (⟨l.toArray⟩ ++ ⟨#[125]⟩))) := Below.setCell hq hgB _
            clear hf hcc HX hown hla h0 hmo HS hq
            go_wp2_with fail
            go_roundw
            case rel => exact ⟨k + 1, add ps (.inl 125), t ++ ⟨#[125]⟩, some ⟨g, 0, none⟩, cp, by omega, by omega, by go_num, rfl, by rw [unhide HLE], World.ownsRow.alloc (unhide HO2) _, hq2.alloc _, _, unhide HS0⟩
            case measure => simp [intOf]; omega
          have hadd : add ps (.inl 125) = ps ++ [(false, [125])] := by
            unfold add; simp only; split
            · rename_i l hl; exact absurd ⟨l, hl⟩ hlast
            · rfl
          rw [hadd] at HS0
          have HS := HS0
          clear HS0 hadd
          by_cases h0 : ps = []
          · have hl2 : (ps.length : Int) ≤ 0 := by rw [h0]; simp
            clear h0 hlast
            go_wp2_with (at_builtin; refine wpList_append_lies _ rfl _ _ 22 rfl w1.heap.size 39 i0 (.agg #[.bool false, .string ByteArray.empty]) 2 24 Try.underlying22 hi hz0 hz1 hz2 rfl (by decide) _ _ _ rfl ((hown.alloc _).alloc _) ⟨wr.heap.size + 1, 0, none⟩ 1 1 [.bool false, .string ⟨#[125]⟩] rfl rfl (news_at (by simp) #[.bool false, .string ⟨#[125]⟩] _) (one_bs _ _) (by decide) (by unfold maxLen; omega) (by omega) (le_alloc (le_alloc hqs _) _) (wr.heap.size + 2) (by simp) ?_)
            intro g' cp' w2 hown2 hgrow hor hglt
            have hq2 : Q w1 w2 := Below.grown ((hq.alloc _).alloc _) hgrow (by simp; omega) (fun r hr => (hown.lt r hr).1)
            have HO := hide (OwnP.snoc (p := (false, [125])) hown2)
            clear hown2 hgrow hown hor
            go_wp2
            go_roundw
            case rel => exact ⟨k + 1, ps ++ [(false, [125])], t ++ ⟨#[125]⟩, some ⟨g', 0, none⟩, cp', by omega, by omega, by go_num, rfl, by simp, unhide HO, hq2, _, unhide HS⟩
            case measure => simp [intOf]; omega
          have hl1 : 1 ≤ ps.length := List.length_pos_iff.2 h0
          obtain ⟨g, rfl, hgB, hg, hf, hcc⟩ := own_some pv_len (by decide) hl1 hown
          have hlv : ∃ l, ps[ps.length - 1]? = some (true, l) := by
            cases hp : ps.getLast? with
            | none => exact absurd (List.getLast?_eq_none_iff.1 hp) h0
            | some p =>
              obtain ⟨b, l⟩ := p
              cases b
              · exact absurd ⟨l, hp⟩ hlast
              · exact ⟨l, last_is hp⟩
          obtain ⟨l, hla⟩ := hlv
          have c0 : ∀ ob, (wr.alloc ob).cell? ⟨g, (ps.length - 1) * 2, none⟩ = some (.bool true) := fun ob => by
            rw [World.cell?_alloc_old _ _ _ (Nat.ne_of_lt hg)]; exact hcc _ 0 _ _ hla (by decide) rfl
          clear hcc hla h0 hf hlast
          go_wp2_with (at_builtin; refine wpList_append_lies _ rfl _ _ 22 rfl w1.heap.size 39 i0 (.agg #[.bool false, .string ByteArray.empty]) 2 24 Try.underlying22 hi hz0 hz1 hz2 rfl (by decide) _ _ _ rfl ((hown.alloc _).alloc _) ⟨wr.heap.size + 1, 0, none⟩ 1 1 [.bool false, .string ⟨#[125]⟩] rfl rfl (news_at (by simp) #[.bool false, .string ⟨#[125]⟩] _) (one_bs _ _) (by decide) (by unfold maxLen; omega) (by omega) (le_alloc (le_alloc hqs _) _) (wr.heap.size + 2) (by simp) ?_)
          intro g' cp' w2 hown2 hgrow hor hglt
          have hq2 : Q w1 w2 := Below.grown ((hq.alloc _).alloc _) hgrow (by simp; omega) (fun r hr => (hown.lt r hr).1)
          have HO := hide (OwnP.snoc (p := (false, [125])) hown2)
          clear hown2 hgrow hown hor
          go_wp2
          go_roundw
          case rel => exact ⟨k + 1, ps ++ [(false, [125])], t ++ ⟨#[125]⟩, some ⟨g', 0, none⟩, cp', by omega, by omega, by go_num, rfl, by simp, unhide HO, hq2, _, unhide HS⟩
          case measure => simp [intOf]; omega
    · have HD := hide ((unhide HJ).done hk20)
      have HO := hide hown
      have hkk : (k : Int) < (len : Int) → ¬ (k : Int) < 20 := by omega
      have q2 := q1.trans hq
      clear HJ hcells hown hq q1
      by_cases hkl : k < len
      all_goals
        go_wp2_with fail
        refine (cut_at t _ (by unfold maxLen; omega) (unhide HD)).mono ?_
        rintro e w3 ⟨bo, bcap, rfl, hown3, q3⟩
        have HO3 := hide hown3
        clear hown3
        go_wp2_with fail
        refine (num_any _ _).mono ?_
        rintro e w3' ⟨rfl, rfl⟩
        go_wp2_with fail
        refine (same_any bo ao bcap cp ps ps _ (OwnP.row (unhide HO3)) (OwnP.row (own_q (unhide HO) q3)) (by omega)).mono ?_
        rintro e w4 ⟨rfl, q4⟩
        rw [decide_eq_true (rfl : ps = ps)]
        go_wp2_with fail
        go_ret
        exact ⟨rfl, q2.trans (q3.trans q4)⟩

theorem Try.laidOut : laidOutB Try.prog = true := by kernel_rfl
set_option maxRecDepth 100000 in
theorem pieceJoin_lifted (os : Os) (started : os.Started) (H : Type) (enc : TypeId × Value → H) :
    ReturnsInHanded {} Try.checked os 5 .any (Rows.pieceJoinSpec.pre6 enc Try.prog Try.f5 Rows.pieceJoinRow.domain false) (Rows.pieceJoinSpec.post enc Try.prog Try.f5 false true false false) := by
  refine returnsInHanded_of_change (C := Try.checked) Try.own started (by kernel_rfl) Try.func5
    (ChangeSpec.witness6 (enc := enc) (C := Try.checked) false ⟨#[], #[.slice none 0 0], []⟩ 8 (by kernel_rfl) (by kernel_rfl) (by kernel_rfl) (by kernel_rfl)) ?_
  intro W base args ds gs before hval0 hW hcnd _
  have hval : ∀ (j : Nat) t v, Try.f5.params[j]? = some t → args[j]? = some v → Value.okWide Try.prog W .any base t v := hval0
  have hW' := hW
  obtain ⟨p, q, hA0, hV, rfl, hfz, hnd⟩ := hW
  have hA : DataW.TrodAll enc Try.prog W 0 (fun _ => true) true Try.f5.params.toList args.toList ds p := hA0
  rw [Try.params5] at hA hval
  obtain ⟨v0, vs0, d0, ds0, p0, q0, hargs, rfl, rfl, h0, r0⟩ := trodAll_cons hA
  obtain ⟨rfl, rfl, rfl⟩ := trodAll_nil r0
  obtain rfl : args = #[v0] := by cases args; simp_all
  obtain ⟨rfl, rfl⟩ := trodVars_none hV
  obtain ⟨a0, len0, cap0, rfl⟩ := okWide_slice Try.underlying36 (hval 0 36 v0 rfl rfl)
  have k0 := h0
  have lt0 : ∀ x ∈ p0, x.block < W.heap.size := by obtain ⟨m, hm⟩ := k0; exact DataW.trod_lt m _ _ _ hm
  obtain ⟨z0, w0⟩ : ∃ zs, IsRow .i64 W a0 len0 cap0 zs := is_row Try.underlying36 Try.underlying3 (by kernel_rfl) h0
  clear hA0 hval0
  refine (pieceJoin_any W a0 len0 cap0 z0 w0).mono fun e W' ⟨he, bel⟩ => ?_
  subst he
  exact ⟨_, rfl, _, _, _, [], _, [], hW', trodAll_mk1 (shut_bool Try.underlying4 _), (trodAll_cons_mk (Below.trod Try.laidOut (by kernel_rfl) (of_decide_eq_true (by kernel_rfl)) k0 bel lt0) trodAll_mk0), rfl, bel.frame _, fun h => by cases h⟩

theorem pieceJoin_holds : Rows.PieceJoinSaid :=
  OpenClaim.holds_of_wide 5 Try.f5 rfl rfl rfl rfl rfl rfl rfl ⟨rfl, rfl, rfl, rfl, rfl⟩ rfl rfl rfl rfl rfl (by kernel_rfl) Try.func5 (by kernel_rfl)
    (of_decide_eq_true (by kernel_rfl)) (by unfold Func.isWrapper; first | (rw [if_pos (by decide +kernel)]; kernel_rfl) | (rw [if_neg (by decide +kernel)]; exact ⟨rfl, rfl⟩))
    (fun os started H enc _ => pieceJoin_lifted os started H enc)
#print axioms pieceJoin_holds
end Go.Proofs.Yteoldaibnndnfaa
