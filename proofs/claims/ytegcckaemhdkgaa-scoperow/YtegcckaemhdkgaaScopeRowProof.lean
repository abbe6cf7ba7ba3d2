/- ScopeRow, whole: what was set last is told, names stand in the row in which they were set first, whatever the row of numbers; no conditions. -/
import Derived.Test.YtegcckaemhdkgaaRows
import Derived.ProofKit
import Derived.OpenShut
import Derived.ShutString
import Derived.ChangeOld
import Derived.Below
import Derived.SizedLaws
import Derived.Test.YtegcckaemhdkgaaScRowState
import Derived.Laws.StructEq
namespace Go.Proofs.Ytegcckaemhdkgaa
open Go.ChangeShapes Go.WideShapes Go.ChangeAt Go.RowKit

theorem one_ne (c : UInt8) : (⟨#[c]⟩ : ByteArray).toList.isEmpty = false := by rw [bl_toList]; rfl
theorem isEmpty_beq (x : ByteArray) : (x.toList == []) = x.toList.isEmpty := by cases x.toList <;> rfl

set_option maxRecDepth 20000 in
set_option maxHeartbeats 8000000 in
theorem scopeRow_any (w : World) (a : Option Addr) (len cap : Nat) (z : List Int) (hr : IsRow .i64 w a len cap z) :
    Calls Try.prog 5 #[.slice a len cap] w fun e w' => e = .returned (.bool true) ∧ Q w w' := by
  obtain ⟨hlc, hcm, hzl, hcells, _⟩ := hr
  unfold maxLen at hcm
  obtain ⟨i0, hi, hz0, hz1, hz2⟩ := info_parts Try.infoI
  obtain ⟨m, hm⟩ : ∃ m : Nat, m = min len 30 := ⟨_, rfl⟩
  have hm30 : m ≤ 30 := by omega
  have hml : m ≤ len := by omega
  have hmm : m = len ∨ m = 30 := by omega
  have hmx : ∀ n : Nat, n ≤ 4096 → n ≤ maxLen := fun n h => by unfold maxLen; omega
  clear hm
  go_enter Try.func5, Try.ntmps5
  go_wp2_with fail
  refine (scawake_any _).mono ?_
  rintro e w1 ⟨rfl, q1⟩
  have HST := hide (RM.start q1 43)
  go_wp2_with fail
  go_loopw [3, 4, 6] (fun v3 v4 i wr => ∃ (k : Nat) (row : List Nat) (want : Nat → ByteArray) (bs : List Bd) (bo ro : Option Addr) (bcap rcap : Nat), k ≤ m ∧ i = .int .i64 k ∧ v3 = .slice bo bs.length bcap ∧ v4 = .slice ro row.length rcap ∧
      Hid (RM w wr w1.heap.size ro rcap row want) ∧ Hid (OwnD wr (w1.heap.size + 1) bo bcap bs) ∧ Hid (RInv row want bs)) (fun _ _ i _ => m - (intOf i).toNat)
  case atStart => exact ⟨0, [], fun _ => ⟨#[]⟩, [], none, none, 0, 0, Nat.zero_le _, rfl, rfl, rfl, unhide HST, World.ownsRow_nil _ _ _ _, RInv.start⟩
  case round =>
    obtain ⟨k, row, want, bs, bo, ro, bcap, rcap, hk, rfl, rfl, rfl, HM, HO, HI⟩ := hrel
    by_cases hlt : k < m
    · obtain ⟨g, o, rfl, hg, hcell⟩ : ∃ g o, a = some ⟨g, o, none⟩ ∧ g < w.heap.size ∧ ∀ i, i < len → w.cell? ⟨g, o + i, none⟩ = some (.int .i64 (z.getD i 0)) := by
        rcases hcells with h0 | h0
        · omega
        · exact h0
      obtain ⟨zk, hzk⟩ : ∃ zk, zk = z.getD k 0 := ⟨_, rfl⟩
      have hc0 : wr.cell? ⟨g, o + k, none⟩ = some (.int .i64 zk) := by
        rw [hzk, HM.out.q.cell (p := ⟨g, o + k, none⟩) hg]; exact hcell k (by omega)
      clear hzk hcell hcells
      have h7 := and7 zk
      obtain ⟨r, hr⟩ : ∃ r : Nat, zk % 8 = (r : Int) := ⟨(zk % 8).toNat, by omega⟩
      have hr8 : r < 8 := by omega
      rw [hr] at h7
      have h15 := and15 (k : Int)
      obtain ⟨p, hp⟩ : ∃ p : Nat, (k : Int) % 16 = (p : Int) := ⟨((k : Int) % 16).toNat, by omega⟩
      have hp16 : p < 16 := by omega
      rw [hp] at h15
      clear hr hp
      obtain ⟨c, hc, hcv⟩ := str_int (97 + (p : Int)) (by omega) (by omega)
      obtain ⟨d, hd, hdv⟩ := str_int (48 + (r : Int)) (by omega) (by omega)
      have HTX := hide (one_tx hc hp16)
      have HV := hide (vd_eq hd hr8)
      have HLEN := hide HI.out.len
      have hdv2 : ∀ (W : World) (ob : Obj), (convert 40 9 (.slice (some ⟨W.heap.size + 1, 0, none⟩) 1 1)).run Try.prog ((W.alloc ob).alloc (.cells #[.int .u8 (48 + (r : Int))] 5)) = .ok (.string ⟨#[d]⟩) ((W.alloc ob).alloc (.cells #[.int .u8 (48 + (r : Int))] 5)) := fun W ob => by
        have := hdv (W.alloc ob)
        rw [size_alloc] at this
        exact this
      have hle := own_le HO.out
      have r0 : (0 : Int) ≤ (r : Int) := Int.natCast_nonneg _
      have r1 : (r : Int) < 8 := by omega
      have k1 : (k : Int) < (len : Int) := by omega
      have k2 : (k : Int) < 30 := by omega
      clear hc hd hdv
      cases hwe : (want r).toList.isEmpty
      · obtain ⟨HN, HE⟩ := HI.out.old (t := ⟨#[c]⟩) hr8 hwe (unhide HTX) (one_ne c)
        have HSL := hide (fun w' (h : RowD w' bo bs) => set_lit bs (vd r) ⟨#[c]⟩ bo bcap w' ⟨rfl, HE⟩ h HI.out.fit hle.1 hle.2.1 (hmx _ (by show 2 ≤ 4096; decide)) (hmx _ (by show 1 ≤ 4096; decide)))
        have HNH := hide HN
        clear HN HE
        revert HSL HNH
        generalize setB bs (vd r) ⟨#[c]⟩ = A
        intro HSL HNH
        have hwe2 : ((want r).toList == []) = false := by rw [isEmpty_beq]; exact hwe
        go_wp2_with fail
        rw [unhide HV]
        refine (unhide HSL _ ((HO.out.row).q (((Q.refl _).alloc _).alloc _))).mono ?_
        rintro e w2 ⟨ao, acap, rfl, own2, q2⟩
        have hq2 : Q wr w2 := (((Q.refl wr).alloc _).alloc _).trans q2
        have hM2 := HM.out.next hq2
        have own2' : OwnD w2 (w1.heap.size + 1) ao acap A := own_low own2 (le_alloc (le_alloc HM.out.hi _) _)
        have c2 := hM2.cells r hr8
        have f2 := hM2.frz r
        have HM3 := hide (hM2.put (r := r) (t := ⟨#[c]⟩))
        have HO3 : Hid (OwnD (w2.setCell ⟨w1.heap.size, r, none⟩ (.string ⟨#[c]⟩)) (w1.heap.size + 1) ao acap A) := far_set own2'
        clear own2 own2' hM2 hq2 q2 HSL HM HO HI hcv hdv2 HV HTX
        go_wp2_with (go_at_call 11; refine (num_any _ _).mono ?_; rintro e w' ⟨rfl, rfl⟩)
        go_roundw
        case rel => exact ⟨k + 1, row, upd want r ⟨#[c]⟩, A, ao, ro, acap, rcap, by omega, by go_num, rfl, rfl, unhide HM3, unhide HO3, unhide HNH⟩
        case measure => simp [intOf]; omega
      · obtain ⟨HN, HE⟩ := HI.out.new (t := ⟨#[c]⟩) hr8 hwe (unhide HTX) (one_ne c)
        have HSL := hide (fun w' (h : RowD w' bo bs) => set_lit bs (vd r) ⟨#[c]⟩ bo bcap w' ⟨rfl, HE⟩ h HI.out.fit hle.1 hle.2.1 (hmx _ (by show 2 ≤ 4096; decide)) (hmx _ (by show 1 ≤ 4096; decide)))
        have HNH := hide HN
        clear HN HE
        revert HSL HNH
        generalize setB bs (vd r) ⟨#[c]⟩ = A
        intro HSL HNH
        have hwe2 : ((want r).toList == []) = true := by rw [isEmpty_beq]; exact hwe
        have hrl : row.length ≤ 8 := (unhide HLEN).2
        go_wp2_with fail
        rw [unhide HV]
        refine (unhide HSL _ ((HO.out.row).q (((Q.refl _).alloc _).alloc _))).mono ?_
        rintro e w2 ⟨ao, acap, rfl, own2, q2⟩
        have hq2 : Q wr w2 := (((Q.refl wr).alloc _).alloc _).trans q2
        have hM2 := HM.out.next hq2
        have own2' : OwnD w2 (w1.heap.size + 1) ao acap A := own_low own2 (le_alloc (le_alloc HM.out.hi _) _)
        have c2 := hM2.cells r hr8
        have HM2 := hide hM2
        have HO2 := hide own2'
        have hrown := hM2.rown
        have hyc := own_le hrown
        have hB : w1.heap.size + 1 ≤ w2.heap.size := hM2.hi
        clear own2 own2' hM2 hq2 q2 HSL HM HO HI hcv hdv2 HV HTX HLEN
        go_wp2_with (first
          | (go_at_call 11; refine (num_any _ _).mono ?_; rintro e w' ⟨rfl, rfl⟩)
          | (at_builtin; refine wpList_append_lies _ rfl _ _ 42 rfl (w1.heap.size + 1) 3 i0 (.int .i64 0) 1 8 Try.underlying42 hi hz0 hz1 hz2 rfl (by decide) _ _ _ rfl (hrown.alloc _) ⟨_, 0, none⟩ 1 1 [.int .i64 (r : Int)] rfl rfl (news_new _ #[.int .i64 (r : Int)] _) (one_int _ _) (by decide) (by unfold maxLen; omega) (by omega) (le_alloc hB _) _ (size_alloc _ _) ?_))
        intro g3 cp3 w3 hown3 hgrow hor hglt
        have hMa := (unhide HM2).next ((Q.refl _).alloc (.cells #[.int .i64 (r : Int)] 3))
        have hMg := hMa.grow hgrow (OwnI.snoc hown3)
        have own3 : OwnD w3 (w1.heap.size + 1) ao acap A := ((unhide HO2).alloc _).kept hgrow (own_apart (unhide HO2) hrown (by decide))
        have c3 := hMg.cells r hr8
        have f3 := hMg.frz r
        have HM3 := hide (hMg.put (r := r) (t := ⟨#[c]⟩))
        have HO3 : Hid (OwnD (w3.setCell ⟨w1.heap.size, r, none⟩ (.string ⟨#[c]⟩)) (w1.heap.size + 1) ao acap A) := far_set own3
        clear hMa hMg own3 hown3 hgrow hor hglt HM2 HO2 hrown c2
        go_wp2_with fail
        go_roundw
        case rel => exact ⟨k + 1, row ++ [r], upd want r ⟨#[c]⟩, A, ao, some ⟨g3, 0, none⟩, acap, cp3, by omega, by go_num, rfl, by simp, unhide HM3, unhide HO3, unhide HNH⟩
        case measure => simp [intOf]; omega
    · have hbl := HI.out.len.1
      have hrl := HI.out.len.2
      have hle := own_le HO.out
      have RA := hide HO.out.row
      obtain ⟨wA, hwA⟩ : ∃ wA, wA = wr := ⟨_, rfl⟩
      subst hwA
      have HG := hide (fun i r (h : row[i]? = some r) w' (hq : Q wA w') => get_lit bs (vd r) bo bcap w' (HI.out.told h) ((unhide RA).q hq) HI.out.fit hle.1 hle.2.1)
      rw [hbl] at HG
      have HBL := hide hbl
      rw [hbl]
      clear hbl
      have heq := eqD
      have hgd := Try.guardD
      have hll : ((row.length : Int) != (row.length : Int)) = false := by simp
      have hqA := HM.out.q
      have hfin : (len : Int) ≤ (k : Int) ∨ ((k : Int) < (len : Int) ∧ (30 : Int) ≤ (k : Int)) := by omega
      rcases hfin with hk1 | ⟨hk1, hk2⟩
      all_goals
        go_wp2_with fail
        go_loopw [11] (fun v wr => ∃ i : Nat, i ≤ row.length ∧ v = .int .i64 i ∧ Q wA wr) (fun v _ => row.length - (intOf v).toNat)
        case atStart => exact ⟨0, Nat.zero_le _, rfl, Q.refl _⟩
        case round =>
          obtain ⟨i, hi2, rfl, hq⟩ := hrel
          by_cases hil : i < row.length
          · obtain ⟨r, hri⟩ : ∃ r, row[i]? = some r := ⟨row[i], List.getElem?_eq_getElem hil⟩
            have hr8 : r < 8 := HI.out.lt r (List.mem_of_getElem? hri)
            have hMw := HM.out.next hq
            have hOw : OwnD wr (w1.heap.size + 1) bo bcap bs := own_q HO.out hq
            have hbi := HI.out.at hri
            obtain ⟨gb, rfl, _, hgb, _, hbc⟩ := own_some dv_len (by decide) (by have := unhide HBL; omega) hOw
            obtain ⟨gr, rfl, _, hgr, _, hrc⟩ := own_some iv_len (by decide) (by omega) hMw.rown
            have c1 : wr.cell? ⟨gb, i * 2, none⟩ = some (.string (vd r)) := hbc i 0 _ _ hbi (by decide) rfl
            have c2 : wr.cell? ⟨gb, i * 2 + 1, none⟩ = some (.string (want r)) := hbc i 1 _ _ hbi (by decide) rfl
            have c3 : wr.cell? ⟨gr, i, none⟩ = some (.int .i64 (r : Int)) := by have := hrc i 0 r _ hri (by decide) rfl; rwa [Nat.mul_one, Nat.add_zero] at this
            have c4 := hMw.cells r hr8
            have hwb := hMw.hi
            obtain ⟨d, hd, hdv⟩ := str_int (48 + (r : Int)) (by omega) (by omega)
            have HV := hide (vd_eq hd hr8)
            have HGr := hide (unhide HG i r hri)
            have r0 : (0 : Int) ≤ (r : Int) := Int.natCast_nonneg _
            have r1 : (r : Int) < 8 := by omega
            have i0' : (0 : Int) ≤ (i : Int) := Int.natCast_nonneg _
            have i1 : (i : Int) < (row.length : Int) := by omega
            have a1 : ∀ u : Aft (wr.alloc (.cells #[.int .u8 (48 + (r : Int))] 5)), u.to.cell? ⟨gb, i * 2, none⟩ = some (.string (vd r)) := fun u => (u.q.cell (p := ⟨gb, i * 2, none⟩) (by simp; omega)).trans ((World.cell?_alloc_lt wr _ ⟨gb, i * 2, none⟩ hgb).trans c1)
            have a2 : ∀ u : Aft (wr.alloc (.cells #[.int .u8 (48 + (r : Int))] 5)), u.to.cell? ⟨gb, i * 2 + 1, none⟩ = some (.string (want r)) := fun u => (u.q.cell (p := ⟨gb, i * 2 + 1, none⟩) (by simp; omega)).trans ((World.cell?_alloc_lt wr _ ⟨gb, i * 2 + 1, none⟩ hgb).trans c2)
            have a3 : ∀ u : Aft (wr.alloc (.cells #[.int .u8 (48 + (r : Int))] 5)), u.to.cell? ⟨gr, i, none⟩ = some (.int .i64 (r : Int)) := fun u => (u.q.cell (p := ⟨gr, i, none⟩) (by simp; omega)).trans ((World.cell?_alloc_lt wr _ ⟨gr, i, none⟩ hgr).trans c3)
            have a4 : ∀ u : Aft (wr.alloc (.cells #[.int .u8 (48 + (r : Int))] 5)), u.to.cell? ⟨w1.heap.size, r, none⟩ = some (.string (want r)) := fun u => (u.q.cell (p := ⟨w1.heap.size, r, none⟩) (by simp; omega)).trans ((World.cell?_alloc_lt wr _ ⟨w1.heap.size, r, none⟩ hwb).trans c4)
            have hne := Aft.ne (wr.alloc (.cells #[.int .u8 (48 + (r : Int))] 5))
            have e1 : ((vd r).toList == (vd r).toList) = true := by simp
            have e2 : ((want r).toList == (want r).toList) = true := by simp
            have e3 : ((want r).toList != (want r).toList) = false := by simp
            have hqw := hide (hq.alloc (.cells #[.int .u8 (48 + (r : Int))] 5))
            clear hMw hOw hbi hbc hrc c1 c2 c4 hd hri
            go_wp2_with fail
            rw [unhide HV]
            refine wp_region_aft (by kernel_rfl) (by kernel_rfl) ?_
            repeat (go_big_quiet_step ((go_at_call 12; exact Calls.aft (unhide HGr _ ((unhide hqw).trans (Aft.q _))))))
            refine wpQuiet_nil ?_
            intro _ hw'
            obtain ⟨u, hw''⟩ := hw'
            subst hw''
            have qu := u.q
            generalize u.to = w5 at qu ⊢
            clear a1 a2 a3 a4 hne hdv
            go_wp2_with fail
            go_roundw
            case rel => exact ⟨i + 1, by omega, by go_num, (unhide hqw).trans qu⟩
            case measure => simp [intOf]; omega
          · go_wp2_with fail
            go_ret
            exact ⟨rfl, hqA.trans hq⟩

theorem Try.laidOut : laidOutB Try.prog = true := by kernel_rfl
set_option maxRecDepth 100000 in
theorem scopeRow_lifted (os : Os) (started : os.Started) (H : Type) (enc : TypeId × Value → H) :
    ReturnsInHanded {} Try.checked os 5 .any (Rows.scopeRowSpec.pre6 enc Try.prog Try.f5 Rows.scopeRowRow.domain false) (Rows.scopeRowSpec.post enc Try.prog Try.f5 false true false false) := by
  refine returnsInHanded_of_change (C := Try.checked) Try.own started (by kernel_rfl) Try.func5
    (ChangeSpec.witness6 (enc := enc) (C := Try.checked) false ⟨#[], #[.slice none 0 0], []⟩ 8 (by kernel_rfl) (by kernel_rfl) (by kernel_rfl) (by kernel_rfl)) ?_
  intro W base args ds gs before hval0 hW hcnd _
  have hval : ∀ (j : Nat) t v, Try.f5.params[j]? = some t → args[j]? = some v → Value.okWide Try.prog W .any base t v := hval0
  have hW' := hW
  obtain ⟨p, q, hA0, hV, rfl, hfz, hnd⟩ := hW
  have hA : DataW.TrodAll enc Try.prog W 0 (fun _ => true) true Try.f5.params.toList args.toList ds p := hA0
  rw [Try.params5] at hA hval
  obtain ⟨v0, vs0, d0, ds0, p0, q0, hargs, rfl, rfl, h0, r0⟩ := trodAll_cons hA
  obtain ⟨rfl, rfl, rfl⟩ := trodAll_nil r0
  obtain rfl : args = #[v0] := by cases args; simp_all
  obtain ⟨rfl, rfl⟩ := trodVars_none hV
  obtain ⟨a0, len0, cap0, rfl⟩ := okWide_slice Try.underlying42 (hval 0 42 v0 rfl rfl)
  have k0 := h0
  have lt0 : ∀ x ∈ p0, x.block < W.heap.size := by obtain ⟨m, hm⟩ := k0; exact DataW.trod_lt m _ _ _ hm
  obtain ⟨z0, w0⟩ : ∃ zs, IsRow .i64 W a0 len0 cap0 zs := is_row Try.underlying42 Try.underlying3 (by kernel_rfl) h0
  clear hA0 hval0
  refine (scopeRow_any W a0 len0 cap0 z0 w0).mono fun e W' ⟨he, bel⟩ => ?_
  subst he
  exact ⟨_, rfl, _, _, _, [], _, [], hW', trodAll_mk1 (shut_bool Try.underlying4 _), (trodAll_cons_mk (Below.trod Try.laidOut (by kernel_rfl) (of_decide_eq_true (by kernel_rfl)) k0 bel lt0) trodAll_mk0), rfl, bel.frame _, fun h => by cases h⟩

theorem scopeRow_holds : Rows.ScopeRowSaid :=
  OpenClaim.holds_of_wide 5 Try.f5 rfl rfl rfl rfl rfl rfl rfl ⟨rfl, rfl, rfl, rfl, rfl⟩ rfl rfl rfl rfl rfl (by kernel_rfl) Try.func5 (by kernel_rfl)
    (of_decide_eq_true (by kernel_rfl)) (by unfold Func.isWrapper; first | (rw [if_pos (by decide +kernel)]; kernel_rfl) | (rw [if_neg (by decide +kernel)]; exact ⟨rfl, rfl⟩))
    (fun os started H enc _ => scopeRow_lifted os started H enc)
#print axioms scopeRow_holds
end Go.Proofs.Ytegcckaemhdkgaa
