/- What the document's own Lines answers, for every text: its lines in a row of its own, or the number of an error; no conditions but that the text is no longer than a string can be. -/
import Derived.Test.YtpddckgkaopnlaaGreatDoorBnEvRef
namespace Go.Proofs.YtpddckgkaopnlaaGreatDoor
open Go.RowKit

/-- The state inside a line: a is joined so far, b: something is; the row at place k is next. -/
def InW (R : List (List UInt8)) (ls : List Ln) (k : Nat) (b : Bool) (a : List UInt8) : Prop := (cutR b a (R.drop k)).map (ls ++ ·) = cutR false [] R
theorem InW.on {R : List (List UInt8)} {ls : List Ln} {k : Nat} {b : Bool} {a r : List UInt8} (h : InW R ls k b a) (hr : R[k]? = some r) (hg : goL (rowL b r) = true) : InW R ls (k + 1) true (a ++ (rowL b r).dropLast) := by
  have h' : _ = cutR false [] R := h
  obtain ⟨hi, e⟩ := List.getElem?_eq_some_iff.1 hr
  rw [List.drop_eq_getElem_cons hi, e, cutR, if_pos hg] at h'
  exact h'
theorem InW.bad {R : List (List UInt8)} {ls : List Ln} {k : Nat} {b : Bool} {a r : List UInt8} (h : InW R ls k b a) (hr : R[k]? = some r) (hg : goL (rowL b r) = true) (hk : k + 1 = R.length) : cutR false [] R = none := by
  have h' : _ = cutR false [] R := h.on hr hg
  rw [List.drop_eq_nil_of_le (by omega)] at h'
  rw [← h']; rfl
theorem InW.stop {R : List (List UInt8)} {ls : List Ln} {k : Nat} {b : Bool} {a r : List UInt8} (h : InW R ls k b a) (hr : R[k]? = some r) (hg : goL (rowL b r) = false) : LnW R (k + 1) (ls ++ (lnOf (a ++ rowL b r)).toList) := by
  have h' : _ = cutR false [] R := h
  obtain ⟨hi, e⟩ := List.getElem?_eq_some_iff.1 hr
  rw [List.drop_eq_getElem_cons hi, e, cutR, if_neg (by rw [hg]; simp), Option.map_map] at h'
  show _ = cutR false [] R
  rw [← h']
  congr 1
  funext x
  simp

theorem last_eq (s : ByteArray) (h : 0 < s.size) : (bl s).getLast? = some s[s.size - 1] := by
  rw [List.getLast?_eq_getElem?, bl_size]; exact bl_getElem s _ (by omega)

set_option maxRecDepth 20000 in
set_option maxHeartbeats 8000000 in
theorem rlines_any (s : ByteArray) (w : World) (hs : s.size ≤ maxLen) :
    Calls Tryz.prog 13 #[.string s] w fun e w' => CutSays (bl s) w e w' := by
  obtain ⟨i0, hi, hz0, hz1, hz2⟩ := info_parts Tryz.infoL
  unfold maxLen at hs
  by_cases h1 : 2048 < s.size
  · have HF : Hid (lnC (bl s) = none) := ln_long (by rw [bl_size]; exact h1)
    go_enter Tryz.func13, Tryz.ntmps13
    go_wp2_with fail
    go_ret2
    exact says_nil HF.out (Q.refl _)
  by_cases hE : endL (bl s) = true
  · have hw0 : s.size = 0 ∨ (0 < s.size ∧ ∃ h : 0 < s.size, ((s[s.size - 1].toNat : Int) != 10) = false) := by
      by_cases h0 : 0 < s.size
      · right
        refine ⟨h0, h0, ?_⟩
        unfold endL at hE
        have hn : (bl s).isEmpty = false := by
          cases hb : bl s with
          | nil => have := bl_size s; rw [hb] at this; simp at this; omega
          | cons _ _ => rfl
        rw [hn, last_eq s h0] at hE
        have h3 : s[s.size - 1] = 10 := by simpa using hE
        rw [h3]; rfl
      · left; omega
    have hsz : s.size ≤ 2048 := by omega
    have HPL := hide (rows_plain' hE)
    have HR2 : Hid (plainL (without 10 (bl s)) = true → lnC (bl s) = cutR false [] (spc 10 (bl s)).dropLast) := fun h => ln_rows (by rw [bl_size]; exact hsz) hE h
    have hsp : ∀ W, Calls Tryz.prog 39 #[.string s, .int .u8 10] W _ := fun W => rsplit_any s 10 W (by omega)
    have HSP := hide hsp
    clear hsp hE
    go_enter Tryz.func13, Tryz.ntmps13
    rcases hw0 with hz | ⟨hp, hp', hlast⟩
    · have HF : Hid (lnC (bl s) = some []) := by
        show _ = _
        rw [bl_none s (by omega)]; rfl
      have HX : Hid (spc 10 (bl s) = [[]]) := by
        show _ = _
        rw [bl_none s (by omega)]; rfl
      go_wp2_with fail
      refine (unhide HSP _).mono ?_
      rintro e w1 ⟨xs, ao, cap, hxs, hxl, rfl, hown, q1⟩
      have hl1 : xs.length = 1 := by
        have := congrArg List.length hxs
        rw [HX.out, List.length_map] at this; exact this
      have hyc := own_cap hown
      obtain ⟨g, rfl⟩ : ∃ g, ao = some ⟨g, 0, none⟩ := by
        rcases hown.2 with ⟨e1, h2⟩ | ⟨g, cap', cur, e1, _⟩
        · omega
        · cases e1; exact ⟨g, rfl⟩
      rw [hl1] at hyc ⊢
      clear hxs hown HX
      go_wp2_with fail
      refine wp_loop_rounds 1 ?_
      rw [rounds_succ]
      go_wp2_with fail
      refine wp_loop_rounds 1 ?_
      rw [rounds_succ]
      go_wp2_with fail
      go_ret2
      exact says_some HF.out (World.ownsRow_nil _ _ _ _) q1
    · go_wp2_with fail
      refine (unhide HSP _).mono ?_
      rintro e w1 ⟨xs, ao, cap, hxs, hxl, rfl, hown, q1⟩
      have hx0 : xs ≠ [] := by
        rintro rfl
        exact spc_ne 10 (bl s) (by rw [← hxs]; rfl)
      obtain ⟨n, hn⟩ : ∃ n, xs.length = n + 1 := ⟨xs.length - 1, by have := List.length_pos_iff.2 hx0; omega⟩
      have hyc := own_cap hown
      rcases RowS.of_own hown with he | ⟨g, o, rfl, hg, hcells⟩
      · exact absurd he hx0
      have hr0 : (xs.dropLast).map bl = (spc 10 (bl s)).dropLast := by rw [← hxs, List.map_dropLast]
      have HYC : Hid (∀ (j : Nat) x, xs.dropLast[j]? = some x → w1.cell? ⟨g, o + j, none⟩ = some (.string x)) := by
        intro j x hx
        refine hcells j x ?_
        rw [List.getElem?_dropLast] at hx
        split at hx
        · exact hx
        · cases hx
      have HYL : Hid (xs.dropLast.length = n) := by show _ = _; rw [List.length_dropLast]; omega
      have HYS : Hid (∀ x ∈ xs.dropLast, x.size ≤ 2048) := by
        intro x hx
        have h1 : bl x ∈ spc 10 (bl s) := by rw [← hxs]; exact List.mem_map_of_mem ((List.dropLast_sublist xs).subset hx)
        have h2 := spc_mem_len h1
        rw [bl_size, bl_size] at h2; omega
      have HR : Hid (lnC (bl s) = if (xs.dropLast.map bl).all plainL then cutR false [] (xs.dropLast.map bl) else none) := by
        show _ = _
        rw [hr0, ← unhide HPL]
        split
        · rename_i h; exact HR2.out h
        · rename_i h; exact ln_odd (by simpa using h)
      generalize xs.dropLast = ys at HYC HYL HYS HR
      clear hr0 hx0 hxs hown hcells HPL HR2
      rw [hn] at hyc ⊢
      have hnl : n ≤ 2048 := by omega
      clear hn hxl
      go_wp2_with fail
      go_loopw [5] (fun i wr => ∃ k : Nat, i = .int .i64 k ∧ k ≤ n ∧ Q w1 wr ∧ Hid (((ys.map bl).take k).all plainL = true)) (fun i _ => n - (intOf i).toNat)
      case atStart => exact ⟨0, rfl, by omega, Q.refl _, by show _ = _; rfl⟩
      case round =>
        obtain ⟨k, rfl, hk, hq, HA⟩ := hrel
        by_cases hlt : k < n
        · obtain ⟨x, hxk⟩ : ∃ x, ys[k]? = some x := ⟨ys[k]'(by rw [HYL.out]; exact hlt), List.getElem?_eq_getElem _⟩
          have hxs : x.size ≤ 2048 := HYS.out x (List.mem_of_getElem? hxk)
          have ck : wr.cell? ⟨g, o + k, none⟩ = some (.string x) := (hq.cell (p := ⟨g, o + k, none⟩) hg).trans (HYC.out k x hxk)
          have hmk : (ys.map bl)[k]? = some (bl x) := by rw [List.getElem?_map, hxk]; rfl
          have HP := hide (rplain_any x 0 2048 wr (by unfold maxLen; omega))
          have e1 : (plainL (bl x) && decide ((0 : Int) ≤ (x.size : Int)) && decide ((x.size : Int) ≤ 2048)) = plainL (bl x) := by
            rw [decide_eq_true (by omega), decide_eq_true (by omega), Bool.and_true, Bool.and_true]
          rw [e1] at HP
          cases hpl : plainL (bl x)
          · have HF : Hid (lnC (bl s) = none) := by
              show _ = _
              rw [HR.out, if_neg]
              intro h
              have := List.all_eq_true.1 h (bl x) (List.mem_of_getElem? hmk)
              rw [hpl] at this; cases this
            rw [hpl] at HP
            clear hxk hmk e1 hpl HA
            go_wp2_with fail
            refine (unhide HP).mono ?_
            rintro e w2 ⟨rfl, rfl⟩
            go_wp2_with fail
            go_ret2
            exact says_nil HF.out (q1.trans hq)
          · have HN : Hid (((ys.map bl).take (k + 1)).all plainL = true) := by
              show _ = _
              rw [List.take_add_one, hmk, List.all_append, HA.out]; simp [hpl]
            rw [hpl] at HP
            clear hxk hmk e1 hpl HA
            go_wp2_with fail
            refine (unhide HP).mono ?_
            rintro e w2 ⟨rfl, rfl⟩
            go_wp2_with fail
            go_roundw
            case rel => exact ⟨k + 1, by go_num, by omega, hq, HN⟩
            case measure => simp [intOf]; omega
        · have HC : Hid (lnC (bl s) = cutR false [] (ys.map bl)) := by
            show _ = _
            have h := HA.out
            rw [List.take_of_length_le (by rw [List.length_map, HYL.out]; omega)] at h
            rw [HR.out, if_pos h]
          have hkn : k = n := by omega
          clear HA HR
          subst hkn
          go_wp2_with fail
          go_loopw [6, 7] (fun ov i wr => ∃ (j : Nat) (ls : List Ln) (bo : Option Addr) (bcap : Nat), i = .int .i64 j ∧ ov = .slice bo ls.length bcap ∧ j ≤ k ∧ ls.length ≤ j ∧
              OwnL wr w1.heap.size bo bcap ls ∧ Q w1 wr ∧ Hid (LnW (ys.map bl) j ls))
            (fun _ i _ => k - (intOf i).toNat)
          case atStart => exact ⟨0, [], none, 0, rfl, rfl, by omega, by simp, World.ownsRow_nil _ _ _ _, hq, LnW.start _⟩
          case round =>
            obtain ⟨j, ls, bo, bcap, rfl, rfl, hj, hlj, hown, hqr, HW⟩ := hrel
            by_cases hlt2 : j < k
            · obtain ⟨y, hyj⟩ : ∃ y, ys[j]? = some y := ⟨ys[j]'(by rw [HYL.out]; exact hlt2), List.getElem?_eq_getElem _⟩
              have hys : y.size ≤ 2048 := HYS.out y (List.mem_of_getElem? hyj)
              have cj : wr.cell? ⟨g, o + j, none⟩ = some (.string y) := (hqr.cell (p := ⟨g, o + j, none⟩) hg).trans (HYC.out j y hyj)
              have HK0 : Hid ((ys.map bl)[j]? = some (bl y) ∧ bl y = rowL false (bl y) ∧ bl y = [] ++ bl y ∧ InW (ys.map bl) ls j false []) :=
                ⟨by rw [List.getElem?_map, hyj]; rfl, rfl, rfl, HW.out⟩
              clear hyj HW
              go_wp2_with fail
              go_loopw [7, 8, 9] (fun i tv lv wi => ∃ (m : Nat) (b : Bool) (a r : List UInt8) (t l : ByteArray), i = .int .i64 m ∧ tv = .string t ∧ lv = .string l ∧ j ≤ m ∧ m < k ∧ t.size ≤ (m + 1) * 2048 ∧ l.size ≤ 2048 ∧ wi = wr ∧
                  Hid ((ys.map bl)[m]? = some r ∧ bl l = rowL b r ∧ bl t = a ++ bl l ∧ InW (ys.map bl) ls m b a))
                (fun i _ _ _ => k - (intOf i).toNat)
              case atStart => exact ⟨j, false, [], bl y, y, y, rfl, rfl, rfl, by omega, hlt2, by omega, hys, rfl, HK0⟩
              case round =>
                obtain ⟨m, b, a, r, t, l, rfl, rfl, rfl, hjm, hmk, hts, hls, rfl, HI⟩ := hrel
                clear cj HK0 hys
                cases hgo : goL (bl l)
                · have HST : Hid (LnW (ys.map bl) (m + 1) (ls ++ (lnOf (bl t)).toList)) := by
                    obtain ⟨i1, i2, i3, i4⟩ := HI.out
                    have := i4.stop i1 (by rw [← i2]; exact hgo)
                    rw [← i2, ← i3] at this
                    exact this
                  have HG := hide hgo
                  have htm : t.size ≤ 8388608 := by omega
                  have HTR := hide (rtrim_any t wr (by unfold maxLen; omega))
                  obtain ⟨x, hx⟩ : ∃ x : ByteArray, x = ⟨(trL (bl t)).toArray⟩ := ⟨_, rfl⟩
                  have hxb : bl x = trL (bl t) := by rw [hx]; rfl
                  rw [← hx] at HTR
                  clear hgo HI hx
                  by_cases h0 : 0 < x.size
                  · have hxc := bl_cons x h0
                    have hne : x.toList.isEmpty = false := by rw [bl_toList, hxc]; rfl
                    have hne2 : trL (bl t) ≠ [] := by rw [← hxb, hxc]; simp
                    by_cases h35 : x[0] = 35
                    · have g1 : ((x[0].toNat : Int) != 35) = false := by rw [h35]; rfl
                      have HN : Hid (LnW (ys.map bl) (m + 1) ls) := by
                        have h := HST.out
                        have e1 : lnOf (bl t) = none := by unfold lnOf; rw [if_pos (Or.inr (by rw [← hxb, hxc, h35]; rfl))]
                        rw [e1] at h; show LnW _ _ _; simpa using h
                      clear hxb hxc hne2 h35 HST
                      go_wp2_with fail
                      refine (rgoes_any l _ (by unfold maxLen; omega)).mono ?_
                      rintro e w3 ⟨rfl, rfl⟩
                      rw [unhide HG]
                      go_wp2_with fail
                      refine (unhide HTR).mono ?_
                      rintro e w4 ⟨rfl, rfl⟩
                      go_wp2_with fail
                      refine ⟨⟨m + 1, ls, bo, bcap, by go_num, rfl, by omega, by omega, hown, hqr, HN⟩, ?_⟩
                      simp [intOf]; omega
                    · have g1 : ((x[0].toNat : Int) != 35) = true := by
                        unfold bne
                        rw [beq_eq_false_iff_ne.2 (fun e => h35 (UInt8.toNat_inj.1 (by show x[0].toNat = 35; omega)))]; rfl
                      have ht0 : 0 < t.size := by rw [← bl_size]; exact List.length_pos_iff.2 (tr_ne hne2)
                      have HN : Hid (LnW (ys.map bl) (m + 1) (ls ++ [(((t[0].toNat : Int) == 32), bl x)])) := by
                        have h := HST.out
                        have e1 : lnOf (bl t) = some (((t[0].toNat : Int) == 32), bl x) := by
                          unfold lnOf
                          rw [if_neg (by rintro (h | h); exact hne2 h; rw [← hxb, hxc] at h; exact h35 (by simpa using h))]
                          have hh := bl_getElem t 0 ht0
                          rw [← List.head?_eq_getElem?] at hh
                          rw [hh, ← hxb]
                          congr 2
                          rw [Bool.eq_iff_iff, decide_eq_true_iff, beq_iff_eq]
                          exact ⟨fun h => by rw [Option.some.inj h]; rfl, fun h => congrArg some (UInt8.toNat_inj.1 (by show t[0].toNat = 32; omega))⟩
                        rw [e1] at h; exact h
                      have hyc2 := own_le hown
                      have hqs := hqr.size
                      clear hxb hxc hne2 h35 HST
                      go_wp2_with fail
                      refine (rgoes_any l _ (by unfold maxLen; omega)).mono ?_
                      rintro e w3 ⟨rfl, rfl⟩
                      rw [unhide HG]
                      go_wp2_with fail
                      refine (unhide HTR).mono ?_
                      rintro e w4 ⟨rfl, rfl⟩
                      go_wp2_with (at_builtin; refine wpList_append_lies _ rfl _ _ 37 rfl w1.heap.size 51 i0 (.agg #[.bool false, .string ByteArray.empty]) 2 24 Tryz.underlying37 hi hz0 hz1 hz2 rfl (by decide) _ _ _ rfl (hown.alloc _) ⟨w4.heap.size, 0, none⟩ 1 1 [.bool ((t[0].toNat : Int) == 32), .string x] rfl rfl (news_new _ #[.bool ((t[0].toNat : Int) == 32), .string x] _) (one_bs _ _) (by decide) (by unfold maxLen; omega) (by omega) (le_alloc hqs _) (w4.heap.size + 1) (size_alloc _ _) ?_)
                      intro g5 cp w5 hown5 hgrow hor hglt
                      have hq5 : Q w1 w5 := Below.grown (hqr.alloc _) hgrow (le_alloc hqs _) (fun r hr => (hown.lt r hr).1)
                      have HO := hide (OwnL.snoc (p := (((t[0].toNat : Int) == 32), bl x)) (by rw [mk_blL]; exact hown5))
                      clear hown5 hgrow hown hor
                      go_wp2
                      refine ⟨⟨m + 1, _, some ⟨g5, 0, none⟩, cp, by go_num, by simp, by omega, by simp; omega, unhide HO, hq5, HN⟩, ?_⟩
                      simp [intOf]; omega
                  · have hx0 : bl x = [] := bl_none x h0
                    have hne : x.toList.isEmpty = true := by rw [bl_toList, hx0]; rfl
                    have HN : Hid (LnW (ys.map bl) (m + 1) ls) := by
                      have h := HST.out
                      have e1 : lnOf (bl t) = none := by unfold lnOf; rw [if_pos (Or.inl (by rw [← hxb, hx0]))]
                      rw [e1] at h; show LnW _ _ _; simpa using h
                    clear hxb hx0 HST h0
                    go_wp2_with fail
                    refine (rgoes_any l _ (by unfold maxLen; omega)).mono ?_
                    rintro e w3 ⟨rfl, rfl⟩
                    rw [unhide HG]
                    go_wp2_with fail
                    refine (unhide HTR).mono ?_
                    rintro e w4 ⟨rfl, rfl⟩
                    go_wp2_with fail
                    refine ⟨⟨m + 1, ls, bo, bcap, by go_num, rfl, by omega, by omega, hown, hqr, HN⟩, ?_⟩
                    simp [intOf]; omega
                · have hl1 : 1 ≤ l.size := by rw [← bl_size]; exact go_len hgo
                  have htl : l.size ≤ t.size := by
                    have := congrArg List.length HI.out.2.2.1
                    rw [List.length_append, bl_size, bl_size] at this; omega
                  have HG := hide hgo
                  by_cases hend : m + 1 = k
                  · have HF : Hid (lnC (bl s) = none) := by
                      show _ = _
                      obtain ⟨i1, i2, i3, i4⟩ := HI.out
                      rw [HC.out]
                      exact i4.bad i1 (by rw [← i2]; exact hgo) (by rw [List.length_map, HYL.out]; exact hend)
                    have hee : (((m : Int) + 1) == (k : Int)) = true := beq_iff_eq.2 (by omega)
                    clear hgo HI
                    go_wp2_with fail
                    refine (rgoes_any l _ (by unfold maxLen; omega)).mono ?_
                    rintro e w3 ⟨rfl, rfl⟩
                    rw [unhide HG]
                    go_wp2_with fail
                    go_ret2
                    exact says_nil HF.out (q1.trans hqr)
                  · have hee : (((m : Int) + 1) == (k : Int)) = false := beq_eq_false_iff_ne.2 (by omega)
                    obtain ⟨z, hzj⟩ : ∃ z, ys[m + 1]? = some z := ⟨ys[m + 1]'(by rw [HYL.out]; omega), List.getElem?_eq_getElem _⟩
                    have hzs : z.size ≤ 2048 := HYS.out z (List.mem_of_getElem? hzj)
                    have cz : wr.cell? ⟨g, o + (m + 1), none⟩ = some (.string z) := (hqr.cell (p := ⟨g, o + (m + 1), none⟩) hg).trans (HYC.out (m + 1) z hzj)
                    obtain ⟨f, hf⟩ : ∃ f : ByteArray, f = ⟨(frL (bl z)).toArray⟩ := ⟨_, rfl⟩
                    have hfb : bl f = frL (bl z) := by rw [hf]; rfl
                    have hfs : f.size ≤ z.size := by rw [← bl_size, ← bl_size, hfb]; exact fr_len _
                    have HFR := hide (rfront_any z wr)
                    rw [← hf] at HFR
                    have hez : (t.extract 0 (t.size - 1)).size = t.size - 1 := ext_sz t 0 (t.size - 1) (by omega) (by omega)
                    have haz : (t.extract 0 (t.size - 1) ++ f).size = t.size - 1 + f.size := by rw [ByteArray.size_append, hez]
                    have HN : Hid ((ys.map bl)[m + 1]? = some (bl z) ∧ bl f = rowL true (bl z) ∧ bl (t.extract 0 (t.size - 1) ++ f) = (a ++ (rowL b r).dropLast) ++ bl f ∧ InW (ys.map bl) ls (m + 1) true (a ++ (rowL b r).dropLast)) := by
                      obtain ⟨i1, i2, i3, i4⟩ := HI.out
                      refine ⟨by rw [List.getElem?_map, hzj]; rfl, hfb, ?_, i4.on i1 (by rw [← i2]; exact hgo)⟩
                      rw [bl_app, bl_front, i3, ← i2, List.dropLast_append_of_ne_nil (go_ne hgo)]
                    clear hgo HI hf hfb hzj
                    go_wp2_with fail
                    refine (rgoes_any l _ (by unfold maxLen; omega)).mono ?_
                    rintro e w3 ⟨rfl, rfl⟩
                    rw [unhide HG]
                    go_wp2_with fail
                    refine (unhide HFR).mono ?_
                    rintro e w4 ⟨rfl, rfl⟩
                    go_wp2_with fail
                    go_roundw
                    case rel => exact ⟨m + 1, true, _, _, _, f, by go_num, rfl, rfl, by omega, by omega, by rw [haz]; omega, by omega, trivial, HN⟩
                    case measure => simp [intOf]; omega
            · have HF : Hid (lnC (bl s) = some ls) := by
                show _ = _
                rw [HC.out]
                exact HW.out.done (by rw [List.length_map, HYL.out]; omega)
              clear HW
              go_wp2_with fail
              go_ret2
              exact says_some HF.out (own_low hown q1.size) (q1.trans hqr)
  · have HF : Hid (lnC (bl s) = none) := ln_end (by simpa using hE)
    have h0 : 0 < s.size := by
      rcases Nat.eq_zero_or_pos s.size with h | h
      · exact absurd (by rw [bl_none s (by omega)]; rfl) hE
      · exact h
    have hlast : ((s[s.size - 1].toNat : Int) != 10) = true := by
      have : ¬ s[s.size - 1] = 10 := by
        intro e
        apply hE
        unfold endL
        rw [last_eq s h0, e]; simp
      unfold bne
      rw [beq_eq_false_iff_ne.2 (fun e => this (UInt8.toNat_inj.1 (by show s[s.size - 1].toNat = 10; omega)))]; rfl
    clear hE
    go_enter Tryz.func13, Tryz.ntmps13
    go_wp2_with fail
    go_ret2
    exact says_nil HF.out (Q.refl _)

end Go.Proofs.YtpddckgkaopnlaaGreatDoor
