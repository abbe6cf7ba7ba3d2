/- What package lines' Cut answers, for every text: its lines in a row of its own, or the number of an error; no conditions but that the text is no longer than a string can be. -/
import Derived.Test.YtgfegbeickaknabGreatDoorLnCut
namespace Go.Proofs.YtgfegbeickaknabGreatDoor
open Go.RowKit

theorem jn_len : ∀ (rs : List (List UInt8)) (b : Bool) (a t : List UInt8) (k : Nat), jn b a rs = some (t, k) → t.length ≤ a.length + tot rs
  | [], b, a, t, k, h => by simp [jn] at h
  | r :: rs, b, a, t, k, h => by
    rw [jn] at h
    have hrl := rowL_len b r
    rw [tot_cons]
    split at h
    · obtain ⟨⟨t', k'⟩, h1, h2⟩ := Option.map_eq_some_iff.1 h
      cases h2
      have := jn_len rs true _ _ _ h1
      rw [List.length_append, List.length_dropLast] at this
      show t'.length ≤ _
      omega
    · cases h
      rw [List.length_append]; omega

/-- The state of a cut's walk: k rows are taken. -/
def LnW (R : List (List UInt8)) (k : Nat) (ls : List Ln) : Prop := (cutR false [] (R.drop k)).map (ls ++ ·) = cutR false [] R
theorem LnW.start (R : List (List UInt8)) : LnW R 0 [] := by
  show (cutR false [] R).map _ = _
  cases cutR false [] R <;> simp
theorem LnW.done {R : List (List UInt8)} {k : Nat} {ls : List Ln} (h : LnW R k ls) (hk : R.length ≤ k) : cutR false [] R = some ls := by
  have h' : _ = cutR false [] R := h
  rw [List.drop_eq_nil_of_le hk] at h'
  rw [← h']; simp [cutR]
theorem LnW.bad {R : List (List UInt8)} {k : Nat} {ls : List Ln} (h : LnW R k ls) (hk : k < R.length) (hj : jn false [] (R.drop k) = none) : cutR false [] R = none := by
  have h' : _ = cutR false [] R := h
  rw [jn_none _ _ _ hj (Or.inl (fun e => by have := congrArg List.length e; simp at this; omega))] at h'
  rw [← h']; rfl
theorem LnW.next {R : List (List UInt8)} {k j : Nat} {ls : List Ln} {t : List UInt8} (h : LnW R k ls) (hj : jn false [] (R.drop k) = some (t, j)) : LnW R (k + j) (ls ++ (lnOf t).toList) := by
  have h' : _ = cutR false [] R := h
  rw [(jn_some _ _ _ _ _ hj).2.2, List.drop_drop] at h'
  show _ = cutR false [] R
  rw [← h', Option.map_map]
  congr 1
  funext x
  simp
theorem LnW.skip {R : List (List UInt8)} {k j : Nat} {ls : List Ln} {t : List UInt8} (h : LnW R k ls) (hj : jn false [] (R.drop k) = some (t, j)) (hn : lnOf t = none) : LnW R (k + j) ls := by
  have := h.next hj
  rw [hn] at this; simpa using this
theorem LnW.line {R : List (List UInt8)} {k j : Nat} {ls : List Ln} {t : List UInt8} {x : Ln} (h : LnW R k ls) (hj : jn false [] (R.drop k) = some (t, j)) (hn : lnOf t = some x) : LnW R (k + j) (ls ++ [x]) := by
  have := h.next hj
  rw [hn] at this; exact this

def slLen : Value → Nat | .slice _ n _ => n | _ => 0

/-- What Cut says. -/
def CutSays (l : List UInt8) (w : World) (e : Ending) (w' : World) : Prop :=
  ∃ ao cap, e = .returned (.tuple #[.slice ao (lnS l).length cap, .int .i64 (lnE l)]) ∧ OwnL w' w.heap.size ao cap (lnS l) ∧ Q w w'

theorem says_nil {l : List UInt8} {w w' : World} (h : lnC l = none) (q : Q w w') : CutSays l w (.returned (.tuple #[.slice none 0 0, .int .i64 600])) w' :=
  ⟨none, 0, by rw [(ln_bad h).1, (ln_bad h).2]; rfl, by rw [(ln_bad h).1]; exact World.ownsRow_nil _ _ _ _, q⟩
theorem says_some {l : List UInt8} {w w' : World} {ls : List Ln} {ao : Option Addr} {cap : Nat} (h : lnC l = some ls) (o : OwnL w' w.heap.size ao cap ls) (q : Q w w') : CutSays l w (.returned (.tuple #[.slice ao ls.length cap, .int .i64 0])) w' :=
  ⟨ao, cap, by rw [(ln_good h).1, (ln_good h).2], by rw [(ln_good h).1]; exact o, q⟩

set_option maxRecDepth 20000 in
set_option maxHeartbeats 4000000 in
theorem cutl_any (s : ByteArray) (w : World) (hs : s.size ≤ maxLen) :
    Calls Tryz.prog 9 #[.string s] w fun e w' => CutSays (bl s) w e w' := by
  obtain ⟨i0, hi, hz0, hz1, hz2⟩ := info_parts Tryz.infoL
  cases hm : (decide (s.size ≤ 2048) && endL (bl s) && plainL (without 10 (bl s)))
  · have HF : Hid (lnC (bl s) = none) := by
      rcases Bool.and_eq_false_iff.1 hm with h | h
      · rcases Bool.and_eq_false_iff.1 h with h | h
        · exact ln_long (by rw [bl_size]; simpa using h)
        · exact ln_end h
      · exact ln_odd h
    have HM := hide hm
    clear hm
    go_enter Tryz.func9, Tryz.ntmps9
    go_wp2_with fail
    refine (lmay_any s _ hs).mono ?_
    rintro e w1 ⟨rfl, q1⟩
    rw [unhide HM]
    go_wp2_with fail
    go_ret2
    exact says_nil HF.out q1
  have hm2 := Bool.and_eq_true_iff.1 hm
  have hm3 := Bool.and_eq_true_iff.1 hm2.1
  have hsz : s.size ≤ 2048 := by simpa using hm3.1
  have HR : Hid (lnC (bl s) = cutR false [] (spc 10 (bl s)).dropLast) := ln_rows (by rw [bl_size]; exact hsz) hm3.2 hm2.2
  have HM := hide hm
  clear hm hm2 hm3
  go_enter Tryz.func9, Tryz.ntmps9
  go_wp2_with fail
  refine (lmay_any s _ hs).mono ?_
  rintro e w1 ⟨rfl, q1⟩
  rw [unhide HM]
  go_wp2_with fail
  refine (split_one s 10 _ (by omega)).mono ?_
  rintro e w2 ⟨xs, hxs, hxl, rfl, rfl⟩
  have hx0 : xs ≠ [] := by
    rintro rfl
    exact spc_ne 10 (bl s) (by rw [← hxs]; rfl)
  obtain ⟨n, hn⟩ : ∃ n, xs.length = n + 1 := ⟨xs.length - 1, by have := List.length_pos_iff.2 hx0; omega⟩
  have hr0 : (xs.dropLast).map bl = (spc 10 (bl s)).dropLast := by rw [← hxs, List.map_dropLast]
  have HYC : Hid (∀ (j : Nat) x, xs.dropLast[j]? = some x → (w1.alloc (.cells (xs.map Value.string).toArray 9)).cell? ⟨w1.heap.size, j, none⟩ = some (.string x)) := by
    intro j x hx
    refine cells_blockL w1 xs _ j x ?_
    rw [List.getElem?_dropLast] at hx
    split at hx
    · exact hx
    · cases hx
  have HYL : Hid (xs.dropLast.length = n) := by show _ = _; rw [List.length_dropLast]; omega
  have HYS : Hid (∀ x ∈ xs.dropLast, x.size ≤ 4096) := by
    intro x hx
    have h1 : bl x ∈ spc 10 (bl s) := by rw [← hxs]; exact List.mem_map_of_mem ((List.dropLast_sublist xs).subset hx)
    have h2 := spc_mem_len h1
    rw [bl_size, bl_size] at h2; omega
  have HRT : Hid (tot (xs.dropLast.map bl) ≤ 2049) := by
    show _ ≤ _
    have h1 := tot_spc 10 (bl s)
    have h2 : tot (xs.dropLast.map bl) ≤ tot (xs.map bl) := by
      rw [← List.dropLast_concat_getLast hx0, List.dropLast_concat, List.map_append, tot_app]; omega
    rw [hxs, h1, bl_size] at h2; omega
  rw [← hr0] at HR
  generalize xs.dropLast = ys at HYC HYL HYS HRT HR
  clear hr0 hx0 hxs
  have hqa : Q w (w1.alloc (.cells (xs.map Value.string).toArray 9)) := q1.alloc _
  have hga : w1.heap.size < (w1.alloc (.cells (xs.map Value.string).toArray 9)).heap.size := by simp
  generalize hwa : (w1.alloc (.cells (xs.map Value.string).toArray 9)) = wa at *
  clear hwa
  rw [hn]
  have hnl : n ≤ 2048 := by omega
  clear hn hxl
  go_wp2_with fail
  go_loopw [4, 5] (fun v c wr => ∃ (k : Nat) (ls : List Ln) (ao : Option Addr) (cap : Nat), v = .slice (some ⟨w1.heap.size, k, none⟩) (n - k) (n + 1 - k) ∧ c = .slice ao ls.length cap ∧ k ≤ n ∧ ls.length ≤ k ∧
      OwnL wr wa.heap.size ao cap ls ∧ Q wa wr ∧ Hid (LnW (ys.map bl) k ls))
    (fun v _ _ => slLen v)
  case atStart => exact ⟨0, [], none, 0, by simp, rfl, by omega, by simp, World.ownsRow_nil _ _ _ _, Q.refl _, LnW.start _⟩
  case round =>
    obtain ⟨k, ls, ao, cap, rfl, rfl, hk, hlk, hown, hqw, HW⟩ := hrel
    have hq : Q w wr := hqa.trans hqw
    by_cases hlt : k < n
    · have HJ := hide (join_any w1.heap.size k (n + 1 - k) (n - k) (ys.drop k) wr (by rw [List.length_drop, HYL.out]) (Nat.lt_of_lt_of_le hga hqw.size)
        (fun j x hx => (hqw.cell (p := ⟨w1.heap.size, k + j, none⟩) hga).trans (HYC.out (k + j) x (by rw [List.getElem?_drop] at hx; exact hx)))
        (by rw [List.length_drop, HYL.out]; omega) (fun x hx => HYS.out x (List.mem_of_mem_drop hx)))
      rw [List.map_drop] at HJ
      have hpos : 0 < n - k := by omega
      cases hjn : jn false [] ((ys.map bl).drop k) with
      | none =>
        have e1 : jnT ((ys.map bl).drop k) = ([], 0) := by unfold jnT; rw [hjn]; rfl
        rw [e1] at HJ
        have HF : Hid (lnC (bl s) = none) := by
          show _ = _
          rw [HR.out]
          exact HW.out.bad (by rw [List.length_map, HYL.out]; exact hlt) hjn
        clear hjn e1 HW
        go_wp2_with fail
        refine (unhide HJ).mono ?_
        rintro e w3 ⟨rfl, q3⟩
        go_wp2_with fail
        go_ret2
        exact says_nil HF.out (hq.trans q3)
      | some x =>
        obtain ⟨t, j⟩ := x
        have e1 : jnT ((ys.map bl).drop k) = (t, j) := by unfold jnT; rw [hjn]; rfl
        rw [e1] at HJ
        obtain ⟨hj1, hj2, _⟩ := jn_some _ _ _ _ _ hjn
        rw [List.length_drop, List.length_map, HYL.out] at hj2
        have htl : t.length ≤ 4096 := by
          have h1 := jn_len _ _ _ _ _ hjn
          have h2 : tot ((ys.map bl).drop k) ≤ tot (ys.map bl) := by
            conv => rhs; rw [← List.take_append_drop k (ys.map bl), tot_app]
            omega
          have h3 := HRT.out
          simp at h1; omega
        have hjz : ((j : Int) == 0) = false := beq_eq_false_iff_ne.2 (by omega)
        have HLO := hide (fun w => lineOf_any ⟨t.toArray⟩ w (by unfold maxLen; rw [← bl_size]; show t.length ≤ _; omega))
        have eb : bl ⟨t.toArray⟩ = t := rfl
        rw [eb] at HLO
        cases hlo : lnOf t with
        | none =>
          have HN := hide (HW.out.skip hjn hlo)
          rw [lnOf_none hlo, hlo] at HLO
          clear hjn e1 HW hlo eb
          go_wp2_with fail
          refine (unhide HJ).mono ?_
          rintro e w3 ⟨rfl, q3⟩
          go_wp2_with fail
          refine (unhide HLO _).mono ?_
          rintro e w4 ⟨rfl, q4⟩
          go_wp2_with fail
          have q5 := (q3.trans q4).trans ((Q.refl _).alloc (.cells #[.bool false, .string ⟨#[]⟩] 56))
          refine ⟨⟨k + j, ls, ao, cap, by rw [Nat.sub_sub, Nat.sub_sub], rfl, by omega, by omega, own_q hown q5, hqw.trans q5, HN⟩, ?_⟩
          simp only [slLen]; omega
        | some x =>
          obtain ⟨d, tx⟩ := x
          have HN := hide (HW.out.line hjn hlo)
          rw [lnOf_some hlo, hlo] at HLO
          have hyc := own_le hown
          clear hjn e1 HW hlo eb
          go_wp2_with fail
          refine (unhide HJ).mono ?_
          rintro e w3 ⟨rfl, q3⟩
          go_wp2_with fail
          refine (unhide HLO _).mono ?_
          rintro e w4 ⟨rfl, q4⟩
          have q5 := (q3.trans q4).trans ((Q.refl _).alloc (.cells #[.bool d, .string ⟨tx.toArray⟩] 56))
          have hown5 := own_q hown q5
          have hqw5 := hqw.trans q5
          have hq5s := hqw5.size
          clear q3 q4 q5 hown
          go_wp2_with (at_builtin; refine wpList_append_lies _ rfl _ _ 42 rfl wa.heap.size 56 i0 (.agg #[.bool false, .string ByteArray.empty]) 2 24 Tryz.underlying42 hi hz0 hz1 hz2 rfl (by decide) _ _ _ rfl (hown5.alloc _) ⟨w4.heap.size + 1, 0, none⟩ 1 1 [.bool d, .string ⟨tx.toArray⟩] rfl rfl (news_at (size_alloc w4 _).symm #[.bool d, .string ⟨tx.toArray⟩] _) (one_bs _ _) (by decide) (by unfold maxLen; omega) (by omega) (le_alloc hq5s _) (w4.heap.size + 1 + 1) (by simp) ?_)
          intro g cp w6 hown6 hgrow hor hglt
          have hqw6 : Q wa w6 := Below.grown (hqw5.alloc _) hgrow (le_alloc hq5s _) (fun r hr => (hown5.lt r hr).1)
          have HO := hide (OwnL.snoc (p := (d, tx)) hown6)
          clear hown6 hgrow hown5 hor
          go_wp2
          refine ⟨⟨k + j, ls ++ [(d, tx)], some ⟨g, 0, none⟩, cp, by rw [Nat.sub_sub, Nat.sub_sub], by simp, by omega, by simp; omega, unhide HO, hqw6, HN⟩, ?_⟩
          simp only [slLen]; omega
    · have HF : Hid (lnC (bl s) = some ls) := by
        show _ = _
        rw [HR.out]
        exact HW.out.done (by rw [List.length_map, HYL.out]; omega)
      have hz : n - k = 0 := by omega
      clear HW
      go_wp2_with fail
      go_ret2
      exact says_some HF.out (own_low hown hqa.size) hq

end Go.Proofs.YtgfegbeickaknabGreatDoor
