/- The statement on two texts one behind the other holds for all texts: their pieces are both's; no conditions. -/
import Derived.Test.YteoldaibnndnfaaRows
import Derived.ProofKit
import Derived.OpenShut
import Derived.ShutString
import Derived.ChangeOld
import Derived.Below
import Derived.SizedLaws
import Derived.Test.YteoldaibnndnfaaPcTwo
import Derived.Test.YteoldaibnndnfaaPcAwake
import Derived.Test.YteoldaibnndnfaaPcText
import Derived.Test.YteoldaibnndnfaaStAppend
namespace Go.Proofs.Yteoldaibnndnfaa
open Go.ChangeShapes Go.WideShapes Go.ChangeAt Go.RowKit
open Go.ChangeMaps (open_string shut_string)

theorem RowG.tail {α : Type} {f : α → List Value} {sz : Nat} {w : World} {g o : Nat} {x : α} {xs : List α} (h : RowG f sz w (some ⟨g, o, none⟩) (x :: xs)) : RowG f sz w (some ⟨g, o + sz, none⟩) xs := by
  rcases h with h | ⟨g', o', e, hg, hc⟩
  · cases h
  · cases e
    refine Or.inr ⟨g, o + sz, rfl, hg, ?_⟩
    intro j i y v hy hi hv
    have := hc (j + 1) i y v (by simpa using hy) hi hv
    rw [show o + sz + (j * sz + i) = o + ((j + 1) * sz + i) by rw [Nat.add_mul]; omega]
    exact this

theorem bl_two (s t : ByteArray) : bl (s ++ ⟨#[36, 58]⟩ ++ t) = bl s ++ 36 :: 58 :: bl t := by rw [bl_app, bl_app]; simp [bl]
theorem bl_one (t : ByteArray) : bl (⟨#[36, 58]⟩ ++ t) = 36 :: 58 :: bl t := by rw [bl_app]; rfl
theorem sz_app (s t : ByteArray) : (s ++ t).size = s.size + t.size := by rw [← bl_size, bl_app, List.length_append, bl_size, bl_size]

theorem set_last {ps : List Pc} {p q : Pc} (h : ps.getLast? = some p) : ps.dropLast ++ [q] = ps.set (ps.length - 1) q := by
  have hne : ps ≠ [] := by intro e; subst e; simp at h
  conv => rhs; rw [← List.dropLast_concat_getLast hne]
  rw [List.set_append_right _ _ (by simp)]
  simp

/-- What stands ahead of the main part: the first two calls. -/
theorem two_early (s t : ByteArray) (w : World) (hs : s.size ≤ maxLen) (ht : t.size ≤ maxLen)
    (h : cutE (bl s) = 300 ∨ (cutE (bl s) = 0 ∧ cutE (bl t) = 300) ∨ (cutE (bl s) = 0 ∧ cutE (bl t) = 0 ∧ 900 < s.size) ∨ (cutE (bl s) = 0 ∧ cutE (bl t) = 0 ∧ s.size ≤ 900 ∧ 900 < t.size)) :
    Calls Try.prog 6 #[.string s, .string t] w fun e w' => e = .returned (.bool true) ∧ Q w w' := by
  have hs' := hs
  have ht' := ht
  unfold maxLen at hs' ht'
  rcases h with h1 | ⟨h1, h2⟩ | ⟨h1, h2, h3⟩ | ⟨h1, h2, h3, h4⟩
  · have HC := hide (cut_at s · hs ⟨rfl, h1⟩)
    have HD := hide (cut_any t · ht)
    rcases cutE_or (bl t) with h2 | h2
    all_goals
      rw [h2] at HD
      clear h1 h2
      go_enter Try.func6, Try.ntmps6
      go_wp2_with fail
      refine (pcawake_any _).mono ?_
      rintro e w1 ⟨rfl, q1⟩
      go_wp2_with fail
      refine ((unhide HC) _).mono ?_
      rintro e w2 ⟨ao, cap, rfl, _, q2⟩
      go_wp2_with fail
      refine ((unhide HD) _).mono ?_
      rintro e w3 ⟨bo, bcap, rfl, _, q3⟩
      have q := q1.trans (q2.trans q3)
      clear q1 q2 q3
      go_wp2_with (go_at_call 10; refine (num_any _ _).mono ?_; rintro e w' ⟨rfl, rfl⟩)
      go_ret
      exact ⟨rfl, q⟩
  all_goals
    have HC := hide (cut_at s · hs ⟨rfl, h1⟩)
    have HD := hide (cut_at t · ht ⟨rfl, h2⟩)
    clear h1 h2
    go_enter Try.func6, Try.ntmps6
    go_wp2_with fail
    refine (pcawake_any _).mono ?_
    rintro e w1 ⟨rfl, q1⟩
    go_wp2_with fail
    refine ((unhide HC) _).mono ?_
    rintro e w2 ⟨ao, cap, rfl, _, q2⟩
    go_wp2_with fail
    refine ((unhide HD) _).mono ?_
    rintro e w3 ⟨bo, bcap, rfl, _, q3⟩
    have q := q1.trans (q2.trans q3)
    clear q1 q2 q3
    go_wp2_with (go_at_call 10; refine (num_any _ _).mono ?_; rintro e w' ⟨rfl, rfl⟩)
    go_ret
    exact ⟨rfl, q⟩

set_option maxRecDepth 20000 in
set_option maxHeartbeats 4000000 in
theorem two_main (s t : ByteArray) (w : World) (h1 : s.size ≤ 900) (h2 : t.size ≤ 900) (ps qs cs r : List Pc) (m : List UInt8)
    (HA : Hid (∀ w, Calls Try.prog 7 #[.string s] w fun e w' => ∃ ao cap, e = .returned (.tuple #[.slice ao ps.length cap, .int .i64 0]) ∧ OwnP w' w.heap.size ao cap ps ∧ Q w w'))
    (HB : Hid (∀ w, Calls Try.prog 7 #[.string t] w fun e w' => ∃ ao cap, e = .returned (.tuple #[.slice ao qs.length cap, .int .i64 0]) ∧ OwnP w' w.heap.size ao cap qs ∧ Q w w'))
    (HC : Hid (∀ w, Calls Try.prog 7 #[.string (s ++ ⟨#[36, 58]⟩ ++ t)] w fun e w' => ∃ ao cap, e = .returned (.tuple #[.slice ao cs.length cap, .int .i64 0]) ∧ OwnP w' w.heap.size ao cap cs ∧ Q w w'))
    (HD : Hid (∀ w, Calls Try.prog 7 #[.string (⟨#[36, 58]⟩ ++ t)] w fun e w' => ∃ ao cap, e = .returned (.tuple #[.slice ao (r.length + 1) cap, .int .i64 0]) ∧ OwnP w' w.heap.size ao cap ((false, m) :: r) ∧ Q w w'))
    (hal : ps.length ≤ 2048) (hbl : qs.length ≤ r.length + 1) (hcl : cs.length ≤ 2048) (hrl : r.length ≤ 2047) (hm : m.length ≤ 2064) (ham : most 2064 ps)
    (hcase : (∃ l, ps.getLast? = some (false, l) ∧ cs = ps.dropLast ++ (false, l ++ m) :: r) ∨ (noText ps ∧ cs = ps ++ (false, m) :: r)) :
    Calls Try.prog 6 #[.string s, .string t] w fun e w' => e = .returned (.bool true) ∧ Q w w' := by
  obtain ⟨i0, hi, hz0, hz1, hz2⟩ := info_parts Try.infoP
  have z1 := sz_app s ⟨#[36, 58]⟩
  have z2 := sz_app (s ++ ⟨#[36, 58]⟩) t
  have z3 := sz_app ⟨#[36, 58]⟩ t
  have z4 : (⟨#[36, 58]⟩ : ByteArray).size = 2 := rfl
  rw [z4] at z1 z3
  rw [z1] at z2
  clear z4
  go_enter Try.func6, Try.ntmps6
  go_wp2_with fail
  refine (pcawake_any _).mono ?_
  rintro e w1 ⟨rfl, q1⟩
  go_wp2_with fail
  refine ((unhide HA) _).mono ?_
  rintro e w2 ⟨ao, acap, rfl, ownA, q2⟩
  go_wp2_with fail
  refine ((unhide HB) _).mono ?_
  rintro e w3 ⟨bo, bcap, rfl, ownB, q3⟩
  clear ownB
  go_wp2_with fail
  refine (num_any _ _).mono ?_
  rintro e w3' ⟨rfl, rfl⟩
  go_wp2_with fail
  refine (num_any _ _).mono ?_
  rintro e w3'' ⟨rfl, rfl⟩
  go_wp2_with fail
  refine ((unhide HC) _).mono ?_
  rintro e w4 ⟨co, ccap, rfl, ownC, q4⟩
  go_wp2_with fail
  refine ((unhide HD) _).mono ?_
  rintro e w5 ⟨do_, dcap, rfl, ownD, q5⟩
  have RA := hide (RowG.q (RowG.q (RowG.q (OwnP.row ownA) q3) q4) q5)
  have RC := hide (RowG.q (OwnP.row ownC) q5)
  have RD0 := hide (OwnP.row ownD)
  obtain ⟨gd, rfl, hgd⟩ : ∃ gd, do_ = some ⟨gd, 0, none⟩ ∧ gd < w5.heap.size := by
    obtain ⟨gd, h1, _, h2, _⟩ := own_some pv_len (by decide) (by simp) ownD
    exact ⟨gd, h1, h2⟩
  have q := q1.trans (q2.trans (q3.trans (q4.trans q5)))
  have dcap1 : r.length + 1 ≤ dcap := by have := (own_le ownD).1; simpa using this
  clear ownA ownC ownD q1 q2 q3 q4 q5
  have RD := RD0
  clear RD0
  have d0 : w5.cell? ⟨gd, 0, none⟩ = some (.bool false) := by
    rcases unhide RD with h | ⟨g, o, e, _, hc⟩
    · cases h
    · cases e; exact hc 0 0 (false, m) _ rfl (by decide) rfl
  go_wp2_with fail
  refine (num_any _ _).mono ?_
  rintro e w5' ⟨rfl, rfl⟩
  go_wp2_with fail
  refine (num_any _ _).mono ?_
  rintro e w5'' ⟨rfl, rfl⟩
  go_wp2_with (at_builtin; refine wpList_append_row rfl _ _ 22 rfl w5''.heap.size 39 i0 (.agg #[.bool false, .string ByteArray.empty]) 2 24 Try.underlying22 hi hz0 hz1 hz2 rfl (by decide) none 0 0 [] rfl (World.ownsRow_nil _ _ _ _) ao ps.length acap (lay pv ps) rfl (SrcRow.row pv_len (by decide) (unhide RA)) (one_lay ps) (by unfold maxLen; omega) (by omega) (Nat.le_refl _) ?_)
  intro allo allc w6 own6 grow6
  have hq6 : Q w5'' w6 := Below.grown (Q.refl _) grow6 (Nat.le_refl _) (fun r hr => by cases hr)
  have hb6 := own_le own6
  rcases hcase with ⟨l, hla, hcs⟩ | ⟨hnt, hcs⟩
  · have HCS := hide hcs
    have h0 : ps ≠ [] := by intro e; subst e; simp at hla
    have hl1 : 1 ≤ ps.length := List.length_pos_iff.2 h0
    have HLE : ps.length + r.length = cs.length := by rw [hcs]; simp; omega
    clear hcs
    obtain ⟨g, rfl, hgB, hg, hf, hcc⟩ := own_some pv_len (by decide) hl1 own6
    have HLA := hide (last_is hla)
    have hll : l.length ≤ 2064 := ham _ (List.mem_of_getLast? hla)
    have c0 : w6.cell? ⟨g, (ps.length - 1) * 2, none⟩ = some (.bool false) := hcc _ 0 _ _ (unhide HLA) (by decide) rfl
    have c1 : w6.cell? ⟨g, (ps.length - 1) * 2 + 1, none⟩ = some (.string ⟨l.toArray⟩) := hcc _ 1 _ _ (unhide HLA) (by decide) rfl
    have hfr := hf ((ps.length - 1) * 2 + 1)
    have d1 : w6.cell? ⟨gd, 1, none⟩ = some (.string ⟨m.toArray⟩) := by
      rcases RowG.q (unhide RD) hq6 with h | ⟨g, o, e, _, hc⟩
      · cases h
      · cases e; exact hc 0 1 (false, m) _ rfl (by decide) rfl
    have hz5 : (⟨l.toArray⟩ : ByteArray).size = l.length := by rw [← bl_size]; rfl
    have hz6 : (⟨m.toArray⟩ : ByteArray).size = m.length := by rw [← bl_size]; rfl
    have HST := hide (own_set pv_len own6 (ps.length - 1) 1 (false, l) (false, l ++ m) (.string (⟨l.toArray⟩ ++ ⟨m.toArray⟩)) (unhide HLA) (by decide) (by
      show [Value.bool false, .string ⟨(l ++ m).toArray⟩] = [Value.bool false, .string (⟨l.toArray⟩ ++ ⟨m.toArray⟩)]
      rw [show (⟨l.toArray⟩ ++ ⟨m.toArray⟩ : ByteArray) = ⟨(l ++ m).toArray⟩ from of_bl (by rw [bl_app]; rfl)]))
    have hq6' : Q w5'' (w6.setCell ⟨g, (ps.length - 1) * 2 + 1, none⟩ (.string (⟨l.toArray⟩ ++ ⟨m.toArray⟩))) := Below.setCell hq6 hgB _
    have HRT := hide (RowG.tail (RowG.q (unhide RD) hq6'))
    have dcap2 : (1 : Int) ≤ (r.length + 1 : Nat) := by omega
    clear hf hcc own6 h0 RD
    by_cases hd : dcap = 1
    · have hr0 : r = [] := List.eq_nil_of_length_eq_zero (by omega)
      subst hr0
      subst hd
      have HLE2 : Hid (ps.length = cs.length) := by show _ = _; simpa using HLE
      have hbl2 : qs.length ≤ 1 := by simpa using hbl
      clear HLE hbl dcap1 dcap2 hrl
      go_wp2_with fail
      go_region
      go_wp2_with (at_builtin; refine wpList_append_row rfl _ _ 22 rfl w5''.heap.size 39 i0 (.agg #[.bool false, .string ByteArray.empty]) 2 24 Try.underlying22 hi hz0 hz1 hz2 rfl (by decide) (some ⟨g, 0, none⟩) ps.length allc (lay pv (ps.set (ps.length - 1) (false, l ++ m))) rfl (unhide HST) (some ⟨gd, 0, none⟩) 0 0 [] rfl ⟨rfl, Or.inl ⟨rfl, rfl⟩⟩ (fun u hu => by cases hu) (by unfold maxLen; omega) (by omega) hq6'.size ?_)
      intro allo2 allc2 w7 own7 grow7
      have own8 : w7.ownsRow w5''.heap.size 39 2 (.slice allo2 cs.length allc2) cs.length (lay pv (ps.set (ps.length - 1) (false, l ++ m))) := by rw [← unhide HLE2]; simpa using own7
      try rw [Nat.add_zero]
      rw [unhide HLE2]
      have hq7 : Q w5'' w7 := Below.grown hq6'.drew grow7 hq6'.size (fun r hr => ((unhide HST).lt r hr).1)
      have HO7 : Hid (OwnP w7 w5''.heap.size allo2 allc2 cs) := by
        have e : lay pv cs = lay pv (ps.set (ps.length - 1) (false, l ++ m)) := by
          rw [unhide HCS, ← set_last hla]
        show World.ownsRow _ _ _ _ _ _ (lay pv cs)
        rw [e]; exact own8
      have RC7 := hide (RowG.q (unhide RC) hq7)
      have qq := q.trans hq7
      clear grow6 own7 own8 grow7 hq7 hq6 hq6' q RC HRT HST hla
      go_wp2_with fail
      refine (same_any co allo2 ccap allc2 cs cs _ (unhide RC7) (OwnP.row (unhide HO7)) (by omega)).mono ?_
      rintro e w8 ⟨rfl, q8⟩
      rw [decide_eq_true (rfl : cs = cs)]
      go_wp2_with fail
      go_ret
      exact ⟨ret_bool (decide_eq_true (by omega)), qq.trans q8⟩
    · go_wp2_with fail
      go_region
      go_wp2_with (at_builtin; refine wpList_append_row rfl _ _ 22 rfl w5''.heap.size 39 i0 (.agg #[.bool false, .string ByteArray.empty]) 2 24 Try.underlying22 hi hz0 hz1 hz2 rfl (by decide) (some ⟨g, 0, none⟩) ps.length allc (lay pv (ps.set (ps.length - 1) (false, l ++ m))) rfl (unhide HST) (some ⟨gd, 0 + 2, none⟩) r.length (dcap - 1) (lay pv r) rfl (SrcRow.row pv_len (by decide) (unhide HRT)) (one_lay _) (by unfold maxLen; omega) (by omega) hq6'.size ?_)
      intro allo2 allc2 w7 own7 grow7
      have hq7 : Q w5'' w7 := Below.grown hq6'.drew grow7 hq6'.size (fun r hr => ((unhide HST).lt r hr).1)
      have HO7 : Hid (OwnP w7 w5''.heap.size allo2 allc2 cs) := by
        have e : lay pv cs = lay pv (ps.set (ps.length - 1) (false, l ++ m)) ++ lay pv r := by
          rw [unhide HCS, ← lay_app, ← set_last hla, List.append_assoc]; rfl
        show World.ownsRow _ _ _ _ _ _ (lay pv cs)
        rw [e]; exact own7
      have RC7 := hide (RowG.q (unhide RC) hq7)
      have qq := q.trans hq7
      clear grow6 own7 grow7 hq7 hq6 hq6' q RC HRT HST hla
      go_wp2_with fail
      refine (same_any co allo2 ccap allc2 cs cs _ (unhide RC7) (OwnP.row (unhide HO7)) (by omega)).mono ?_
      rintro e w8 ⟨rfl, q8⟩
      rw [decide_eq_true (rfl : cs = cs)]
      go_wp2_with fail
      go_ret
      exact ⟨ret_bool (decide_eq_true (by omega)), qq.trans q8⟩
  · have HCS := hide hcs
    have HLE : ps.length + (r.length + 1) = cs.length := by rw [hcs]; simp
    clear hcs
    by_cases h0 : ps = []
    · have hl2 : (ps.length : Int) ≤ 0 := by rw [h0]; simp
      clear h0 hnt
      go_wp2_with (at_builtin; refine wpList_append_row rfl _ _ 22 rfl w5''.heap.size 39 i0 (.agg #[.bool false, .string ByteArray.empty]) 2 24 Try.underlying22 hi hz0 hz1 hz2 rfl (by decide) allo ps.length allc (lay pv ps) rfl own6 (some ⟨gd, 0, none⟩) (r.length + 1) dcap (lay pv ((false, m) :: r)) rfl (SrcRow.row pv_len (by decide) (RowG.q (unhide RD) hq6)) (one_lay _) (by unfold maxLen; omega) (by omega) hq6.size ?_)
      intro allo2 allc2 w7 own7 grow7
      have hq7 : Q w5'' w7 := Below.grown hq6 grow7 hq6.size (fun r hr => (own6.lt r hr).1)
      have HO7 : Hid (OwnP w7 w5''.heap.size allo2 allc2 cs) := by
        show World.ownsRow _ _ _ _ _ _ (lay pv cs)
        rw [unhide HCS, lay_app, ← unhide HCS]; exact own7
      have RC7 := hide (RowG.q (unhide RC) hq7)
      have qq := q.trans hq7
      clear own6 grow6 own7 grow7 hq7 hq6 q RC
      go_wp2_with fail
      refine (same_any co allo2 ccap allc2 cs cs _ (unhide RC7) (OwnP.row (unhide HO7)) (by omega)).mono ?_
      rintro e w8 ⟨rfl, q8⟩
      rw [decide_eq_true (rfl : cs = cs)]
      go_wp2_with fail
      go_ret
      exact ⟨ret_bool (decide_eq_true (by omega)), qq.trans q8⟩
    · have hl1 : 1 ≤ ps.length := List.length_pos_iff.2 h0
      obtain ⟨g, rfl, hgB, hg, hf, hcc⟩ := own_some pv_len (by decide) hl1 own6
      have hlv : ∃ l, ps[ps.length - 1]? = some (true, l) := by
        cases hp : ps.getLast? with
        | none => exact absurd (List.getLast?_eq_none_iff.1 hp) h0
        | some p =>
          obtain ⟨b, l⟩ := p
          cases b
          · exact absurd hp (hnt l)
          · exact ⟨l, last_is hp⟩
      obtain ⟨l, hla⟩ := hlv
      have c0 : w6.cell? ⟨g, (ps.length - 1) * 2, none⟩ = some (.bool true) := hcc _ 0 _ _ hla (by decide) rfl
      clear hcc hla h0 hf hnt
      go_wp2_with (at_builtin; refine wpList_append_row rfl _ _ 22 rfl w5''.heap.size 39 i0 (.agg #[.bool false, .string ByteArray.empty]) 2 24 Try.underlying22 hi hz0 hz1 hz2 rfl (by decide) (some ⟨g, 0, none⟩) ps.length allc (lay pv ps) rfl own6 (some ⟨gd, 0, none⟩) (r.length + 1) dcap (lay pv ((false, m) :: r)) rfl (SrcRow.row pv_len (by decide) (RowG.q (unhide RD) hq6)) (one_lay _) (by unfold maxLen; omega) (by omega) hq6.size ?_)
      intro allo2 allc2 w7 own7 grow7
      have hq7 : Q w5'' w7 := Below.grown hq6 grow7 hq6.size (fun r hr => (own6.lt r hr).1)
      have HO7 : Hid (OwnP w7 w5''.heap.size allo2 allc2 cs) := by
        show World.ownsRow _ _ _ _ _ _ (lay pv cs)
        rw [unhide HCS, lay_app, ← unhide HCS]; exact own7
      have RC7 := hide (RowG.q (unhide RC) hq7)
      have qq := q.trans hq7
      clear own6 grow6 own7 grow7 hq7 hq6 q RC
      go_wp2_with fail
      refine (same_any co allo2 ccap allc2 cs cs _ (unhide RC7) (OwnP.row (unhide HO7)) (by omega)).mono ?_
      rintro e w8 ⟨rfl, q8⟩
      rw [decide_eq_true (rfl : cs = cs)]
      go_wp2_with fail
      go_ret
      exact ⟨ret_bool (decide_eq_true (by omega)), qq.trans q8⟩

theorem pieceTwo_any (s : ByteArray) (hs : s.size ≤ maxLen) (t : ByteArray) (ht : t.size ≤ maxLen) (w : World) :
    Calls Try.prog 6 #[.string s, .string t] w fun e w' => e = .returned (.bool true) ∧ Q w w' := by
  rcases cutE_or (bl s) with h1 | h1
  · rcases cutE_or (bl t) with h2 | h2
    · by_cases h3 : 900 < s.size
      · exact two_early s t w hs ht (Or.inr (Or.inr (Or.inl ⟨h1, h2, h3⟩)))
      by_cases h4 : 900 < t.size
      · exact two_early s t w hs ht (Or.inr (Or.inr (Or.inr ⟨h1, h2, by omega, h4⟩)))
      obtain ⟨m, r, e1, e2, e3, e4, e5⟩ := two_facts h1 h2 (by rw [bl_size]; omega) (by rw [bl_size]; omega)
      have f1 := cutP_facts (bl s)
      have f2 := cutP_facts (36 :: 58 :: bl t)
      have f3 := cutP_facts (bl s ++ 36 :: 58 :: bl t)
      rw [e1] at f2
      simp only [List.length_cons] at f2 e4
      refine two_main s t w (by omega) (by omega) (cutP (bl s)) (cutP (bl t)) (cutP (bl s ++ 36 :: 58 :: bl t)) r m
        (fun w => cut_at s w hs ⟨rfl, h1⟩) (fun w => cut_at t w ht ⟨rfl, h2⟩)
        (fun w => cut_at _ w (by rw [sz_app, sz_app]; unfold maxLen; have : (⟨#[36, 58]⟩ : ByteArray).size = 2 := rfl; omega) ⟨by rw [bl_two], by rw [bl_two]; exact e3⟩)
        (fun w => cut_at (ps := (false, m) :: r) _ w (by rw [sz_app]; unfold maxLen; have : (⟨#[36, 58]⟩ : ByteArray).size = 2 := rfl; omega) ⟨by rw [bl_one]; exact e1, by rw [bl_one]; exact e2⟩)
        f1.1 e4 f3.1 (by omega) (f2.2 (false, m) (by simp)) f1.2 e5
    · exact two_early s t w hs ht (Or.inr (Or.inl ⟨h1, h2⟩))
  · exact two_early s t w hs ht (Or.inl h1)

set_option maxRecDepth 100000 in
theorem pieceTwo_lifted (os : Os) (started : os.Started) (H : Type) (enc : TypeId × Value → H) :
    ReturnsInHanded {} Try.checked os 6 .any (Rows.pieceTwoSpec.pre6 enc Try.prog Try.f6 Rows.pieceTwoRow.domain false) (Rows.pieceTwoSpec.post enc Try.prog Try.f6 false true false false) := by
  refine returnsInHanded_of_change (C := Try.checked) Try.own started (by kernel_rfl) Try.func6
    (ChangeSpec.witness6 (enc := enc) (C := Try.checked) false ⟨#[], #[.string ByteArray.empty, .string ByteArray.empty], []⟩ 8 (by kernel_rfl) (by kernel_rfl) (by kernel_rfl) (by kernel_rfl)) ?_
  intro W base args ds gs before hval0 hW hcnd _
  have hval : ∀ (j : Nat) t v, Try.f6.params[j]? = some t → args[j]? = some v → Value.okWide Try.prog W .any base t v := hval0
  have hW' := hW
  obtain ⟨p, q, hA0, hV, rfl, hfz, hnd⟩ := hW
  have hA : DataW.TrodAll enc Try.prog W 0 (fun _ => true) true Try.f6.params.toList args.toList ds p := hA0
  rw [Try.params6] at hA hval
  obtain ⟨v0, vs0, d0, ds0, p0, q0, hargs, rfl, rfl, h0, r0⟩ := trodAll_cons hA
  obtain ⟨v1, vs1, d1, ds1, p1, q1, rfl, rfl, rfl, h1, r1⟩ := trodAll_cons r0
  obtain ⟨rfl, rfl, rfl⟩ := trodAll_nil r1
  obtain rfl : args = #[v0, v1] := by cases args; simp_all
  obtain ⟨rfl, rfl⟩ := trodVars_none hV
  obtain ⟨a0, rfl, rfl, rfl, w0⟩ := open_string Try.underlying9 (hval 0 9 v0 rfl rfl) h0
  obtain ⟨a1, rfl, rfl, rfl, w1⟩ := open_string Try.underlying9 (hval 1 9 v1 rfl rfl) h1
  clear hA0 hval0
  simp only [List.append_nil] at hW'
  refine (pieceTwo_any a0 w0 a1 w1 W).mono fun e W' ⟨he, bel⟩ => ?_
  subst he
  exact ⟨_, rfl, _, _, _, [], [], [], hW', trodAll_mk1 (shut_bool Try.underlying4 _), (trodAll_cons_mk (shut_string Try.underlying9 w0) (trodAll_cons_mk (shut_string Try.underlying9 w1) trodAll_mk0)), rfl, bel.frame _, fun h => by cases h⟩

theorem pieceTwo_holds : Rows.PieceTwoSaid :=
  OpenClaim.holds_of_wide 6 Try.f6 rfl rfl rfl rfl rfl rfl rfl ⟨rfl, rfl, rfl, rfl, rfl⟩ rfl rfl rfl rfl rfl (by kernel_rfl) Try.func6 (by kernel_rfl)
    (of_decide_eq_true (by kernel_rfl)) (by unfold Func.isWrapper; first | (rw [if_pos (by decide +kernel)]; kernel_rfl) | (rw [if_neg (by decide +kernel)]; exact ⟨rfl, rfl⟩))
    (fun os started H enc _ => pieceTwo_lifted os started H enc)
#print axioms pieceTwo_holds
end Go.Proofs.Yteoldaibnndnfaa
