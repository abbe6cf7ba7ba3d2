/- The statement on the parts of a name holds for every text and every cut: a text of at most sixteen bytes is a name just if each half that is not empty is one; no conditions. -/
import Derived.Test.YtpdficlpkchdlaaRows
import Derived.Test.YtpdficlpkchdlaaNmAwake
import Derived.ProofKit
import Derived.OpenShut
import Derived.ShutString
import Derived.ChangeOld
import Derived.Below
import Derived.Deep.QuietTactic
import Derived.BigQuiet
namespace Go.Proofs.Ytpdficlpkchdlaa
open Go.ChangeShapes Go.WideShapes Go.ChangeAt Go.RowKit
open Go.ChangeMaps (open_string shut_string)

theorem cut_k (n : Nat) (hn : n ≤ 2 ^ 63 - 1) (cut : Int) :
    ∃ k : Nat, k ≤ n ∧ wrap64 ((IntKind.u64.wrap cut).tmod (IntKind.u64.wrap (wrap64 ((n : Int) + 1)))) = (k : Int) ∧ wrap64 ((IntKind.u64.wrap cut).tmod ((n : Int) + 1)) = (k : Int) ∧ ¬ IntKind.u64.wrap (wrap64 ((n : Int) + 1)) = 0 := by
  have e1 : IntKind.u64.wrap (wrap64 ((n : Int) + 1)) = (n : Int) + 1 := by
    rw [IntKind.wrap_u64]; simp only [wrap64]; omega
  rw [e1]
  have h0 : 0 ≤ IntKind.u64.wrap cut := by rw [IntKind.wrap_u64]; omega
  rw [Int.tmod_eq_emod_of_nonneg h0]
  have a := Int.emod_nonneg (IntKind.u64.wrap cut) (show (n : Int) + 1 ≠ 0 by omega)
  have b := Int.emod_lt_of_pos (IntKind.u64.wrap cut) (show 0 < (n : Int) + 1 by omega)
  generalize IntKind.u64.wrap cut % ((n : Int) + 1) = r at a b
  have e : wrap64 r = ((r.toNat : Nat) : Int) := by simp only [wrap64]; omega
  exact ⟨r.toNat, by omega, e, e, by omega⟩

theorem left_list (s : ByteArray) (k : Nat) : (s.extract 0 k).data.toList = s.data.toList.take k := by
  simp [ByteArray.data_extract]
theorem right_list (s : ByteArray) (k : Nat) : (s.extract k s.size).data.toList = s.data.toList.drop k := by
  have e : s.data.toList.length = s.size := by simp
  simp [ByteArray.data_extract, List.take_of_length_le, e]
theorem parts_ok (s : ByteArray) (k : Nat) : allOk s.data.toList = (allOk (s.extract 0 k).data.toList && allOk (s.extract k s.size).data.toList) := by
  rw [left_list, right_list, ← allOk_append, List.take_append_drop]
theorem may_mid (s : ByteArray) (h1 : 1 ≤ s.size) (h2 : s.size ≤ 16) : mayB s = allOk s.data.toList := by
  unfold mayB; simp [h1, h2]
theorem allOk_empty (s : ByteArray) (h : s.size = 0) : allOk s.data.toList = true := by
  have : s.data.toList = [] := by apply List.eq_nil_of_length_eq_zero; simpa using h
  rw [this]; rfl
theorem toList_nil (s : ByteArray) (h : s.size = 0) : s.toList = [] := by
  rw [ByteArray.toList_eq]; apply List.eq_nil_of_length_eq_zero; simpa using h
theorem toList_cons (s : ByteArray) (h : ¬ s.size = 0) : ¬ s.toList = [] := by
  rw [ByteArray.toList_eq]; intro e; apply h
  have := congrArg List.length e
  simpa using this
theorem isEmpty_cons {l : List UInt8} (h : ¬ l = []) : l.isEmpty = false := by
  cases l with
  | nil => exact absurd rfl h
  | cons => rfl
theorem size_left (s : ByteArray) (k : Nat) (hk : k ≤ s.size) : (s.extract 0 k).size = k := by simp; omega
theorem size_right (s : ByteArray) (k : Nat) : (s.extract k s.size).size = s.size - k := by simp

set_option maxHeartbeats 4000000 in
theorem nameParts_long (s : ByteArray) (hs : s.size ≤ maxLen) (k : Nat) (hk : k ≤ s.size) (cut : Int) (hm : mayB s = false) (hsz : 16 < s.size)
    (e1 : wrap64 ((IntKind.u64.wrap cut).tmod (IntKind.u64.wrap (wrap64 ((s.size : Int) + 1)))) = (k : Int)) (e2 : ¬ IntKind.u64.wrap (wrap64 ((s.size : Int) + 1)) = 0) (w : World) :
    Calls Try.prog 5 #[.string s, .int .i64 cut] w fun e w' => e = .returned (.bool true) ∧ Q w w' := by
  have hs' := hs
  unfold maxLen at hs'
  have hk0 : (0 : Int) ≤ k := by omega
  have hk1 : (k : Int) ≤ s.size := by omega
  have LA := hide (show (s.extract 0 k).size ≤ maxLen by unfold maxLen; simp; omega)
  have LB := hide (show (s.extract k s.size).size ≤ maxLen by unfold maxLen; simp; omega)
  have LS := hide hs
  clear hs
  have hz : ((s.size : Int) == 0) = false := beq_eq_false_iff_ne.2 (by omega)
  have hz2 : (16 : Int) < (s.size : Int) := by omega
  have A0 : (s.extract 0 k).toList = [] ∨ (¬ (s.extract 0 k).toList = [] ∧ (k : Int) ≤ 16) ∨ (¬ (s.extract 0 k).toList = [] ∧ (16 : Int) < k) := by
    by_cases h : k = 0
    · exact .inl (toList_nil _ (by rw [size_left s k hk]; exact h))
    · have := toList_cons (s.extract 0 k) (by rw [size_left s k hk]; exact h)
      by_cases h : k ≤ 16
      · exact .inr (.inl ⟨this, by omega⟩)
      · exact .inr (.inr ⟨this, by omega⟩)
  have B0 : (s.extract k s.size).toList = [] ∨ (¬ (s.extract k s.size).toList = [] ∧ ((s.size - k : Nat) : Int) ≤ 16) ∨ (¬ (s.extract k s.size).toList = [] ∧ (16 : Int) < ((s.size - k : Nat) : Int)) := by
    by_cases h : s.size - k = 0
    · exact .inl (toList_nil _ (by rw [size_right s k]; exact h))
    · have := toList_cons (s.extract k s.size) (by rw [size_right s k]; exact h)
      by_cases h : s.size - k ≤ 16
      · exact .inr (.inl ⟨this, by omega⟩)
      · exact .inr (.inr ⟨this, by omega⟩)
  go_enter Try.func5, Try.ntmps5
  go_wp2_with fail
  refine (awake_any _).mono ?_
  rintro e w1 ⟨rfl, q1⟩
  go_wp2_with fail
  go_quiet (fail)
  rcases A0 with a1 | ⟨a1, a2⟩ | ⟨a1, a2⟩ <;> rcases B0 with b1 | ⟨b1, b2⟩ | ⟨b1, b2⟩
  all_goals
    go_wp2_with (go_at_call 7; refine (may_any _ _ (by first | exact unhide LA | exact unhide LB | exact unhide LS)).mono ?_; rintro e wx ⟨rfl, qx⟩)
  all_goals
    go_ret
    exact ⟨rfl, by repeat (first | exact Q.refl _ | assumption | refine Q.drewN ?_ _ | refine Q.trans ?_ (by assumption))⟩

set_option maxHeartbeats 4000000 in
theorem nameParts_none (cut : Int) (w : World) :
    Calls Try.prog 5 #[.string ByteArray.empty, .int .i64 cut] w fun e w' => e = .returned (.bool true) ∧ Q w w' := by
  go_enter Try.func5, Try.ntmps5
  go_wp2_with fail
  refine (awake_any _).mono ?_
  rintro e w1 ⟨rfl, q1⟩
  go_wp2_with fail
  go_quiet (fail)
  go_wp2_with (go_at_call 7; refine (may_any _ _ (by unfold maxLen; decide)).mono ?_; rintro e wx ⟨rfl, qx⟩)
  go_ret
  exact ⟨ret_bool (by decide), by repeat (first | exact Q.refl _ | assumption | refine Q.drewN ?_ _ | refine Q.trans ?_ (by assumption))⟩

set_option maxHeartbeats 4000000 in
theorem nameParts_short (s : ByteArray) (hs : s.size ≤ maxLen) (k : Nat) (hk : k ≤ s.size) (cut : Int) (hz1 : 1 ≤ s.size) (hz2 : s.size ≤ 16)
    (e1 : wrap64 ((IntKind.u64.wrap cut).tmod ((s.size : Int) + 1)) = (k : Int)) (w : World) :
    Calls Try.prog 5 #[.string s, .int .i64 cut] w fun e w' => e = .returned (.bool true) ∧ Q w w' := by
  have hk0 : (0 : Int) ≤ k := by omega
  have hk1 : (k : Int) ≤ s.size := by omega
  have LA := hide (show (s.extract 0 k).size ≤ maxLen by unfold maxLen; simp; omega)
  have LB := hide (show (s.extract k s.size).size ≤ maxLen by unfold maxLen; simp; omega)
  have LS := hide hs
  clear hs
  have hz : ((s.size : Int) == 0) = false := beq_eq_false_iff_ne.2 (by omega)
  have hz3 : (s.size : Int) ≤ 16 := by omega
  have a2 : (k : Int) ≤ 16 := by omega
  have b2 : ((s.size - k : Nat) : Int) ≤ 16 := by omega
  have C : ((s.extract 0 k).toList = [] ∧ ¬ (s.extract k s.size).toList = [] ∧ mayB (s.extract k s.size) = mayB s)
      ∨ (¬ (s.extract 0 k).toList = [] ∧ mayB (s.extract 0 k) = false ∧ mayB s = false)
      ∨ (¬ (s.extract 0 k).toList = [] ∧ mayB (s.extract 0 k) = true ∧ (s.extract k s.size).toList = [] ∧ mayB s = true)
      ∨ (¬ (s.extract 0 k).toList = [] ∧ mayB (s.extract 0 k) = true ∧ ¬ (s.extract k s.size).toList = [] ∧ mayB (s.extract k s.size) = mayB s) := by
    have hp := parts_ok s k
    rw [may_mid s hz1 hz2]
    have sl := size_left s k hk
    have sr := size_right s k
    by_cases h : k = 0
    · refine .inl ⟨toList_nil _ (by omega), toList_cons _ (by omega), ?_⟩
      rw [may_mid _ (by omega) (by omega), hp, allOk_empty (s.extract 0 k) (by omega), Bool.true_and]
    · have ha := toList_cons (s.extract 0 k) (by omega)
      cases hm : mayB (s.extract 0 k)
      · refine .inr (.inl ⟨ha, rfl, ?_⟩)
        rw [may_mid _ (by omega) (by omega)] at hm
        rw [hp, hm, Bool.false_and]
      · rw [may_mid _ (by omega) (by omega)] at hm
        by_cases h2 : s.size - k = 0
        · refine .inr (.inr (.inl ⟨ha, rfl, toList_nil _ (by omega), ?_⟩))
          rw [hp, hm, allOk_empty (s.extract k s.size) (by omega), Bool.and_true]
        · refine .inr (.inr (.inr ⟨ha, rfl, toList_cons _ (by omega), ?_⟩))
          rw [may_mid _ (by omega) (by omega), hp, hm, Bool.true_and]
  go_enter Try.func5, Try.ntmps5
  go_wp2_with fail
  refine (awake_any _).mono ?_
  rintro e w1 ⟨rfl, q1⟩
  go_wp2_with fail
  go_quiet (fail)
  rcases C with ⟨a1, b1, c1⟩ | ⟨a1, c1, c2⟩ | ⟨a1, c1, b1, c2⟩ | ⟨a1, c1, b1, c2⟩
  all_goals
    go_wp2_with (first | (go_at_call 7; refine (may_any _ _ (by first | exact unhide LA | exact unhide LB | exact unhide LS)).mono ?_; rintro e wx ⟨rfl, qx⟩) | (go_at_call 6; refine (num_any _ _).mono ?_; rintro e wy ⟨rfl, rfl⟩))
  all_goals
    go_ret
    refine ⟨ret_bool ?_, by repeat (first | exact Q.refl _ | assumption | refine Q.drewN ?_ _ | refine Q.trans ?_ (by assumption))⟩
    first
      | rfl
      | (rw [isEmpty_cons b1, show decide ((16 : Int) < ((s.size - k : Nat) : Int)) = false from decide_eq_false (by omega)]; simp)

theorem nameParts_any (s : ByteArray) (hs : s.size ≤ maxLen) (cut : Int) (_ : (Lit.int .i64 cut).wf = true) (w : World) :
    Calls Try.prog 5 #[.string s, .int .i64 cut] w fun e w' => e = .returned (.bool true) ∧ Q w w' := by
  obtain ⟨k, hk, e1, e2, e3⟩ := cut_k s.size (by unfold maxLen at hs; exact hs) cut
  by_cases h0 : s.size = 0
  · have e : s = ByteArray.empty := by
      apply ByteArray.ext; apply Array.eq_empty_of_size_eq_zero; simpa using h0
    subst e; exact nameParts_none cut w
  by_cases h1 : s.size ≤ 16
  · exact nameParts_short s hs k hk cut (by omega) h1 e2 w
  · exact nameParts_long s hs k hk cut (by unfold mayB; simp; omega) (by omega) e1 e3 w

set_option maxRecDepth 100000 in
theorem nameParts_lifted (os : Os) (started : os.Started) (H : Type) (enc : TypeId × Value → H) :
    ReturnsInHanded {} Try.checked os 5 .any (Rows.namePartsSpec.pre6 enc Try.prog Try.f5 Rows.namePartsRow.domain false) (Rows.namePartsSpec.post enc Try.prog Try.f5 false true false false) := by
  refine returnsInHanded_of_change (C := Try.checked) Try.own started (by kernel_rfl) Try.func5
    (ChangeSpec.witness6 (enc := enc) (C := Try.checked) false ⟨#[], #[.string ByteArray.empty, .int .i64 0], []⟩ 8 (by kernel_rfl) (by kernel_rfl) (by kernel_rfl) (by kernel_rfl)) ?_
  intro W base args ds gs before hval0 hW hcnd _
  have hval : ∀ (j : Nat) t v, Try.f5.params[j]? = some t → args[j]? = some v → Value.okWide Try.prog W .any base t v := hval0
  have hW' := hW
  obtain ⟨p, q, hA0, hV, rfl, hfz, hnd⟩ := hW
  have hA : DataW.TrodAll enc Try.prog W 0 (fun _ => true) true Try.f5.params.toList args.toList ds p := hA0
  rw [Try.params5] at hA hval
  obtain ⟨v0, vs0, d0, ds0, p0, q0, hargs, rfl, rfl, h0, r0⟩ := trodAll_cons hA
  obtain ⟨v1, vs1, d1, ds1, p1, q1, rfl, rfl, rfl, h1, r1⟩ := trodAll_cons r0
  obtain ⟨rfl, rfl, rfl⟩ := trodAll_nil r1
  obtain rfl : args = #[v0, v1] := by cases args; simp_all
  obtain ⟨rfl, rfl⟩ := trodVars_none hV
  obtain ⟨a0, rfl, rfl, rfl, w0⟩ := open_string Try.underlying9 (hval 0 9 v0 rfl rfl) h0
  obtain ⟨a1, rfl, rfl, rfl, w1⟩ := open_int Try.underlying3 (hval 1 3 v1 rfl rfl) h1
  clear hA0 hval0
  simp only [List.append_nil] at hW'
  refine (nameParts_any a0 w0 a1 w1 W).mono fun e W' ⟨he, bel⟩ => ?_
  subst he
  exact ⟨_, rfl, _, _, _, [], [], [], hW', trodAll_mk1 (shut_bool Try.underlying4 _), (trodAll_cons_mk (shut_string Try.underlying9 w0) (trodAll_cons_mk (shut_int Try.underlying3 w1) trodAll_mk0)), rfl, bel.frame _, fun h => by cases h⟩

theorem nameParts_holds : Rows.NamePartsSaid :=
  OpenClaim.holds_of_wide 5 Try.f5 rfl rfl rfl rfl rfl rfl rfl ⟨rfl, rfl, rfl, rfl, rfl⟩ rfl rfl rfl rfl rfl (by kernel_rfl) Try.func5 (by kernel_rfl)
    (of_decide_eq_true (by kernel_rfl)) (by unfold Func.isWrapper; first | (rw [if_pos (by decide +kernel)]; kernel_rfl) | (rw [if_neg (by decide +kernel)]; exact ⟨rfl, rfl⟩))
    (fun os started H enc _ => nameParts_lifted os started H enc)
#print axioms nameParts_holds
end Go.Proofs.Ytpdficlpkchdlaa
