/- The statement on texts that are refused holds for all numbers: each of sixteen forms is refused, so is what is too long, and the empty text has no pieces; no conditions. -/
import Derived.Test.YteoldaibnndnfaaRows
import Derived.ProofKit
import Derived.OpenShut
import Derived.ShutString
import Derived.ChangeOld
import Derived.Below
import Derived.SizedLaws
import Derived.Test.YteoldaibnndnfaaBitPlain
import Derived.Test.YteoldaibnndnfaaPcAwake
import Derived.Deep.OwnRows
import Derived.Laws.OwnMore
namespace Go.Proofs.Yteoldaibnndnfaa
open Go.ChangeShapes Go.WideShapes Go.ChangeAt Go.RowKit

theorem and127 (n : Int) : bits .and .i64 n 127 = n % 128 := by
  show IntKind.i64.wrap ((BitVec.ofInt 64 n &&& BitVec.ofInt 64 127).toNat : Int) = _
  rw [BitVec.toNat_and, show (BitVec.ofInt 64 127).toNat = 2 ^ 7 - 1 from rfl, Nat.and_two_pow_sub_one_eq_mod, BitVec.toNat_ofInt, IntKind.wrap_i64]; omega

def pforms : List (List UInt8) := [[36], [97, 36], [36, 45], [36, 123], [36, 123, 125], [36, 123, 97], [36, 123, 97, 45, 125], [36, 46], [36, 10], [97, 9, 98], [36, 123, 65, 125], [36, 65],
  [36, 97, 98, 99, 100, 101, 102, 103, 104, 105, 106, 107, 108, 109, 110, 111, 112, 113], [36, 123, 97, 98, 99, 100, 101, 102, 103, 104, 105, 106, 107, 108, 109, 110, 111, 112, 113, 125], [127], [36, 36, 36]]
theorem pforms_bad : ∀ l ∈ pforms, l.length ≤ 100 ∧ cutP l = [] ∧ cutE l = 300 := by decide +kernel
theorem pforms_at (r : Nat) (h : r < 16) : ∃ t : ByteArray, (pforms.map fun l => Value.string ⟨l.toArray⟩)[r]'(by rw [List.length_map]; exact h) = .string t ∧ t.size ≤ 100 ∧ cutP (bl t) = [] ∧ cutE (bl t) = 300 := by
  have hl : r < pforms.length := h
  obtain ⟨h1, h2⟩ := pforms_bad pforms[r] (List.getElem_mem hl)
  exact ⟨⟨pforms[r].toArray⟩, by rw [List.getElem_map], by rw [← bl_size]; exact h1, h2⟩

theorem zeros_size (n : Nat) : (⟨(List.replicate n 0).toArray⟩ : ByteArray).size = n := by rw [← bl_size, bl_mk, List.length_replicate]

theorem made_get (z : Value) (n j : Nat) (h : j < n) : (madeCells #[z] n)[j]? = some z := by
  rw [← Array.getElem?_toList, toList_madeCells_one, List.getElem?_replicate, if_pos h]

theorem str_zeros (n : Nat) (W : World) :
    (convert 34 9 (.slice (some ⟨W.heap.size, 0, none⟩) n n)).run Try.prog (W.alloc (.cells (madeCells #[.int .u8 0] n) 5)) = .ok (.string ⟨(List.replicate n 0).toArray⟩) (W.alloc (.cells (madeCells #[.int .u8 0] n) 5)) := by
  have h := run_convert_bytes_back (P := Try.prog) (W.alloc (.cells (madeCells #[.int .u8 0] n) 5)) 34 9 5 ⟨W.heap.size, 0, none⟩ n (List.replicate n 0) Try.underlying34 Try.underlying5 Try.underlying9 (by
    intro j hj
    have hj' : j < n := by simpa using hj
    refine news_new W _ 5 j _ ?_
    rw [Array.getElem?_toList, made_get _ n j hj']
    simp)
  rw [List.length_replicate] at h
  exact h

set_option maxHeartbeats 2000000 in
theorem pieceForms_any (a : Int) (_ : (Lit.int .i64 a).wf = true) (b : Int) (_ : (Lit.int .i64 b).wf = true) (w : World) :
    Calls Try.prog 4 #[.int .i64 a, .int .i64 b] w fun e w' => e = .returned (.bool true) ∧ Q w w' := by
  have h15 := and15 a
  have h127 := and127 b
  obtain ⟨r, hr⟩ : ∃ r : Nat, a % 16 = (r : Int) := ⟨(a % 16).toNat, by omega⟩
  have hr16 : r < 16 := by omega
  obtain ⟨d, hd⟩ : ∃ d : Nat, b % 128 = (d : Int) := ⟨(b % 128).toNat, by omega⟩
  have hd128 : d < 128 := by omega
  rw [hr] at h15
  rw [hd] at h127
  clear hr hd
  go_enter Try.func4, Try.ntmps4
  go_wp2_with fail
  refine (pcawake_any _).mono ?_
  rintro e w1 ⟨rfl, q1⟩
  have hmk : ∀ w : World, (Instr.makeSlice 34 (.int .i64 (2048 + (1 + (d : Int)))) (.int .i64 (2048 + (1 + (d : Int))))).run Try.prog w = .ok (.slice (some ⟨w.heap.size, 0, none⟩) (2049 + d) (2049 + d)) (w.alloc (.cells (madeCells #[.int .u8 0] (2049 + d)) 5)) := by
    intro w
    rw [show (2048 + (1 + (d : Int))) = ((2049 + d : Nat) : Int) by omega]
    exact run_make_row' (P := Try.prog) 34 5 (.int .u8 0) 1 Try.underlying34 Try.infoB rfl .i64 .i64 (2049 + d) (by omega) (by omega) w
  have hst := str_zeros (2049 + d)
  go_wp2_with fail
  obtain ⟨t, ht, ht1, ht2⟩ := pforms_at r hr16
  simp only [pforms, List.map_cons, List.map_nil] at ht
  rw [ht]
  clear ht
  refine (cut_at (ps := []) (n := 300) t _ (by unfold maxLen; omega) ht2).mono ?_
  rintro e w2 ⟨ao, cap, rfl, _, q2⟩
  have q12 := q1.trans (((Q.refl _).alloc _).trans q2)
  clear q1 q2
  go_wp2_with fail
  refine (cut_at (ps := []) (n := 300) ⟨(List.replicate (2049 + d) 0).toArray⟩ _ (by rw [zeros_size]; unfold maxLen; omega) (cut_long (by rw [bl_size, zeros_size]; omega))).mono ?_
  rintro e w3 ⟨ao3, cap3, rfl, _, q3⟩
  have q13 := q12.trans (((Q.refl _).alloc _).trans q3)
  clear q12 q3
  go_wp2_with fail
  refine (cut_at (ps := []) (n := 0) _ _ (by unfold maxLen; decide) (by decide +kernel)).mono ?_
  rintro e w4 ⟨ao4, cap4, rfl, _, q4⟩
  have q14 := q13.trans q4
  clear q13 q4
  go_wp2_with (go_at_call 10; refine (num_any _ _).mono ?_; rintro e w' ⟨rfl, rfl⟩)
  go_ret
  exact ⟨rfl, q14⟩

set_option maxRecDepth 100000 in
theorem pieceForms_lifted (os : Os) (started : os.Started) (H : Type) (enc : TypeId × Value → H) :
    ReturnsInHanded {} Try.checked os 4 .any (Rows.pieceFormsSpec.pre6 enc Try.prog Try.f4 Rows.pieceFormsRow.domain false) (Rows.pieceFormsSpec.post enc Try.prog Try.f4 false true false false) := by
  refine returnsInHanded_of_change (C := Try.checked) Try.own started (by kernel_rfl) Try.func4
    (ChangeSpec.witness6 (enc := enc) (C := Try.checked) false ⟨#[], #[.int .i64 0, .int .i64 0], []⟩ 8 (by kernel_rfl) (by kernel_rfl) (by kernel_rfl) (by kernel_rfl)) ?_
  intro W base args ds gs before hval0 hW hcnd _
  have hval : ∀ (j : Nat) t v, Try.f4.params[j]? = some t → args[j]? = some v → Value.okWide Try.prog W .any base t v := hval0
  have hW' := hW
  obtain ⟨p, q, hA0, hV, rfl, hfz, hnd⟩ := hW
  have hA : DataW.TrodAll enc Try.prog W 0 (fun _ => true) true Try.f4.params.toList args.toList ds p := hA0
  rw [Try.params4] at hA hval
  obtain ⟨v0, vs0, d0, ds0, p0, q0, hargs, rfl, rfl, h0, r0⟩ := trodAll_cons hA
  obtain ⟨v1, vs1, d1, ds1, p1, q1, rfl, rfl, rfl, h1, r1⟩ := trodAll_cons r0
  obtain ⟨rfl, rfl, rfl⟩ := trodAll_nil r1
  obtain rfl : args = #[v0, v1] := by cases args; simp_all
  obtain ⟨rfl, rfl⟩ := trodVars_none hV
  obtain ⟨a0, rfl, rfl, rfl, w0⟩ := open_int Try.underlying3 (hval 0 3 v0 rfl rfl) h0
  obtain ⟨a1, rfl, rfl, rfl, w1⟩ := open_int Try.underlying3 (hval 1 3 v1 rfl rfl) h1
  clear hA0 hval0
  simp only [List.append_nil] at hW'
  refine (pieceForms_any a0 w0 a1 w1 W).mono fun e W' ⟨he, bel⟩ => ?_
  subst he
  exact ⟨_, rfl, _, _, _, [], [], [], hW', trodAll_mk1 (shut_bool Try.underlying4 _), (trodAll_cons_mk (shut_int Try.underlying3 w0) (trodAll_cons_mk (shut_int Try.underlying3 w1) trodAll_mk0)), rfl, bel.frame _, fun h => by cases h⟩

theorem pieceForms_holds : Rows.PieceFormsSaid :=
  OpenClaim.holds_of_wide 4 Try.f4 rfl rfl rfl rfl rfl rfl rfl ⟨rfl, rfl, rfl, rfl, rfl⟩ rfl rfl rfl rfl rfl (by kernel_rfl) Try.func4 (by kernel_rfl)
    (of_decide_eq_true (by kernel_rfl)) (by unfold Func.isWrapper; first | (rw [if_pos (by decide +kernel)]; kernel_rfl) | (rw [if_neg (by decide +kernel)]; exact ⟨rfl, rfl⟩))
    (fun os started H enc _ => pieceForms_lifted os started H enc)
#print axioms pieceForms_holds
end Go.Proofs.Yteoldaibnndnfaa
