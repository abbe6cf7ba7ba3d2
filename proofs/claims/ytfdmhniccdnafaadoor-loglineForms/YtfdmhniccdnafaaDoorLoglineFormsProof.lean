/- Records, lines that may not be are refused, whatever the numbers; no conditions. -/
import Derived.Test.YtfdmhniccdnafaaDoorRows
import Derived.Test.YtfdmhniccdnafaaDoorCards
import Derived.Test.YtfdmhniccdnafaaDoorTie
import Derived.LaidMore
import Derived.Lay
import Derived.SevenTiedAt
import Derived.Stop.Joined
import Derived.ProofKit
import Derived.OpenShut
import Derived.ShutString
import Derived.ChangeOld
import Derived.Below
import Derived.SizedLaws
import Derived.Test.YtfdmhniccdnafaaDoorLgOpen
import Derived.Test.YtfdmhniccdnafaaDoorBitPlain
import Derived.Test.YtfdmhniccdnafaaDoorZrText
import Derived.Deep.Cut
namespace Go.Proofs.YtfdmhniccdnafaaDoor
open Go.ChangeShapes Go.WideShapes Go.ChangeAt Go.RowKit

theorem and1023' (n : Int) : bits .and .i64 n 1023 = n % 1024 := by
  show IntKind.i64.wrap ((BitVec.ofInt 64 n &&& BitVec.ofInt 64 1023).toNat : Int) = _
  rw [BitVec.toNat_and, show (BitVec.ofInt 64 1023).toNat = 2 ^ 10 - 1 from rfl, Nat.and_two_pow_sub_one_eq_mod, BitVec.toNat_ofInt, IntKind.wrap_i64]; omega

/-- The records that may not be. -/
def bdZ (d : Nat) : List Rc := [([], 1, [120]), ([46, 47, 97], 1, [120]), ([97], 1 - (1 + (d : Int)), [120]), ([97], 1048576 + (1 + (d : Int)), [120]), ([97], 1, []), ([97], 1, [120, 10]), ([97], 1, [9]), ([97], 1, List.replicate (2049 + d) 0)]
/-- The texts that are no lines. -/
def txL : List Tx := [[], [10], [97, 9, 49, 9, 120], [97, 9, 48, 49, 9, 120, 10], [97, 9, 48, 9, 120, 10], [97, 9, 45, 49, 9, 120, 10], [97, 9, 49, 9, 10], [97, 9, 49, 9, 120, 9, 121, 10], [97, 9, 49, 9, 120, 10, 10], [97, 9, 49, 9, 120, 10, 98], [46, 47, 97, 9, 49, 9, 120, 10], [97, 9, 49, 48, 52, 56, 53, 55, 55, 9, 120, 10], [97, 9, 57, 57, 57, 57, 57, 57, 57, 57, 57, 57, 57, 57, 57, 57, 57, 57, 57, 57, 57, 57, 9, 120, 10], [97, 32, 49, 32, 120, 10], [97, 9, 49, 32, 9, 120, 10], [97, 9, 9, 120, 10]]
def rv (r : Rc) : List Value := [.string ⟨r.1.toArray⟩, .int .i64 r.2.1, .string ⟨r.2.2.toArray⟩]
theorem rv_len (r : Rc) : (rv r).length = 3 := rfl
def tx1 (t : Tx) : List Value := [.string ⟨t.toArray⟩]
theorem tx1_len (t : Tx) : (tx1 t).length = 1 := rfl
theorem bdZ_no {d : Nat} (h : d < 1024) : ∀ x ∈ bdZ d, rcOk x = false ∧ RcZ x := by
  intro x hx
  have z : ∀ n : Nat, n ≤ 4096 → n ≤ maxLen := fun n hn => by unfold maxLen; omega
  simp only [bdZ, List.mem_cons, List.not_mem_nil, or_false] at hx
  rcases hx with rfl | rfl | rfl | rfl | rfl | rfl | rfl | rfl
  · exact ⟨by decide +kernel, z _ (by decide), z _ (by decide)⟩
  · exact ⟨by decide +kernel, z _ (by decide), z _ (by decide)⟩
  · refine ⟨?_, z _ (by simp), z _ (by simp)⟩
    unfold rcOk tmB1
    dsimp only
    rw [decide_eq_false (show ¬ (1 : Int) ≤ 1 - (1 + (d : Int)) by omega)]; simp
  · refine ⟨?_, z _ (by simp), z _ (by simp)⟩
    unfold rcOk tmB1
    dsimp only
    rw [decide_eq_false (show ¬ (1048576 : Int) + (1 + (d : Int)) ≤ 1048576 by omega)]; simp
  · exact ⟨by decide +kernel, z _ (by decide), z _ (by decide)⟩
  · exact ⟨by decide +kernel, z _ (by decide), z _ (by decide)⟩
  · exact ⟨by decide +kernel, z _ (by decide), z _ (by decide)⟩
  · refine ⟨?_, z _ (by simp), z _ (by show (List.replicate (2049 + d) (0 : UInt8)).length ≤ 4096; rw [List.length_replicate]; omega)⟩
    unfold rcOk snB
    dsimp only
    rw [List.length_replicate, decide_eq_false (show ¬ 2049 + d ≤ 2048 by omega)]; simp
theorem txL_no : ∀ y ∈ txL, gtR y = ([], 0, []) ∧ gtE y = 1300 ∧ y.length ≤ 100 := by
  have h : (txL.all fun y => (gtL y).isNone && decide (y.length ≤ 100)) = true := by decide +kernel
  intro y hy
  have h1 := List.all_eq_true.1 h y hy
  rw [Bool.and_eq_true] at h1
  have h2 : gtL y = none := by
    cases e : gtL y with
    | none => rfl
    | some r => rw [e] at h1; simp at h1
  unfold gtR gtE
  rw [h2]
  exact ⟨rfl, rfl, by simpa using h1.2⟩

set_option maxRecDepth 20000 in
set_option maxHeartbeats 8000000 in
theorem loglineForms_any (a : Int) (_ : Lit.wf (.int .i64 a) = true) (b : Int) (_ : Lit.wf (.int .i64 b) = true) (w : World) (hv : Vs w) :
    Calls Tryd.prog 4 #[.int .i64 a, .int .i64 b] w fun e w' => e = .returned (.bool true) ∧ Q w w' := by
  have h7 := and7 a
  have h15 := and15 (a / 8)
  have h1023 := and1023' b
  obtain ⟨r, hr⟩ : ∃ r : Nat, a % 8 = (r : Int) := ⟨(a % 8).toNat, by omega⟩
  obtain ⟨t, ht⟩ : ∃ t : Nat, (a / 8) % 16 = (t : Int) := ⟨(a / 8 % 16).toNat, by omega⟩
  obtain ⟨d, hd⟩ : ∃ d : Nat, b % 1024 = (d : Int) := ⟨(b % 1024).toNat, by omega⟩
  have hr8 : r < 8 := by omega
  have ht16 : t < 16 := by omega
  have hd1024 : d < 1024 := by omega
  rw [hr] at h7
  rw [ht] at h15
  rw [hd] at h1023
  clear hr ht hd
  have HV := hide hv
  clear hv
  go_enter Tryd.func4, Tryd.ntmps4
  go_wp2_with fail
  refine (lgawake_any _ (unhide HV)).mono ?_
  rintro e w1 ⟨rfl, q1⟩
  have HQ1 := hide q1
  clear q1
  have hmk : ∀ w : World, (Instr.makeSlice 36 (.int .i64 (2048 + (1 + (d : Int)))) (.int .i64 (2048 + (1 + (d : Int))))).run Tryd.prog w = .ok (.slice (some ⟨w.heap.size, 0, none⟩) (2049 + d) (2049 + d)) (w.alloc (.cells (madeCells #[.int .u8 0] (2049 + d)) 5)) := fun w => mk_zeros_at 2048 d (by omega) w
  have hst := str_zeros' (2049 + d) w1
  go_upto_region 6 with fail
  have hqa := (Q.refl w1).alloc (.cells (madeCells #[.int .u8 0] (2049 + d)) 5)
  have hsz : (w1.alloc (.cells (madeCells #[.int .u8 0] (2049 + d)) 5)).heap.size = w1.heap.size + 1 := size_alloc _ _
  generalize (w1.alloc (.cells (madeCells #[.int .u8 0] (2049 + d)) 5)) = wa at *
  change Code.wp _ _ _ _ (wa.alloc (.cells (lay rv (bdZ d)).toArray 23))
  have hb := Blk.new wa (lay rv (bdZ d)).toArray 23
  have HQ2 := hide ((unhide HQ1).trans (hqa.trans ((Q.refl wa).alloc (.cells (lay rv (bdZ d)).toArray 23))))
  rw [hsz] at hb
  have hl8 : (bdZ d).length = 8 := rfl
  obtain ⟨x, hx⟩ : ∃ x, (bdZ d)[r]? = some x := ⟨(bdZ d)[r]'(by omega), List.getElem?_eq_getElem (by omega)⟩
  have hcl : ∀ i v, i < 3 → (rv x)[i]? = some v → (wa.alloc (.cells (lay rv (bdZ d)).toArray 23)).cell? ⟨w1.heap.size + 1, r * 3 + i, none⟩ = some v := fun i v hi hv => hb.cell (r * 3 + i) (by rw [List.getElem?_toArray, lay_get rv_len (bdZ d) r i x hx hi]; exact hv)
  have c0 : (wa.alloc (.cells (lay rv (bdZ d)).toArray 23)).cell? ⟨w1.heap.size + 1, r * 3, none⟩ = some (.string ⟨x.1.toArray⟩) := hcl 0 _ (by decide) rfl
  have c1 : (wa.alloc (.cells (lay rv (bdZ d)).toArray 23)).cell? ⟨w1.heap.size + 1, r * 3 + 1, none⟩ = some (.int .i64 x.2.1) := hcl 1 _ (by decide) rfl
  have c2 : (wa.alloc (.cells (lay rv (bdZ d)).toArray 23)).cell? ⟨w1.heap.size + 1, r * 3 + 2, none⟩ = some (.string ⟨x.2.2.toArray⟩) := hcl 2 _ (by decide) rfl
  obtain ⟨hno, hz⟩ := bdZ_no hd1024 x (List.mem_of_getElem? hx)
  have HP := hide (fun w (hv : Vs w) => lgPut_any x w hv hz.1 hz.2)
  rw [(lg_no hno).1, (lg_no hno).2] at HP
  generalize (wa.alloc (.cells (lay rv (bdZ d)).toArray 23)) = wb at *
  have k0 : (0 : Int) ≤ (r : Int) := by omega
  have k1 : (r : Int) < 8 := by omega
  unfold rcV at HP
  obtain ⟨x1, x2, x3⟩ := x
  dsimp only at HP c0 c1 c2
  generalize (⟨x1.toArray⟩ : ByteArray) = y1 at *
  generalize (⟨x3.toArray⟩ : ByteArray) = y3 at *
  clear hb hqa hcl hx hno hz hl8 hmk hst hsz
  go_wp2_with fail
  clear c0 c1 c2
  refine (unhide HP _ ((unhide HV).q (unhide HQ2))).mono ?_
  rintro e w2 ⟨rfl, q2⟩
  have HQ3 := hide ((unhide HQ2).trans q2)
  clear q2 HP HQ2 HQ1 k0 k1 hr8 h7
  go_upto_region 8 with fail
  have hl16 : txL.length = 16 := rfl
  obtain ⟨y, hy⟩ : ∃ y, txL[t]? = some y := ⟨txL[t]'(by omega), List.getElem?_eq_getElem (by omega)⟩
  obtain ⟨g1, g2, g3⟩ := txL_no y (List.mem_of_getElem? hy)
  change Code.wp _ _ _ _ (w2.alloc (.cells (lay tx1 txL).toArray 9))
  have hb := Blk.new w2 (lay tx1 txL).toArray 9
  have HQ4 := hide ((unhide HQ3).trans ((Q.refl w2).alloc (.cells (lay tx1 txL).toArray 9)))
  have d0 : (w2.alloc (.cells (lay tx1 txL).toArray 9)).cell? ⟨w2.heap.size, t, none⟩ = some (.string ⟨y.toArray⟩) := hb.cell t (by
    rw [List.getElem?_toArray]
    have := lay_get tx1_len txL t 0 y hy (by decide)
    rw [Nat.mul_one, Nat.add_zero] at this
    rw [this]; rfl)
  have HG := hide (fun w (hv : Vs w) => lgGet_any ⟨y.toArray⟩ w hv (by rw [mk_size']; omega))
  rw [show bl (⟨y.toArray⟩ : ByteArray) = y from rfl, g1, g2] at HG
  have HZ : Hid (rcV ([], 0, []) = .agg #[.string ⟨#[]⟩, .int .i64 0, .string ⟨#[]⟩]) := rfl
  rw [unhide HZ] at HG
  generalize (w2.alloc (.cells (lay tx1 txL).toArray 9)) = wb at *
  generalize (⟨y.toArray⟩ : ByteArray) = z1 at *
  have k0 : (0 : Int) ≤ (t : Int) := by omega
  have k1 : (t : Int) < 16 := by omega
  clear hb hy g1 g2 g3 hl16 HZ HQ3
  go_wp2_with fail
  clear d0
  refine (unhide HG _ ((unhide HV).q (unhide HQ4))).mono ?_
  rintro e w3 ⟨rfl, q3⟩
  have HQ5 := hide ((unhide HQ4).trans (q3.trans (bxR_q w3 ⟨#[]⟩ 0 ⟨#[]⟩)))
  obtain ⟨c0, c1, c2⟩ := bxR_at (w := w3) (x := ⟨#[]⟩) (t := 0) (y := ⟨#[]⟩) (Q.refl _)
  unfold bxR at c0 c1 c2 HQ5
  have heq := eqR
  have hgd := Tryd.guardR
  clear q3
  go_wp2_with (go_at_call 11; refine (num_any _ _).mono ?_; rintro e w4 ⟨rfl, rfl⟩)
  go_ret
  exact ⟨rfl, unhide HQ5⟩


set_option maxRecDepth 100000 in
theorem loglineForms_lifted (os : Os) (started : os.Started) (H : Type) (enc : TypeId × Value → H) :
    ReturnsInHanded {} Tryd.checked os 4 .any (fun w args => (Rows.loglineFormsSpec.pre enc Tryd.prog Tryd.f4 [] false w args ∧ laidMetH Tryd.prog Rows.loglineFormsRow.laid w) ∧ sizedMet enc Tryd.prog Tryd.f4 (OpenSpec.ofChange Rows.loglineFormsSpec) false w args) (Rows.loglineFormsSpec.post enc Tryd.prog Tryd.f4 false true false false) := by
  refine returnsInHanded_of_change_and (C := Tryd.checked) (X := fun w _ => laidMetH Tryd.prog Rows.loglineFormsRow.laid w) (fun _ _ _ hh h => h.of_heap hh) Tryd.own started (by kernel_rfl) Tryd.func4
    (ChangeSpec.witness_shaped (enc := enc) (C := Tryd.checked) (os := os) (X := fun w _ => laidMetH Tryd.prog Rows.loglineFormsRow.laid w) false (World.laidAll Tryd.prog os Rows.loglineFormsRow.laid) #[.int .i64 0, .int .i64 0] 8 (World.laidAll_os _ _ _)
      (World.shaped_of_ZipB (by kernel_rfl) (by kernel_rfl)) (by kernel_rfl) (by kernel_rfl) (by kernel_rfl)
      (by rw [MakeChecks.laidMetH_plain _ _ _ (by kernel_rfl)]; exact laidMet_laidAll _ (by kernel_rfl) (by kernel_rfl))) ?_
  intro W base args ds gs before hval0 hW _ hsz0 hL _
  have hval : ∀ (j : Nat) t v, Tryd.f4.params[j]? = some t → args[j]? = some v → Value.okWide Tryd.prog W .any base t v := hval0
  have hW' := hW
  obtain ⟨p, q, hA0, hV, rfl, hfz, hnd⟩ := hW
  have hA : DataW.TrodAll enc Tryd.prog W 0 (fun _ => true) true Tryd.f4.params.toList args.toList ds p := hA0
  rw [Tryd.params4] at hA hval
  obtain ⟨v0, vs0, d0, ds0, p0, q0, hargs, rfl, rfl, h0, r0⟩ := trodAll_cons hA
  obtain ⟨v1, vs1, d1, ds1, p1, q1, rfl, rfl, rfl, h1, r1⟩ := trodAll_cons r0
  obtain ⟨rfl, rfl, rfl⟩ := trodAll_nil r1
  obtain rfl : args = #[v0, v1] := by cases args; simp_all
  obtain ⟨rfl, rfl⟩ := trodVars_none hV
  obtain ⟨a0, rfl, rfl, rfl, w0⟩ := open_int Tryd.underlying3 (hval 0 3 v0 rfl rfl) h0
  obtain ⟨a1, rfl, rfl, rfl, w1⟩ := open_int Tryd.underlying3 (hval 1 3 v1 rfl rfl) h1
  clear hA0 hval0
  simp only [List.append_nil] at hW'
  refine (loglineForms_any a0 w0 a1 w1 W (vs_of_laid (laid := Rows.loglineFormsRow.laid) (by kernel_rfl) (by kernel_rfl) (by kernel_rfl) hL)).mono fun e W' ⟨he, bel⟩ => ?_
  subst he
  exact ⟨_, rfl, _, _, _, [], [], [], hW', trodAll_mk1 (shut_bool Tryd.underlying4 _), (trodAll_cons_mk (shut_int Tryd.underlying3 w0) (trodAll_cons_mk (shut_int Tryd.underlying3 w1) trodAll_mk0)), rfl, bel.frame _, fun h => by cases h⟩

theorem loglineForms_holds : Rows.LoglineFormsSaid :=
  OpenClaim.holds_of_wide 4 Tryd.f4 rfl rfl rfl rfl rfl rfl rfl ⟨rfl, rfl, rfl, rfl, rfl⟩ rfl rfl rfl rfl rfl (by kernel_rfl) Tryd.func4 (by kernel_rfl)
    (of_decide_eq_true (by kernel_rfl)) (by unfold Func.isWrapper; first | (rw [if_pos (by decide +kernel)]; kernel_rfl) | (rw [if_neg (by decide +kernel)]; exact ⟨rfl, rfl⟩))
    (fun os started H enc _ => loglineForms_lifted os started H enc)
theorem loglineForms_card : Rows.LoglineFormsCardSaid :=
  Claim7.holds_tied_plain_at .later [] [.data, .data, .data, .data, .sentinel, .sentinel, .pinned] true (true, "7165f7ac17c046a90c7350451bbd4585325d87011bf465bafcde6f6fdd1da4da") true loglineForms_holds (fun _ h => by cases h) (by kernel_rfl) (fun _ h => by cases h) loglineForms_row_tie rfl ⟨rfl, rfl⟩ (by kernel_rfl) rfl
    (fun f fn hf hfn => by
      obtain rfl : f = 4 := Option.some.inj ((show Tryd.prog.funcNamed Rows.loglineFormsRow.func = some 4 by kernel_rfl).symm.trans hf) |>.symm
      obtain rfl : fn = Tryd.f4 := (Option.some.inj (Tryd.func4.symm.trans hfn)).symm
      exact ⟨by kernel_rfl, fun j t ht => by
        rw [Tryd.params4] at ht
        have hm : t ∈ [3, 3] := by simpa using Array.mem_of_getElem? ht
        have hall : ([3, 3].all fun u => !Tryd.prog.wantsStandIn u) = true := by kernel_rfl
        exact (show Tryd.prog.wantsStandIn t = false by simpa using List.all_eq_true.1 hall t hm)⟩)
    (by kernel_rfl)
#print axioms loglineForms_card

end Go.Proofs.YtfdmhniccdnafaaDoor
