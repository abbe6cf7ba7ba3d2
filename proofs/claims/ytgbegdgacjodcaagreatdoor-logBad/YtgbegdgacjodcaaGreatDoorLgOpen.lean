/- What a record that came in is good for; the library's tables, out of a row's own condition; what every statement on log lines asks of first; two records compared; the conditions: the library's tables lie as they were laid. -/
import Derived.ProofKit
import Derived.SizedLaws
import Derived.LaidSub
import Derived.LaidLaws
import Derived.MakeChecks
import Derived.Stop.LaidErr
import Derived.Lib.LaidTab
import Derived.Lib.SmallJoins
import Derived.Laws.StructEq
import Derived.Test.YtgbegdgacjodcaaGreatDoorLgGet
import Derived.Test.YtgbegdgacjodcaaGreatDoorNmWalks
namespace Go.Proofs.YtgbegdgacjodcaaGreatDoor
open Go.ChangeShapes Go.WideShapes Go.ChangeAt Go.RowKit

/-! the library's tables -/
theorem star_err : "*" ++ "errors.errorString" = "*errors.errorString" := by decide
theorem Tryz.rowErr (u : TypeId) (h : Tryz.prog.typeName? 3 u = some "*errors.errorString") : u = 132 :=
  typeName_ptr_named (nm := "errors.errorString") (by rw [star_err]; kernel_rfl) (by kernel_rfl) (by decide) u (by rw [star_err]; exact h)
theorem err_cell {n : String} {text : List UInt8} {W : World} {g : Nat} (h : laidMet Tryz.prog [(n, .iface "*errors.errorString" (.ptr (.agg [.lit (.string text)])))] W)
    (hg : Tryz.prog.globalNamed n = some g) (ht : (Tryz.prog.globals[g]?).map (·.type) = some 54) : ∃ ev, W.cell? ⟨g, 0, none⟩ = some ev ∧ (ev = .nilIface ∨ ∃ te pe, ev = .iface te pe) := by
  obtain ⟨a, s, hv, _, _, _⟩ := laid_sentinel h hg ht Tryz.underlying54 Tryz.rowErr Tryz.underlying132 Tryz.underlying134 rfl rfl Tryz.underlying9 (by kernel_rfl) (by kernel_rfl)
  refine ⟨.iface 132 (.pointer (some a)), ?_, Or.inr ⟨_, _, rfl⟩⟩
  have h0 := World.var?_cell hg hv 0
  simpa using h0
def synD : List (String × DataW Unit) := [("strconv.ErrSyntax", .iface "*errors.errorString" (.ptr (.agg [.lit (.string [105, 110, 118, 97, 108, 105, 100, 32, 115, 121, 110, 116, 97, 120])])))]
def rngD : List (String × DataW Unit) := [("strconv.ErrRange", .iface "*errors.errorString" (.ptr (.agg [.lit (.string [118, 97, 108, 117, 101, 32, 111, 117, 116, 32, 111, 102, 32, 114, 97, 110, 103, 101])])))]
theorem vs_of_laid {laid : List (String × DataW Unit)} {W : World}
    (e1 : (laid.filter fun x => x.1 == "internal/strconv.uint64pow10") = [("internal/strconv.uint64pow10", Lib.tabData .u64 Lib.pow10Tab)])
    (e2 : (laid.filter fun x => x.1 == "strconv.ErrSyntax") = synD) (e3 : (laid.filter fun x => x.1 == "strconv.ErrRange") = rngD)
    (h : laidMetH Tryz.prog laid W) : Vs W := by
  have h1 := h.filter fun x => x.1 == "internal/strconv.uint64pow10"
  have h2 := h.filter fun x => x.1 == "strconv.ErrSyntax"
  have h3 := h.filter fun x => x.1 == "strconv.ErrRange"
  rw [e1, MakeChecks.laidMetH_plain _ _ _ (by kernel_rfl)] at h1
  rw [e2, MakeChecks.laidMetH_plain _ _ _ (by kernel_rfl)] at h2
  rw [e3, MakeChecks.laidMetH_plain _ _ _ (by kernel_rfl)] at h3
  exact ⟨Lib.tabIs_of_head (n := 20) (e := 83) (t := 117) pow_at (by kernel_rfl) (by kernel_rfl) (by kernel_rfl) (by kernel_rfl) (by kernel_rfl) h1,
    err_cell h2 (by kernel_rfl) (by kernel_rfl), err_cell h3 (by kernel_rfl) (by kernel_rfl)⟩

/-! a record that came in -/
abbrev RcZ (r : Rc) : Prop := r.1.length ≤ maxLen ∧ r.2.2.length ≤ maxLen
section
variable {H : Type} {enc : TypeId × Value → H} {W : World}
set_option maxRecDepth 100000 in
theorem Tryz.is_rec {r : Reach} {b0 : Nat} {v : Value} {d : DataW H} {p : List MemPlace} (hv : Value.okWide Tryz.prog W r b0 31 v)
    (h : DataW.Trod enc Tryz.prog W 0 (fun _ => true) true 31 v d p) : ∃ x : Rc, v = rcV x ∧ RcZ x := by
  obtain ⟨v0, v1, v2, y0, y1, y2, n, rfl, rfl, rfl, h0, h1, h2⟩ := Go.Joins.open_agg3 Tryz.underlying31 (by kernel_rfl) (by kernel_rfl) hv h
  obtain ⟨s0, e0, _, z0⟩ := DataW.trod_string Tryz.underlying9 h0
  obtain ⟨s1, e1, _, _⟩ := DataW.trod_int Tryz.underlying3 h1
  obtain ⟨s2, e2, _, z2⟩ := DataW.trod_string Tryz.underlying9 h2
  simp at e0 e1 e2
  subst e0 e1 e2
  refine ⟨(bl s0, s1, bl s2), ?_, by dsimp only; rw [bl_size]; exact z0, by dsimp only; rw [bl_size]; exact z2⟩
  unfold rcV
  dsimp only
  rw [← of_bl (t := s0) rfl, ← of_bl (t := s2) rfl]
end

/-! two records -/
theorem eqR (a b c d : ByteArray) (x y : Int) (w : World) : (Op.equalIn 10000 31 (.agg #[.string a, .int .i64 x, .string c]) (.agg #[.string b, .int .i64 y, .string d])).run Tryz.prog w = .ok (a.toList == b.toList && (x == y && c.toList == d.toList)) w := by
  have u4 := Tryz.underlying9
  have u3 := Tryz.underlying3
  have hS : Tryz.prog.underlying 31 = some (.struct (Tryz.prog.fieldsOf 31)) := by kernel_rfl
  have hp : Tryz.prog.stoodInHeld 31 = false := by kernel_rfl
  rw [show (10000 : Nat) = 9999 + 1 from rfl, run_equalIn_agg w 9999 31 _ _ hS hp]
  simp only [Program.fieldsOf, Tryz.underlying31]
  go_simp
  cases hab : (a.toList == b.toList) <;> cases hxy : (x == y) <;> cases hst : (c.toList == d.toList) <;> simp_all
theorem Tryz.guardR : Tryz.prog.eqGuardType Tryz.prog.depth 31 = false := by kernel_rfl
theorem rc_eqB (p r : Rc) : ((⟨p.1.toArray⟩ : ByteArray).toList == (⟨r.1.toArray⟩ : ByteArray).toList && (p.2.1 == r.2.1 && (⟨p.2.2.toArray⟩ : ByteArray).toList == (⟨r.2.2.toArray⟩ : ByteArray).toList)) = decide (p = r) := by
  rw [bl_toList, bl_toList, bl_toList, bl_toList, Bool.eq_iff_iff, decide_eq_true_iff]
  simp only [Bool.and_eq_true, beq_iff_eq]
  constructor
  · rintro ⟨h1, h2, h3⟩; exact Prod.ext h1 (Prod.ext h2 h3)
  · intro h; rw [h]; exact ⟨rfl, rfl, rfl⟩

/-! what every program answers -/
def awR : Rc := ([97, 46, 111], 258, [97, 46, 99, 124, 124, 110, 124, 99, 99, 32, 97])
def awT : Tx := [97, 46, 111, 9, 50, 53, 56, 9, 97, 46, 99, 124, 124, 110, 124, 99, 99, 32, 97, 10]
def awS : Tx := [97, 46, 111, 9, 50]
theorem aw_put : lgT awR = awT ∧ lgE awR = 0 := by decide +kernel
theorem aw_none : lgT ([], 0, []) = [] ∧ lgE ([], 0, []) = 1300 := by decide +kernel
theorem aw_get : gtR awT = awR ∧ gtE awT = 0 := by decide +kernel
theorem aw_bad : gtR awS = ([], 0, []) ∧ gtE awS = 1300 := by decide +kernel
theorem awPut (w : World) (hv : Vs w) : Calls Tryz.prog 23 #[rcV awR] w fun e w' => e = .returned (.tuple #[.string ⟨awT.toArray⟩, .int .i64 0]) ∧ Q w w' := by
  have h := lgPut_any awR w hv (by decide) (by decide)
  rw [aw_put.1, aw_put.2] at h; exact h
theorem awNo (w : World) (hv : Vs w) : Calls Tryz.prog 23 #[rcV ([], 0, [])] w fun e w' => e = .returned (.tuple #[.string ⟨#[]⟩, .int .i64 1300]) ∧ Q w w' := by
  have h := lgPut_any ([], 0, []) w hv (by decide) (by decide)
  rw [aw_none.1, aw_none.2] at h; exact h
theorem awGet (w : World) (hv : Vs w) : Calls Tryz.prog 28 #[.string ⟨awT.toArray⟩] w fun e w' => e = .returned (.tuple #[rcV awR, .int .i64 0]) ∧ Q w w' := by
  have h := lgGet_any ⟨awT.toArray⟩ w hv (by decide)
  rw [show bl (⟨awT.toArray⟩ : ByteArray) = awT from rfl, aw_get.1, aw_get.2] at h; exact h
theorem awBad (w : World) (hv : Vs w) : Calls Tryz.prog 28 #[.string ⟨awS.toArray⟩] w fun e w' => e = .returned (.tuple #[rcV ([], 0, []), .int .i64 1300]) ∧ Q w w' := by
  have h := lgGet_any ⟨awS.toArray⟩ w hv (by decide)
  rw [show bl (⟨awS.toArray⟩ : ByteArray) = awS from rfl, aw_bad.1, aw_bad.2] at h; exact h


end Go.Proofs.YtgbegdgacjodcaaGreatDoor
