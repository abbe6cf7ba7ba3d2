/- Several texts of mine in one: BitPlain, GfZ, LfPlain. -/
import Derived.WalkKit
import Derived.Test.YtgbegdgacjodcaaDoorGfState
import Derived.ProofKit
import Derived.Test.YtgbegdgacjodcaaDoorLoText
import Derived.Test.YtgbegdgacjodcaaDoorLoFit
import Derived.Test.YtgbegdgacjodcaaDoorLoState
import Derived.Deep.OwnRows
/- Plain facts on an int's last bits: and with a mask is a remainder; no conditions. -/
namespace Go.Proofs.YtgbegdgacjodcaaDoor
open Go.RowKit

theorem and1 (n : Int) : bits .and .i64 n 1 = n % 2 := by
  show IntKind.i64.wrap ((BitVec.ofInt 64 n &&& BitVec.ofInt 64 1).toNat : Int) = _
  rw [BitVec.toNat_and, show (BitVec.ofInt 64 1).toNat = 2 ^ 1 - 1 from rfl, Nat.and_two_pow_sub_one_eq_mod, BitVec.toNat_ofInt, IntKind.wrap_i64]; omega
theorem and3 (n : Int) : bits .and .i64 n 3 = n % 4 := by
  show IntKind.i64.wrap ((BitVec.ofInt 64 n &&& BitVec.ofInt 64 3).toNat : Int) = _
  rw [BitVec.toNat_and, show (BitVec.ofInt 64 3).toNat = 2 ^ 2 - 1 from rfl, Nat.and_two_pow_sub_one_eq_mod, BitVec.toNat_ofInt, IntKind.wrap_i64]; omega
theorem and7 (n : Int) : bits .and .i64 n 7 = n % 8 := by
  show IntKind.i64.wrap ((BitVec.ofInt 64 n &&& BitVec.ofInt 64 7).toNat : Int) = _
  rw [BitVec.toNat_and, show (BitVec.ofInt 64 7).toNat = 2 ^ 3 - 1 from rfl, Nat.and_two_pow_sub_one_eq_mod, BitVec.toNat_ofInt, IntKind.wrap_i64]; omega
theorem and15 (n : Int) : bits .and .i64 n 15 = n % 16 := by
  show IntKind.i64.wrap ((BitVec.ofInt 64 n &&& BitVec.ofInt 64 15).toNat : Int) = _
  rw [BitVec.toNat_and, show (BitVec.ofInt 64 15).toNat = 2 ^ 4 - 1 from rfl, Nat.and_two_pow_sub_one_eq_mod, BitVec.toNat_ofInt, IntKind.wrap_i64]; omega
theorem and63 (n : Int) : bits .and .i64 n 63 = n % 64 := by
  show IntKind.i64.wrap ((BitVec.ofInt 64 n &&& BitVec.ofInt 64 63).toNat : Int) = _
  rw [BitVec.toNat_and, show (BitVec.ofInt 64 63).toNat = 2 ^ 6 - 1 from rfl, Nat.and_two_pow_sub_one_eq_mod, BitVec.toNat_ofInt, IntKind.wrap_i64]; omega
theorem and127 (n : Int) : bits .and .i64 n 127 = n % 128 := by
  show IntKind.i64.wrap ((BitVec.ofInt 64 n &&& BitVec.ofInt 64 127).toNat : Int) = _
  rw [BitVec.toNat_and, show (BitVec.ofInt 64 127).toNat = 2 ^ 7 - 1 from rfl, Nat.and_two_pow_sub_one_eq_mod, BitVec.toNat_ofInt, IntKind.wrap_i64]; omega

theorem umod (n : Int) (m : Nat) (h0 : 0 < m) (h1 : m ≤ 1000) : ∃ k : Nat, k < m ∧ wrap64 ((IntKind.u64.wrap n).tmod (m : Int)) = (k : Int) := by
  have e : IntKind.u64.wrap n = n % 18446744073709551616 := rfl
  have hx : 0 ≤ n % 18446744073709551616 := by omega
  rw [e, Int.tmod_eq_emod_of_nonneg hx]
  generalize n % 18446744073709551616 = x at *
  have h2 := Int.emod_nonneg x (by omega : (m : Int) ≠ 0)
  have h3 := Int.emod_lt_of_pos x (by omega : (0 : Int) < (m : Int))
  refine ⟨(x % (m : Int)).toNat, by omega, ?_⟩
  generalize x % (m : Int) = y at *
  simp only [wrap64]
  omega

theorem umodS (n : Int) (m : Nat) (h0 : 0 < m) (h1 : m ≤ 1000) : ∃ k : Nat, k < m ∧ wrap64 ((IntKind.u64.wrap n / 2).tmod (m : Int)) = (k : Int) := by
  have e : IntKind.u64.wrap n = n % 18446744073709551616 := rfl
  have hx : 0 ≤ n % 18446744073709551616 / 2 := by omega
  rw [e, Int.tmod_eq_emod_of_nonneg hx]
  generalize n % 18446744073709551616 / 2 = x at *
  have h2 := Int.emod_nonneg x (by omega : (m : Int) ≠ 0)
  have h3 := Int.emod_lt_of_pos x (by omega : (0 : Int) < (m : Int))
  refine ⟨(x % (m : Int)).toNat, by omega, ?_⟩
  generalize x % (m : Int) = y at *
  simp only [wrap64]
  omega

end Go.Proofs.YtgbegdgacjodcaaDoor

/- Rows that lie in a block, what is written above what was there, small edges and graphs; no conditions. -/
namespace Go.Proofs.YtgbegdgacjodcaaDoor
open Go.RowKit

abbrev at0 (n : Nat) : Option Addr := some ⟨n, 0, none⟩
theorem tvR {w : World} {g : Nat} {cs : Array Value} {t : TypeId} (h : Blk w g cs t) (ws : Ws) (he : cs = (lay tv ws).toArray) : RowT w (at0 g) ws := rowB tv_len h ws he
theorem Q.setHi {a b : World} (q : Q a b) {k : Nat} (hk : a.heap.size ≤ k) (i : Nat) (u : Value) : Q a (b.setCell ⟨k, i, none⟩ u) :=
  ⟨q.os, q.tape, q.output, by have := q.size; simpa [World.setCell] using this, fun j hj => (Below.heap_setCell _ _ _ _ (by show j ≠ k; omega)).trans (q.block j hj)⟩

/-! small graphs -/
def wszB (ws : Ws) : Bool := decide (ws.length ≤ 4096) && ws.all fun x => decide (x.length ≤ 4096)
def edzB (e : Ed) : Bool := wszB e.1 && wszB e.2.1 && wszB e.2.2.1 && wszB e.2.2.2.1 && decide (e.2.2.2.2.1.length ≤ 4096) && decide (e.2.2.2.2.2.2.length ≤ 4096)
def ghzB (g : Gh) : Bool := g.1.all edzB && decide (g.1.length ≤ 4096) && decide (g.2.1.length ≤ 4096) && g.2.1.all (fun p => decide (p.1.length ≤ 4096)) && wszB g.2.2
theorem wsz_of {ws : Ws} (h : wszB ws = true) : WsZ ws := by
  unfold wszB at h
  simp only [Bool.and_eq_true, decide_eq_true_eq, List.all_eq_true] at h
  exact ⟨by omega, fun x hx => by have := h.2 x hx; unfold maxLen; omega⟩
theorem edz_of {e : Ed} (h : edzB e = true) : EdZ e := by
  unfold edzB at h
  simp only [Bool.and_eq_true, decide_eq_true_eq] at h
  obtain ⟨⟨⟨⟨⟨h1, h2⟩, h3⟩, h4⟩, h5⟩, h6⟩ := h
  exact ⟨wsz_of h1, wsz_of h2, wsz_of h3, wsz_of h4, by unfold maxLen; omega, by unfold maxLen; omega⟩
theorem ghz_of {g : Gh} (h : ghzB g = true) : GhZ g := by
  unfold ghzB at h
  simp only [Bool.and_eq_true, decide_eq_true_eq, List.all_eq_true] at h
  obtain ⟨⟨⟨⟨h1, h2⟩, h3⟩, h4⟩, h5⟩ := h
  exact ⟨fun x hx => edz_of (h1 x hx), by omega, by omega, fun x hx => by have := h4 x hx; unfold maxLen; omega, wsz_of h5⟩

end Go.Proofs.YtgbegdgacjodcaaDoor

/- Logs that may not be, logs that are too long; how a row of one record, many times, is made; no conditions. -/
namespace Go.Proofs.YtgbegdgacjodcaaDoor
open Go.ChangeShapes Go.WideShapes Go.ChangeAt Go.RowKit

def gR : Rc := ([97], 1, [120])
theorem gR_ok : rcOk gR = true := by decide +kernel
theorem gR_t : rcT gR = [97, 9, 49, 9, 120, 10] := by decide +kernel
theorem gR_z : RcZ gR := by constructor <;> decide
/-- The records that may not be. -/
def lfZ (t : Nat) : Rs := [([65], 1, [120]), ([97], 1 - (1 + (t : Int)), [120]), ([97], 1, []), ([], 0, [])]
theorem lfZ_no {t : Nat} : ∀ x ∈ lfZ t, rcOk x = false ∧ RcZ x := by
  intro x hx
  have z : ∀ n : Nat, n ≤ 4096 → n ≤ maxLen := fun n hn => by unfold maxLen; omega
  simp only [lfZ, List.mem_cons, List.not_mem_nil, or_false] at hx
  rcases hx with rfl | rfl | rfl | rfl
  · exact ⟨by decide +kernel, z _ (by decide), z _ (by decide)⟩
  · refine ⟨?_, z _ (by simp), z _ (by simp)⟩
    unfold rcOk tmB1
    dsimp only
    rw [decide_eq_false (show ¬ (1 : Int) ≤ 1 - (1 + (t : Int)) by omega)]; simp
  · exact ⟨by decide +kernel, z _ (by decide), z _ (by decide)⟩
  · exact ⟨by decide +kernel, z _ (by decide), z _ (by decide)⟩
theorem lf_bad {x : Rc} (h : rcOk x = false) (hz : RcZ x) : loOk [gR, x, gR] = false ∧ RsZ [gR, x, gR] ∧ laR [gR, x, gR] [97] = none ∧ loE [gR, x, gR] = 1400 ∧ loT [gR, x, gR] = [] := by
  have e : loOk [gR, x, gR] = false := by unfold loOk; rw [List.all_cons, List.all_cons, h]; simp
  refine ⟨e, fun r hr => ?_, la_no e, (lo_no e).2, (lo_no e).1⟩
  simp only [List.mem_cons, List.not_mem_nil, or_false] at hr
  rcases hr with rfl | rfl | rfl
  · exact gR_z
  · exact hz
  · exact gR_z

/-- The row while it is filled. -/
def mnL (k n : Nat) : Rs := List.replicate k gR ++ List.replicate (n - k) ([], 0, [])
theorem mn_len {k n : Nat} (h : k ≤ n) : (mnL k n).length = n := by unfold mnL; simp; omega
theorem mn_zero (n : Nat) : mnL 0 n = List.replicate n ([], 0, []) := by unfold mnL; simp
theorem mn_full (n : Nat) : mnL n n = List.replicate n gR := by unfold mnL; simp
theorem mn_at {k n : Nat} (h : k < n) : (mnL k n)[k]? = some ([], 0, []) := by
  unfold mnL
  rw [List.getElem?_append_right (by simp), List.length_replicate, Nat.sub_self, List.getElem?_replicate, if_pos (by omega)]
theorem mn_set {k n : Nat} (h : k < n) : (mnL k n).set k gR = mnL (k + 1) n := by
  unfold mnL
  rw [List.set_append_right _ _ (by simp), List.length_replicate, Nat.sub_self, show n - k = (n - (k + 1)) + 1 by omega, List.replicate_succ, List.set_cons_zero, List.replicate_succ', List.append_assoc]
  rfl
theorem mn_z {k n : Nat} : RsZ (mnL k n) := by
  intro r hr
  unfold mnL at hr
  rcases List.mem_append.1 hr with h | h
  · rw [(List.mem_replicate.1 h).2]; exact gR_z
  · rw [(List.mem_replicate.1 h).2]; constructor <;> decide
theorem mn_made (n : Nat) : madeCells #[.string ByteArray.empty, .int .i64 0, .string ByteArray.empty] (n * 3) = (lay rv (List.replicate n ([], 0, []))).toArray := by
  apply Array.ext_getElem?
  intro i
  have e : (lay rv (List.replicate n (([], 0, []) : Rc))).toArray[i]? = (lay rv (List.replicate n ([], 0, [])))[i]? := by simp
  rw [e]
  by_cases h : i < n * 3
  · have h1 := lay_get rv_len (List.replicate n (([], 0, []) : Rc)) (i / 3) (i % 3) ([], 0, []) (by rw [List.getElem?_replicate, if_pos (by omega)]) (by omega)
    rw [show i / 3 * 3 + i % 3 = i by omega] at h1
    rw [h1]
    unfold madeCells
    rw [Array.getElem?_map, Array.getElem?_range, if_pos h]
    show some (_ : Value) = _
    have h3 : i % 3 = 0 ∨ i % 3 = 1 ∨ i % 3 = 2 := by omega
    rcases h3 with h3 | h3 | h3 <;> simp [h3, rv] <;> rfl
  · rw [Array.getElem?_eq_none (by rw [size_madeCells]; omega), List.getElem?_eq_none (by rw [lay_length rv_len]; simp; omega)]
theorem Tryd.mk_recs (t : Nat) (ht : t < 64) (w : World) : (Instr.makeSlice 22 (.int .i64 (256 + (1 + (t : Int)))) (.int .i64 (256 + (1 + (t : Int))))).run Tryd.prog w = .ok (.slice (some ⟨w.heap.size, 0, none⟩) (257 + t) (257 + t)) (w.alloc (.cells (lay rv (List.replicate (257 + t) ([], 0, []))).toArray 33)) := by
  obtain ⟨i0, hi, hz0, hz1, hz2⟩ := info_parts Tryd.infoR
  have h := run_make (P := Tryd.prog) w 22 33 i0 _ Tryd.underlying22 hi hz0 .i64 .i64 (256 + (1 + (t : Int))) (256 + (1 + (t : Int))) (by omega) (by omega) (by rw [hz2]; omega) (by omega)
  rw [hz1, show (256 + (1 + (t : Int))).toNat = 257 + t by omega] at h
  rw [h, show (Value.agg #[.string ByteArray.empty, .int .i64 0, .string ByteArray.empty]).cells = #[.string ByteArray.empty, .int .i64 0, .string ByteArray.empty] from rfl, mn_made]
abbrev OwnM (w : World) (B g n k : Nat) : Prop := w.ownsRow B 33 3 (.slice (some ⟨g, 0, none⟩) n n) n (lay rv (mnL k n))
theorem mn_new (w : World) (n : Nat) (hn : n ≤ maxLen) : OwnM (w.alloc (.cells (lay rv (List.replicate n ([], 0, []))).toArray 33)) w.heap.size w.heap.size n 0 := by
  have h := Blk.new w (lay rv (List.replicate n (([], 0, []) : Rc))).toArray 33
  have hl : (lay rv (List.replicate n (([], 0, []) : Rc))).length = n * 3 := by rw [lay_length rv_len, List.length_replicate]
  show World.ownsRow _ _ _ _ _ _ (lay rv (mnL 0 n))
  rw [mn_zero]
  exact ⟨hl, Or.inr ⟨w.heap.size, n, _, rfl, Nat.le_refl _, h, Nat.le_refl _, hn, by simpa using hl, by rw [← hl]; simp⟩⟩
theorem mn_put {w : World} {B g n k : Nat} (h : OwnM w B g n k) (hk : k < n) :
    OwnM (((w.setCell ⟨g, k * 3, none⟩ (.string ⟨#[97]⟩)).setCell ⟨g, k * 3 + 1, none⟩ (.int .i64 1)).setCell ⟨g, k * 3 + 2, none⟩ (.string ⟨#[120]⟩)) B g n (k + 1) := by
  have hlt : k < (mnL k n).length := by rw [mn_len (by omega)]; exact hk
  have h1 := own_set rv_len h k 0 ([], 0, []) ([97], 0, []) (.string ⟨#[97]⟩) (mn_at hk) (by decide) rfl
  rw [Nat.add_zero] at h1
  have h2 := own_set rv_len h1 k 1 ([97], 0, []) ([97], 1, []) (.int .i64 1) (List.getElem?_set_self hlt) (by decide) rfl
  have h3 := own_set rv_len h2 k 2 ([97], 1, []) gR (.string ⟨#[120]⟩) (List.getElem?_set_self (by rw [List.length_set]; exact hlt)) (by decide) rfl
  rw [List.set_set, List.set_set, mn_set hk] at h3
  exact h3
theorem mn_cells {w : World} {B g n k : Nat} (h : OwnM w B g n k) (hk : k < n) :
    (w.cell? ⟨g, k * 3, none⟩ = some (.string ⟨#[]⟩) ∧ w.cell? ⟨g, k * 3 + 1, none⟩ = some (.int .i64 0) ∧ w.cell? ⟨g, k * 3 + 2, none⟩ = some (.string ⟨#[]⟩)) ∧
      (w.frozen? ⟨g, k * 3, none⟩ = false ∧ w.frozen? ⟨g, k * 3 + 1, none⟩ = false ∧ w.frozen? ⟨g, k * 3 + 2, none⟩ = false) ∧ B ≤ g := by
  obtain ⟨g', e, hB, _, hfz, hc⟩ := own_some rv_len (by decide) (by omega) h
  cases e
  exact ⟨⟨hc k 0 _ _ (mn_at hk) (by decide) rfl, hc k 1 _ _ (mn_at hk) (by decide) rfl, hc k 2 _ _ (mn_at hk) (by decide) rfl⟩, ⟨hfz _, hfz _, hfz _⟩, hB⟩
theorem mn_row {w : World} {B g n : Nat} (h : OwnM w B g n n) : RowR w (some ⟨g, 0, none⟩) (List.replicate n gR) := by
  have := RowG.own rv_len (by decide) h
  rwa [mn_full] at this
/-- The text of k times one line. -/
def mnT (k : Nat) : ByteArray := ⟨(loL (List.replicate k gR)).toArray⟩
theorem mnT_zero : mnT 0 = ⟨#[]⟩ := rfl
theorem mnT_succ (k : Nat) : mnT k ++ ⟨#[97, 9, 49, 9, 120, 10]⟩ = mnT (k + 1) := by
  refine of_bl ?_
  rw [bl_app]
  show loL _ ++ [97, 9, 49, 9, 120, 10] = loL _
  rw [List.replicate_succ', loL_snoc, gR_t]
theorem mnT_size (k : Nat) : (mnT k).size = k * 6 := by
  show (loL (List.replicate k gR)).toArray.size = _
  induction k with
  | zero => rfl
  | succ k ih =>
    rw [List.size_toArray] at ih ⊢
    rw [List.replicate_succ', loL_snoc, List.length_append, ih, gR_t]
    show _ + 6 = _
    omega
theorem mnT_load (k : Nat) (h : 256 ≤ k) : ldL (bl (mnT k)) = List.replicate 256 gR := ld_many 256 k gR gR_ok h
theorem mn_long {n : Nat} (h : 256 < n) : loOk (List.replicate n gR) = false ∧ loE (List.replicate n gR) = 1400 ∧ loT (List.replicate n gR) = [] := by
  have e : loOk (List.replicate n gR) = false := by unfold loOk; rw [List.length_replicate, decide_eq_false (by omega)]; rfl
  exact ⟨e, (lo_no e).2, (lo_no e).1⟩
theorem mn_fit : loOk (List.replicate 256 gR) = true := lo_of (Nat.le_of_eq List.length_replicate) (fun r hr => by rw [(List.mem_replicate.1 hr).2]; exact gR_ok)

end Go.Proofs.YtgbegdgacjodcaaDoor
