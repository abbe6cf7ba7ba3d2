/- Edges that take what nobody makes: plain facts, no program in them; no conditions. -/
import Derived.Test.YtfadjppokbolhaaDoorOrCyPlain
namespace Go.Proofs.YtfadjppokbolhaaDoor
open Go.RowKit

/-- May a text stand as an input here: a path, and none that is made. -/
def opB (x : Tx) : Bool := pthB x && (decide (x.length ≠ 2) || decide (x.head? ≠ some 111))
def opNs (zs : Ws) (j : Nat) : Ws := (zs.take j).filter opB
def opE (L : Ws) (i : Nat) : Ed := ([ocN i], L, [], [], [120], false, [])
def opR (L : Ws) (k : Nat) : List Ed := (List.range k).map (opE L)
theorem opNs_len (zs : Ws) (j : Nat) : (opNs zs j).length ≤ j := Nat.le_trans (List.length_filter_le _ _) (by rw [List.length_take]; omega)
theorem opNs_yes {zs : Ws} {j : Nat} {x : Tx} (h : zs[j]? = some x) (hx : opB x = true) : opNs zs (j + 1) = opNs zs j ++ [x] := by
  unfold opNs
  rw [List.take_add_one, h, List.filter_append]; simp [hx]
theorem opNs_no {zs : Ws} {j : Nat} {x : Tx} (h : zs[j]? = some x) (hx : opB x = false) : opNs zs (j + 1) = opNs zs j := by
  unfold opNs
  rw [List.take_add_one, h, List.filter_append]; simp [hx]
theorem opNs_mem {zs : Ws} {j : Nat} {x : Tx} (h : x ∈ opNs zs j) : opB x = true ∧ x ∈ zs := by
  unfold opNs at h
  rw [List.mem_filter] at h
  exact ⟨h.2, List.mem_of_mem_take h.1⟩
theorem ocN_no (i : Nat) : opB (ocN i) = false := by unfold opB ocN; simp
theorem op_len (L : Ws) (k : Nat) : (opR L k).length = k := by simp [opR]
theorem op_none {zs : Ws} {j k : Nat} : ∀ e ∈ opR (opNs zs j) k, ndI (opR (opNs zs j) k) e = [] := by
  intro e he
  unfold opR at he
  obtain ⟨i, _, rfl⟩ := List.mem_map.1 he
  cases h : ndI (opR (opNs zs j) k) (opE (opNs zs j) i) with
  | nil => rfl
  | cons a r =>
    have : a ∈ ndI (opR (opNs zs j) k) (opE (opNs zs j) i) := by rw [h]; simp
    rw [mem_ndI] at this
    obtain ⟨m, hm, ht⟩ := this
    unfold opR at hm
    obtain ⟨p, _, rfl⟩ := List.mem_map.1 (List.mem_of_getElem? hm)
    unfold takB at ht
    obtain ⟨x, hx, hxt⟩ := List.any_eq_true.1 ht
    rw [tkO_in] at hxt
    obtain rfl : x = ocN p := by simpa [opE] using hx
    have h2 : ocN p ∈ opNs zs j := by simpa [inL, opE] using hxt
    have := (opNs_mem h2).1
    rw [ocN_no] at this; cases this
theorem op_ou (L : Ws) (k : Nat) : ouL (opR L k) = (List.range k).map ocN := by
  rw [ouL_map]
  unfold opR
  rw [List.map_map]
  induction (List.range k) with
  | nil => rfl
  | cons a r ih => rw [List.map_cons, List.flatten_cons, ih]; rfl
theorem op_out : ∀ i : Fin 16, ptsB [ocN i.1] = true := by decide +kernel
theorem op_ck {zs : Ws} {j k : Nat} (hk : k ≤ 16) (hj : j ≤ 8) : ckE (opR (opNs zs j) k, [], []) = 0 := by
  refine ck_of (by rw [op_len]; exact hk) ?_ (by rw [op_ou]; exact oc_nodup hk)
  intro e he
  unfold opR at he
  obtain ⟨i, hi, rfl⟩ := List.mem_map.1 he
  have hi2 := List.mem_range.1 hi
  have h1 : ptsB (opNs zs j) = true := by
    unfold ptsB
    rw [decide_eq_true (by have := opNs_len zs j; omega), Bool.true_and, List.all_eq_true]
    intro x hx
    have := (opNs_mem hx).1
    unfold opB at this
    rw [Bool.and_eq_true] at this
    exact this.1
  unfold edM' edOk opE
  simp [h1, op_out ⟨i, by omega⟩, show cmB [120] = true by decide, show plB [] = true by decide, show ptsB [] = true by decide]
theorem op_row {zs : Ws} {j k : Nat} (hk : k ≤ 16) (hj : j ≤ 8) : orE (opR (opNs zs j) k, [], []) = 0 ∧ orL (opR (opNs zs j) k, [], []) = List.range k := by
  refine orL_of (op_ck hk hj) (by simp [op_len]) ?_
  have := plain_steps (es := opR (opNs zs j) k) op_none
  rwa [op_len] at this ⊢

end Go.Proofs.YtfadjppokbolhaaDoor
