/- Edges in a ring, and the same in a row: plain facts, no program in them; no conditions. -/
import Derived.Test.YtfadjppokbolhaaDoorOrLsPlain
namespace Go.Proofs.YtfadjppokbolhaaDoor
open Go.RowKit

def ocN (i : Nat) : Tx := [111, UInt8.ofNat (97 + i)]
/-- Edge i takes what edge j makes, by the list of number q. -/
def oe (q i j : Nat) : Ed := ([ocN i], if q = 0 then [ocN j] else [], if q = 1 then [ocN j] else [], if q = 0 then [] else if q = 1 then [] else [ocN j], [120], false, [])
def oz (i : Nat) : Ed := ([ocN i], [], [], [], [120], false, [])
/-- The list's number, of the kinds. -/
def ocK (n : Int) (i : Nat) : Nat := ((n / 2 ^ i) % 4).toNat
def ocR (k : Nat) (n : Int) : List Ed := (List.range k).map fun i => oe (ocK n i) i ((i + 1) % k)
def ocO (k : Nat) (n : Int) : List Ed := (ocR k n).set (k - 1) (oz (k - 1))
theorem ocN_inj {i j : Nat} (hi : i < 16) (hj : j < 16) (h : ocN i = ocN j) : i = j := by
  unfold ocN at h
  simp only [List.cons.injEq, and_true, true_and] at h
  have := congrArg UInt8.toNat h
  rw [UInt8.toNat_ofNat', UInt8.toNat_ofNat'] at this
  omega
theorem oe_ok : ∀ (i j : Fin 16) (q : Fin 3), edM' [] (oe q.1 i.1 j.1) = true := by decide +kernel
theorem oz_ok : ∀ i : Fin 16, edM' [] (oz i.1) = true := by decide +kernel
theorem oe_two (q i j : Nat) (h : 2 ≤ q) : oe q i j = oe 2 i j := by
  unfold oe
  rw [if_neg (by omega), if_neg (by omega), if_neg (by omega), if_neg (by omega)]; rfl
theorem oe_may {q i j : Nat} (hi : i < 16) (hj : j < 16) : edM' [] (oe q i j) = true := by
  rcases Nat.lt_or_ge q 2 with h | h
  · exact oe_ok ⟨i, hi⟩ ⟨j, hj⟩ ⟨q, by omega⟩
  · rw [oe_two q i j h]; exact oe_ok ⟨i, hi⟩ ⟨j, hj⟩ ⟨2, by omega⟩
theorem oe_in (q i j : Nat) : inL (oe q i j) = [ocN j] := by
  unfold inL oe
  by_cases h0 : q = 0
  · subst h0; rfl
  · by_cases h1 : q = 1
    · subst h1; rfl
    · simp [h0, h1]
theorem oc_len (k : Nat) (n : Int) : (ocR k n).length = k := by simp [ocR]
theorem oc_at {k : Nat} {n : Int} {i : Nat} (h : i < k) : (ocR k n)[i]? = some (oe (ocK n i) i ((i + 1) % k)) := by
  unfold ocR
  rw [List.getElem?_map, List.getElem?_range h]; rfl
theorem oc_outs (k : Nat) (n : Int) : (ocR k n).map (fun e => e.1) = (List.range k).map fun i => [ocN i] := by
  unfold ocR
  rw [List.map_map]; rfl
theorem ouL_map (es : List Ed) : ouL es = (es.map (fun e => e.1)).flatten := by unfold ouL; rw [List.flatMap_def]
theorem oc_ou (k : Nat) (n : Int) : ouL (ocR k n) = (List.range k).map ocN := by
  rw [ouL_map, oc_outs]
  induction (List.range k) with
  | nil => rfl
  | cons a r ih => rw [List.map_cons, List.flatten_cons, ih]; rfl
theorem oc_set (k : Nat) (n : Int) : (ocO k n).map (fun e => e.1) = (ocR k n).map (fun e => e.1) := by
  unfold ocO
  rw [List.map_set]
  refine List.ext_getElem? (fun i => ?_)
  rw [List.getElem?_set]
  by_cases h : k - 1 = i
  · rw [if_pos h]
    subst h
    rw [List.length_map, oc_len]
    by_cases h2 : k - 1 < k
    · rw [if_pos h2, List.getElem?_map, oc_at h2]; rfl
    · rw [if_neg h2, List.getElem?_eq_none (by rw [List.length_map, oc_len]; omega)]
  · rw [if_neg h]
theorem oc_nodup {k : Nat} (hk : k ≤ 16) : ((List.range k).map ocN).Nodup := by
  unfold List.Nodup
  rw [List.pairwise_map]
  refine List.Pairwise.imp_of_mem ?_ List.nodup_range
  intro x y hx hy hne h
  exact hne (ocN_inj (by have := List.mem_range.1 hx; omega) (by have := List.mem_range.1 hy; omega) h)
theorem ck_of {es : List Ed} (hl : es.length ≤ 16) (hm : ∀ e ∈ es, edM' [] e = true) (ht : (ouL es).Nodup) : ckE (es, [], []) = 0 := by
  unfold ckE gmB esB twB
  rw [show plsB [] = true by decide, show ptsB [] = true by decide]
  simp only [Bool.true_and]
  rw [decide_eq_true hl, List.all_eq_true.2 hm, decide_eq_true ht]
  rfl
theorem oc_ck {k : Nat} (n : Int) (hk : k ≤ 16) : ckE (ocR k n, [], []) = 0 := by
  refine ck_of (by rw [oc_len]; exact hk) ?_ (by rw [oc_ou]; exact oc_nodup hk)
  intro e he
  obtain ⟨i, hi, rfl⟩ := List.getElem_of_mem he
  rw [oc_len] at hi
  have := oc_at (n := n) hi
  rw [List.getElem?_eq_getElem (by rw [oc_len]; exact hi)] at this
  rw [Option.some.inj this]
  exact oe_may (by omega) (by have := Nat.mod_lt (i + 1) (show 0 < k by omega); omega)
theorem oc_need {k : Nat} {n : Int} (hk : k ≤ 16) {i j : Nat} (hi : i < k) {es : List Ed} (hes : es.map (fun e => e.1) = (List.range k).map fun i => [ocN i]) : j ∈ ndI es (oe (ocK n i) i ((i + 1) % k)) ↔ j = (i + 1) % k := by
  rw [mem_ndI]
  have hl : es.length = k := by have := congrArg List.length hes; simpa using this
  have hat : ∀ (j : Nat) (m : Ed), es[j]? = some m → m.1 = [ocN j] := fun j m h => by
    have h1 : (es.map (fun e => e.1))[j]? = some m.1 := by rw [List.getElem?_map, h]; rfl
    rw [hes, List.getElem?_map] at h1
    have hj := (List.getElem?_eq_some_iff.1 h).1
    rw [List.getElem?_range (by omega)] at h1
    exact (Option.some.inj h1).symm
  have hmod : (i + 1) % k < k := Nat.mod_lt _ (by omega)
  constructor
  · rintro ⟨m, hm, ht⟩
    have hj := (List.getElem?_eq_some_iff.1 hm).1
    unfold takB at ht
    rw [hat j m hm, List.any_cons, List.any_nil, Bool.or_false, tkO_in, oe_in, List.mem_singleton] at ht
    exact ocN_inj (by omega) (by omega) ht
  · rintro rfl
    have hj : (i + 1) % k < es.length := by omega
    refine ⟨_, List.getElem?_eq_getElem hj, ?_⟩
    unfold takB
    rw [hat _ _ (List.getElem?_eq_getElem hj), List.any_cons, List.any_nil, Bool.or_false, tkO_in, oe_in]
    simp
theorem oc_cyc {k : Nat} (n : Int) (hk : k ≤ 16) (h0 : 0 < k) : orE (ocR k n, [], []) = 1001 := by
  refine (orE_cyc (oc_ck n hk) (ring_none (by rw [oc_len]; exact h0) ?_)).1
  intro i e he
  have hi := (List.getElem?_eq_some_iff.1 he).1
  rw [oc_len] at hi
  rw [oc_at hi] at he
  cases he
  intro hn
  have := (oc_need (n := n) hk hi (oc_outs k n)).2 rfl
  rw [hn] at this; cases this
theorem oz_none (es : List Ed) (i : Nat) : ndI es (oz i) = [] := by
  cases h : ndI es (oz i) with
  | nil => rfl
  | cons a r =>
    have : a ∈ ndI es (oz i) := by rw [h]; simp
    rw [mem_ndI] at this
    obtain ⟨m, _, ht⟩ := this
    unfold takB at ht
    obtain ⟨x, _, hx⟩ := List.any_eq_true.1 ht
    rw [tkO_in] at hx
    cases hx
theorem oco_len (k : Nat) (n : Int) : (ocO k n).length = k := by unfold ocO; rw [List.length_set, oc_len]
theorem oc_row {k : Nat} (n : Int) (hk : k ≤ 16) (h0 : 0 < k) : orE (ocO k n, [], []) = 0 ∧ orL (ocO k n, [], []) = (List.range k).reverse := by
  have hat : ∀ (i : Nat) (e : Ed), (ocO k n)[i]? = some e → i < k ∧ ((i = k - 1 ∧ e = oz i) ∨ (i < k - 1 ∧ e = oe (ocK n i) i ((i + 1) % k))) := fun i e he => by
    have hi := (List.getElem?_eq_some_iff.1 he).1
    rw [oco_len] at hi
    refine ⟨hi, ?_⟩
    unfold ocO at he
    rw [List.getElem?_set] at he
    by_cases h : k - 1 = i
    · left
      rw [if_pos h, if_pos (by rw [oc_len]; omega)] at he
      exact ⟨h.symm, by rw [← h]; exact (Option.some.inj he).symm⟩
    · right
      rw [if_neg h, oc_at hi] at he
      exact ⟨by omega, (Option.some.inj he).symm⟩
  have houts : (ocO k n).map (fun e => e.1) = (List.range k).map fun i => [ocN i] := by rw [oc_set, oc_outs]
  refine orL_of ?_ (by simp [oco_len]) ?_
  · refine ck_of (by rw [oco_len]; exact hk) ?_ (by rw [ouL_map, oc_set, ← ouL_map, oc_ou]; exact oc_nodup hk)
    intro e he
    obtain ⟨i, hi, rfl⟩ := List.getElem_of_mem he
    rcases hat i _ (List.getElem?_eq_getElem hi) with ⟨h1, ⟨_, h2⟩ | ⟨_, h2⟩⟩
    · rw [h2]; exact oz_ok ⟨i, by omega⟩
    · rw [h2]; exact oe_may (by omega) (by have := Nat.mod_lt (i + 1) (show 0 < k by omega); omega)
  · have := row_steps (es := ocO k n) (fun i e he j => by
      rcases hat i e he with ⟨h1, ⟨h2, rfl⟩ | ⟨h2, rfl⟩⟩
      · rw [oz_none, oco_len]
        constructor
        · intro h; cases h
        · rintro ⟨rfl, h⟩; omega
      · rw [oc_need (n := n) hk h1 houts, oco_len, Nat.mod_eq_of_lt (by omega)]
        constructor
        · rintro rfl; exact ⟨rfl, by omega⟩
        · exact fun h => h.1)
    rwa [oco_len] at this ⊢

end Go.Proofs.YtfadjppokbolhaaDoor
