/- Plain facts on a disk that is written in any row: files stand by name, each as last written; no conditions. -/
import Derived.Test.YtghfohhlcfelhaaDoorDkPlain
namespace Go.Proofs.YtghfohhlcfelhaaDoor
open Go.RowKit

def nmR (r : Nat) : Tx := [102, UInt8.ofNat (97 + r)]
theorem nmR_may : ∀ r < 16, pthB (nmR r) = true := by decide +kernel
theorem nmR_lt : ∀ r < 16, ∀ q < 16, ltT (nmR r) (nmR q) = decide (r < q) := by decide +kernel
theorem nmR_eq {m : Nat} {c : UInt8} (h : (c.toNat : Int) = 97 + (m : Int)) (hm : m < 16) : (⟨#[102]⟩ : ByteArray) ++ ⟨#[c]⟩ = ⟨(nmR m).toArray⟩ := by
  have e : c = UInt8.ofNat (97 + m) := by
    apply UInt8.toNat_inj.1
    rw [UInt8.toNat_ofNat']; omega
  rw [e]
  exact of_bl (by rw [bl_app]; rfl)

def updI (f : Nat → Int) (r : Nat) (v : Int) : Nat → Int := fun q => if q = r then v else f q
theorem updI_same (f : Nat → Int) (r : Nat) (v : Int) : updI f r v r = v := by unfold updI; rw [if_pos rfl]
theorem updI_other (f : Nat → Int) {r q : Nat} (v : Int) (h : q ≠ r) : updI f r v q = f q := by unfold updI; rw [if_neg h]

def rowE (l wh : Nat → Int) (k : Nat) : List Fl := if 0 < l k then [(nmR k, wh k, l k)] else []
def rowP (l wh : Nat → Int) (ks : List Nat) : List Fl := ks.flatMap (rowE l wh)
theorem rowP_nil (l wh : Nat → Int) : rowP l wh [] = [] := rfl
theorem rowP_cons (l wh : Nat → Int) (k : Nat) (ks : List Nat) : rowP l wh (k :: ks) = rowE l wh k ++ rowP l wh ks := by unfold rowP; rw [List.flatMap_cons]
theorem rowP_app (l wh : Nat → Int) (a b : List Nat) : rowP l wh (a ++ b) = rowP l wh a ++ rowP l wh b := by unfold rowP; rw [List.flatMap_append]
theorem rowP_le (l wh : Nat → Int) : ∀ ks : List Nat, (rowP l wh ks).length ≤ ks.length
  | [] => by rw [rowP_nil]; exact Nat.le_refl _
  | k :: r => by
    have := rowP_le l wh r
    rw [rowP_cons, List.length_append, List.length_cons]
    have : (rowE l wh k).length ≤ 1 := by unfold rowE; split <;> simp
    omega
theorem lo_row (l wh : Nat → Int) {r : Nat} (hr : r < 16) : ∀ (ks : List Nat), (∀ k ∈ ks, k < 16) → loF (rowP l wh ks) (nmR r) = rowP l wh (ks.filter fun k => decide (k < r))
  | [], _ => rfl
  | k :: t, h => by
    have ih := lo_row l wh hr t (fun x hx => h x (by simp [hx]))
    unfold loF at ih ⊢
    rw [rowP_cons, List.filter_append, ih, List.filter_cons]
    have hk := nmR_lt k (h k (by simp)) r hr
    by_cases hkr : k < r
    · rw [decide_eq_true hkr] at hk
      rw [if_pos (by simpa using hkr), rowP_cons]
      congr 1
      unfold rowE
      split
      · rw [List.filter_cons_of_pos (by simpa using hk)]; rfl
      · rfl
    · rw [decide_eq_false hkr] at hk
      rw [if_neg (by simpa using hkr)]
      have : (rowE l wh k).filter (fun g => ltT g.1 (nmR r)) = [] := by
        unfold rowE
        split
        · rw [List.filter_cons_of_neg (by simpa using hk)]; rfl
        · rfl
      rw [this, List.nil_append]
theorem hi_row (l wh : Nat → Int) {r : Nat} (hr : r < 16) : ∀ (ks : List Nat), (∀ k ∈ ks, k < 16) → hiF (rowP l wh ks) (nmR r) = rowP l wh (ks.filter fun k => decide (r < k))
  | [], _ => rfl
  | k :: t, h => by
    have ih := hi_row l wh hr t (fun x hx => h x (by simp [hx]))
    unfold hiF at ih ⊢
    rw [rowP_cons, List.filter_append, ih, List.filter_cons]
    have hk := nmR_lt r hr k (h k (by simp))
    by_cases hkr : r < k
    · rw [decide_eq_true hkr] at hk
      rw [if_pos (by simpa using hkr), rowP_cons]
      congr 1
      unfold rowE
      split
      · rw [List.filter_cons_of_pos (by simpa using hk)]; rfl
      · rfl
    · rw [decide_eq_false hkr] at hk
      rw [if_neg (by simpa using hkr)]
      have : (rowE l wh k).filter (fun g => ltT (nmR r) g.1) = [] := by
        unfold rowE
        split
        · rw [List.filter_cons_of_neg (by simpa using hk)]; rfl
        · rfl
      rw [this, List.nil_append]
theorem row_upd (l wh : Nat → Int) {r : Nat} (t x : Int) : ∀ (ks : List Nat), r ∉ ks → rowP (updI l r t) (updI wh r x) ks = rowP l wh ks
  | [], _ => rfl
  | k :: s, h => by
    have hk : k ≠ r := fun e => h (by simp [e])
    rw [rowP_cons, rowP_cons, row_upd l wh t x s (fun hm => h (by simp [hm]))]
    congr 1
    unfold rowE
    rw [updI_other l t hk, updI_other wh x hk]
theorem r16_split : ∀ r < 16, List.range 16 = ((List.range 16).filter fun k => decide (k < r)) ++ r :: ((List.range 16).filter fun k => decide (r < k)) := by decide +kernel
abbrev rowN16 (l wh : Nat → Int) : List Fl := rowP l wh (List.range 16)
theorem put_row (l wh : Nat → Int) {r : Nat} (hr : r < 16) {t : Int} (ht : 0 < t) (x : Int) : putL (rowN16 l wh) (nmR r) x t = rowN16 (updI l r t) (updI wh r x) := by
  have h16 : ∀ k ∈ List.range 16, k < 16 := fun k hk => List.mem_range.1 hk
  unfold putL
  rw [lo_row l wh hr _ h16, hi_row l wh hr _ h16]
  show _ = rowP _ _ (List.range 16)
  conv => rhs; rw [r16_split r hr]
  rw [rowP_app, rowP_cons, row_upd l wh t x _ (by simp), row_upd l wh t x _ (by simp)]
  congr 1
  unfold rowE
  rw [updI_same, updI_same, if_pos ht]; rfl
theorem row_len (l wh : Nat → Int) : (rowN16 l wh).length ≤ 16 := by
  have := rowP_le l wh (List.range 16)
  rw [List.length_range] at this; exact this
theorem row_put {l wh : Nat → Int} {c : Int} (hd : DkOk c (rowN16 l wh)) (hc : c < 1048576) {r : Nat} (hr : r < 16) {x : Int} (hx : coOk x = true) :
    putE c (rowN16 l wh) (nmR r) x = 0 ∧ putC c (rowN16 l wh) (nmR r) x = c + 1 ∧ putF c (rowN16 l wh) (nmR r) x = rowN16 (updI l r (c + 1)) (updI wh r x) ∧ DkOk (c + 1) (rowN16 (updI l r (c + 1)) (updI wh r x)) := by
  have hf : fulB c (rowN16 l wh) (nmR r) = false := by
    unfold fulB
    have := row_len l wh
    rw [decide_eq_false (by omega), decide_eq_false (show ¬ (rowN16 l wh).length = 64 by omega)]; simp
  have he : putE c (rowN16 l wh) (nmR r) x = 0 := by unfold putE; rw [dk_of hd, nmR_may r hr, hx, hf]; rfl
  have h0 := hd.c0
  have hp := put_row l wh hr (t := c + 1) (by omega) x
  refine ⟨he, by unfold putC; rw [if_pos he], by unfold putF; rw [if_pos he, hp], ?_⟩
  rw [← hp]; exact put_may he

/-- An array of numbers. -/
def arrI (n : Nat) (f : Nat → Int) : Array Value := ((List.range n).map fun k => Value.int .i64 (f k)).toArray
theorem arrI_at {n : Nat} (f : Nat → Int) {k : Nat} (h : k < n) : (arrI n f)[k]? = some (.int .i64 (f k)) := by
  unfold arrI
  rw [List.getElem?_toArray, List.getElem?_map, List.getElem?_range h]; rfl
theorem arrI_set {n : Nat} (f : Nat → Int) {k : Nat} (h : k < n) (v : Int) : (arrI n f).setIfInBounds k (.int .i64 v) = arrI n (updI f k v) := by
  apply Array.ext_getElem?
  intro j
  rw [Array.getElem?_setIfInBounds]
  by_cases hj : j < n
  · by_cases he : k = j
    · subst he
      rw [if_pos rfl, if_pos (by unfold arrI; simpa using h), arrI_at _ hj, updI_same]
    · rw [if_neg he, arrI_at _ hj, arrI_at _ hj, updI_other _ _ (Ne.symm he)]
  · have hs : ∀ g : Nat → Int, (arrI n g)[j]? = none := fun g => by
      unfold arrI
      rw [List.getElem?_toArray, List.getElem?_eq_none (by simp; omega)]
    rw [hs, hs]
    by_cases he : k = j
    · omega
    · rw [if_neg he]

end Go.Proofs.YtghfohhlcfelhaaDoor
