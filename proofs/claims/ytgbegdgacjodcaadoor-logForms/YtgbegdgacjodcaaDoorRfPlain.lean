/- Plain facts on texts that are cut at a sign and joined, with no program in them; no conditions. -/
import Derived.Test.YtgbegdgacjodcaaDoorPtPlain
namespace Go.Proofs.YtgbegdgacjodcaaDoor
open Go.RowKit

def bl (x : ByteArray) : List UInt8 := x.data.toList

theorem bl_toList (x : ByteArray) : x.toList = bl x := Lib.toList_data x
theorem bl_size (x : ByteArray) : (bl x).length = x.size := by unfold bl; rw [Array.length_toList]; rfl
theorem of_bl {t : ByteArray} {l : List UInt8} (h : bl t = l) : t = ⟨l.toArray⟩ := by
  obtain ⟨⟨d⟩⟩ := t; unfold bl at h; subst h; rfl
theorem bl_mk (l : List UInt8) : bl ⟨l.toArray⟩ = l := rfl
theorem bl_app (a b : ByteArray) : bl (a ++ b) = bl a ++ bl b := by unfold bl; rw [ByteArray.data_append, Array.toList_append]
theorem bl_extract (s : ByteArray) (a b : Nat) : bl (s.extract a b) = ((bl s).take b).drop a := by
  unfold bl; rw [Lib.extract_data, List.drop_take]
theorem bl_getElem (s : ByteArray) (k : Nat) (h : k < s.size) : (bl s)[k]? = some s[k] := Lib.data_getElem? s k h

/-- A text cut at each sign d. -/
def spc (d : UInt8) : List UInt8 → List (List UInt8)
  | [] => [[]]
  | c :: r => if c = d then [] :: spc d r else (c :: (spc d r).headD []) :: (spc d r).tail

theorem spc_47 : ∀ l, spc 47 l = sp l
  | [] => rfl
  | c :: r => by rw [spc, sp, spc_47 r]

theorem spc_ne (d : UInt8) (l : List UInt8) : spc d l ≠ [] := by
  cases l with
  | nil => simp [spc]
  | cons c r => unfold spc; split <;> simp

theorem spc_plain (d : UInt8) : ∀ (p : List UInt8), d ∉ p → spc d p = [p]
  | [], _ => rfl
  | c :: r, h => by
    have hc : c ≠ d := fun e => h (by simp [e])
    have hr : d ∉ r := fun e => h (by simp [e])
    rw [spc, if_neg hc, spc_plain d r hr]; rfl

theorem spc_app (d : UInt8) : ∀ (a b : List UInt8), spc d (a ++ d :: b) = spc d a ++ spc d b
  | [], b => by simp [spc]
  | c :: r, b => by
    have ih := spc_app d r b
    rw [List.cons_append, spc, spc, ih]
    have hn := spc_ne d r
    by_cases hc : c = d
    · simp [hc]
    · rw [if_neg hc, if_neg hc]
      cases h : spc d r with
      | nil => exact absurd h hn
      | cons x y => simp

theorem spc_len (d : UInt8) : ∀ l : List UInt8, (spc d l).length ≤ l.length + 1
  | [] => by simp [spc]
  | c :: r => by
    have := spc_len d r
    rw [spc]; split <;> simp <;> omega

/-- The round in which the sign is met. -/
theorem spc_hit (d : UInt8) (l : List UInt8) (f k : Nat) (hf : f ≤ k) (hk : l[k]? = some d) (hno : d ∉ (l.drop f).take (k - f)) :
    spc d (l.drop f) = (l.take k).drop f :: spc d (l.drop (k + 1)) := by
  have hl : k < l.length := by
    rcases Nat.lt_or_ge k l.length with h | h
    · exact h
    · rw [List.getElem?_eq_none h] at hk; cases hk
  have e1 : l.drop f = (l.drop f).take (k - f) ++ d :: l.drop (k + 1) := by
    conv => lhs; rw [← List.take_append_drop (k - f) (l.drop f)]
    rw [List.drop_drop, show f + (k - f) = k by omega, List.drop_eq_getElem_cons hl]
    rw [List.getElem?_eq_getElem hl] at hk
    cases hk; rfl
  rw [e1, spc_app, spc_plain d _ hno]
  rw [List.drop_take]; rfl

theorem spc_last (d : UInt8) (l : List UInt8) (f : Nat) (hno : d ∉ (l.drop f).take (l.length - f)) : spc d (l.drop f) = [l.drop f] := by
  rw [List.take_of_length_le (by simp)] at hno
  exact spc_plain d _ hno

theorem no_next (d : UInt8) (l : List UInt8) (f k : Nat) (hf : f ≤ k) (x : UInt8) (hk : l[k]? = some x) (hx : x ≠ d) (hno : d ∉ (l.drop f).take (k - f)) : d ∉ (l.drop f).take (k + 1 - f) := by
  rw [show k + 1 - f = (k - f) + 1 by omega, List.take_add_one, List.getElem?_drop, show f + (k - f) = k by omega, hk]
  simp only [Option.toList_some, List.mem_append, List.mem_singleton]
  rintro (h | h)
  · exact hno h
  · exact hx h.symm

/-- Joined, one more. -/
theorem join_next (sep : List UInt8) (xs : List (List UInt8)) (k : Nat) (x : List UInt8) (h : xs[k]? = some x) :
    Lib.join (xs.take (k + 1)) sep = Lib.join (xs.take k) sep ++ (if k = 0 then [] else sep) ++ x := by
  rw [List.take_add_one, h]
  cases k with
  | zero => simp [Lib.join_one, Lib.join_nil]
  | succ k =>
    cases xs with
    | nil => simp at h
    | cons a r =>
      rw [List.take_succ_cons, List.cons_append, Lib.join_cons, Lib.join_cons]
      simp [Lib.joinTail]

theorem join_take_le (sep : List UInt8) (xs : List (List UInt8)) (k : Nat) : (Lib.join (xs.take k) sep).length ≤ (Lib.join xs sep).length := by
  cases xs with
  | nil => simp
  | cons a r =>
    cases k with
    | zero => simp [Lib.join_nil]
    | succ k =>
      rw [List.take_succ_cons, Lib.join_cons, Lib.join_cons]
      have := Lib.joinTail_take_le sep r k
      simp; omega

end Go.Proofs.YtgbegdgacjodcaaDoor
