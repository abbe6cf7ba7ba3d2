/- Plain facts on a text that the library cuts at one sign, or takes a sign out of, with no program in them; no conditions. -/
import Derived.Test.YtgbegdgacjodcaaDoorRfPlain
import Derived.Lib.SplitLaws
import Derived.Lib.IndexLaws
namespace Go.Proofs.YtgbegdgacjodcaaDoor
open Go.RowKit

theorem idx_none (d : UInt8) (l : List UInt8) (h : Lib.index l [d] = -1) : d ∉ l := by
  rw [Lib.index_one] at h
  intro hm
  obtain ⟨k, hk, e⟩ := List.getElem_of_mem hm
  exact Lib.indexByte_none h k (by rw [List.getElem?_eq_getElem hk, e])

theorem idx_some (d : UInt8) (l : List UInt8) (i : Nat) (h : Lib.index l [d] = i) : i < l.length ∧ l = l.take i ++ d :: l.drop (i + 1) ∧ d ∉ l.take i := by
  rw [Lib.index_one] at h
  obtain ⟨h1, h2⟩ := Lib.indexByte_some h
  obtain ⟨hi, e⟩ := List.getElem?_eq_some_iff.1 h1
  refine ⟨hi, ?_, ?_⟩
  · conv => lhs; rw [← List.take_append_drop i l, List.drop_eq_getElem_cons hi, e]
  · intro hm
    obtain ⟨k, hk, e2⟩ := List.getElem_of_mem hm
    have hki : k < i := by simp at hk; omega
    refine h2 k hki ?_
    rw [← e2, List.getElem_take, ← List.getElem?_eq_getElem]

theorem splitK_spc (d : UInt8) : ∀ (k : Nat) (l : List UInt8), Lib.count l [d] = k → Lib.splitK [d] 0 k l = spc d l
  | 0, l, h => by
    by_cases hi : Lib.index l [d] = -1
    · rw [spc_plain d l (idx_none d l hi)]; rfl
    · have hg := Lib.index_ge l [d]
      obtain ⟨i, hi'⟩ : ∃ i : Nat, Lib.index l [d] = i := ⟨(Lib.index l [d]).toNat, by omega⟩
      rw [Lib.count_hit (by simp) hi'] at h; omega
  | k + 1, l, h => by
    by_cases hi : Lib.index l [d] = -1
    · rw [Lib.count_miss hi] at h; omega
    · have hg := Lib.index_ge l [d]
      obtain ⟨i, hi'⟩ : ∃ i : Nat, Lib.index l [d] = i := ⟨(Lib.index l [d]).toNat, by omega⟩
      have hc := Lib.count_hit (sub := [d]) (by simp) hi'
      have e := (idx_some d l i hi').2
      rw [Lib.splitK, if_neg (fun e => hi (beq_iff_eq.1 e)), hi']
      have ih := splitK_spc d k (l.drop (i + 1)) (by simp at hc; omega)
      simp only [Int.toNat_natCast, Nat.add_zero, List.length_cons, List.length_nil, Nat.zero_add]
      rw [ih]
      conv => rhs; rw [e.1]
      rw [spc_app, spc_plain d _ e.2]; rfl

theorem splitB_spc (d : UInt8) (s : ByteArray) : (Lib.splitB ⟨#[d]⟩ 0 (Lib.countB s ⟨#[d]⟩) s).map bl = spc d (bl s) := by
  have := splitK_spc d (Lib.count (bl s) [d]) (bl s) rfl
  rw [← this]
  exact Lib.splitB_data ⟨#[d]⟩ 0 _ s

/-- A text without a sign. -/
def without (d : UInt8) (l : List UInt8) : List UInt8 := l.filter (· != d)

theorem without_app (d : UInt8) (a b : List UInt8) : without d (a ++ b) = without d a ++ without d b := List.filter_append ..
theorem without_len (d : UInt8) (l : List UInt8) : (without d l).length ≤ l.length := List.length_filter_le ..
theorem without_self (d : UInt8) (l : List UInt8) (h : d ∉ l) : without d l = l :=
  List.filter_eq_self.2 fun a ha => by simp only [bne_iff_ne]; exact fun e => h (e ▸ ha)
theorem without_one (d : UInt8) : without d [d] = [] := by simp [without]

theorem take_mid (a b c : List UInt8) (d : UInt8) : (a ++ (b ++ d :: c)).take (a.length + b.length + 1) = a ++ (b ++ [d]) := by
  rw [show a ++ (b ++ d :: c) = (a ++ (b ++ [d])) ++ c by simp, List.take_left' (by simp; omega)]

/-- The round of a taking out: the sign is met at place i of what is left. -/
theorem without_step (d : UInt8) (l : List UInt8) (f i : Nat) (h : Lib.index (l.drop f) [d] = i) :
    f + i < l.length ∧ without d (l.take (f + i + 1)) = without d (l.take f) ++ (l.take (f + i)).drop f ∧ (l.drop f).count d = (l.drop (f + i + 1)).count d + 1 := by
  obtain ⟨h1, h2, h3⟩ := idx_some d _ i h
  rw [List.length_drop] at h1
  have e1 : (l.drop f).take i = (l.take (f + i)).drop f := by rw [List.drop_take]; congr 1; omega
  have e2 : (l.drop f).drop (i + 1) = l.drop (f + i + 1) := by rw [List.drop_drop]; congr 1
  rw [e1] at h2 h3
  rw [e2] at h2
  refine ⟨by omega, ?_, ?_⟩
  · have e3 : l.take (f + i + 1) = l.take f ++ ((l.take (f + i)).drop f ++ [d]) := by
      have : l = l.take f ++ ((l.take (f + i)).drop f ++ d :: l.drop (f + i + 1)) := by rw [← h2, List.take_append_drop]
      have hl : (l.take f).length = f := by rw [List.length_take]; omega
      have hl2 : ((l.take (f + i)).drop f).length = i := by rw [List.length_drop, List.length_take]; omega
      have hT := take_mid (l.take f) ((l.take (f + i)).drop f) (l.drop (f + i + 1)) d
      rw [← this, hl, hl2] at hT
      exact hT
    rw [e3, without_app, without_app, without_self d _ h3, without_one, List.append_nil]
  · rw [h2, List.count_append, List.count_cons_self, List.count_eq_zero.2 h3]; omega

theorem without_none (d : UInt8) (l : List UInt8) (f : Nat) (h : (l.drop f).count d = 0) : without d l = without d (l.take f) ++ l.drop f := by
  conv => lhs; rw [← List.take_append_drop f l]
  rw [without_app, without_self d (l.drop f) (List.count_eq_zero.1 h)]

theorem index_of_count (d : UInt8) (l : List UInt8) (h : 0 < l.count d) : ∃ i : Nat, Lib.index l [d] = i := by
  have hg := Lib.index_ge l [d]
  by_cases hi : Lib.index l [d] = -1
  · have := List.count_eq_zero.2 (idx_none d l hi); omega
  · exact ⟨(Lib.index l [d]).toNat, by omega⟩

theorem without_zero (d : UInt8) (l : List UInt8) (h : l.count d = 0) : without d l = l := without_self d l (List.count_eq_zero.1 h)

end Go.Proofs.YtgbegdgacjodcaaDoor
