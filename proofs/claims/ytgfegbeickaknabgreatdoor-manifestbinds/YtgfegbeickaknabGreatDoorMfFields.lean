/- What the library's Fields answers for a plain text, and package manifest's alone; the conditions: the table of blanks lies in memory. -/
import Derived.Test.YtgfegbeickaknabGreatDoorMfDeep
import Derived.Test.YtgfegbeickaknabGreatDoorMfRdDef
import Derived.Test.YtgfegbeickaknabGreatDoorMfRdPool
import Derived.Shelf.Strings.Fields
namespace Go.Proofs.YtgfegbeickaknabGreatDoor
open Go.RowKit

/-- The table of blanks lies below B. -/
def TabB (B : Nat) (w : World) : Prop := Tryz.lays157_ren.g 0 < B ∧ ∀ c : Nat, c < 256 → w.cell? ⟨Tryz.lays157_ren.g 0, c, none⟩ = some (.int .u8 (if Lib.isSp (UInt8.ofNat c) then 1 else 0))
theorem TabB.below {B : Nat} {w w' : World} (h : TabB B w) (hb : Below B w w') : TabB B w' := ⟨h.1, fun c hc => (hb.cell (p := ⟨Tryz.lays157_ren.g 0, c, none⟩) h.1).trans (h.2 c hc)⟩
theorem TabB.up {B B' : Nat} {w : World} (h : TabB B w) (hb : B ≤ B') : TabB B' w := ⟨Nat.lt_of_lt_of_le h.1 hb, h.2⟩

theorem plain_sp {c : UInt8} (h : (decide (32 ≤ (c.toNat : Int)) && decide ((c.toNat : Int) ≤ 126)) = true) : Lib.isSp c = (c == 32) := by
  simp only [Bool.and_eq_true, decide_eq_true_eq] at h
  unfold Lib.isSp
  have e : ∀ n : UInt8, n.toNat < 32 → (c == n) = false := fun n hn => by
    simp only [beq_eq_false_iff_ne, ne_eq]
    rintro rfl
    omega
  rw [e 9 (by decide), e 10 (by decide), e 11 (by decide), e 12 (by decide), e 13 (by decide)]
  simp

theorem fieldsGo_wd : ∀ (l cur : Tx), plainL l = true → Lib.fieldsGo cur l = one (cur ++ (spc 32 l).headD []) ++ ((spc 32 l).tail.filter fun x => !x.isEmpty)
  | [], cur, _ => by
    rw [Lib.fieldsGo, spc]
    cases cur <;> simp [one]
  | c :: r, cur, h => by
    have hc := plain_sp (c := c) (by unfold plainL at h; simp only [List.all_cons, Bool.and_eq_true] at h ⊢; exact h.1)
    have hr : plainL r = true := by unfold plainL at h ⊢; simp only [List.all_cons, Bool.and_eq_true] at h; exact h.2
    have hn : spc 32 r = (spc 32 r).headD [] :: (spc 32 r).tail := by
      cases hs : spc 32 r with
      | nil => exact absurd hs (spc_ne 32 r)
      | cons a b => rfl
    rw [Lib.fieldsGo, hc, spc]
    by_cases h32 : c = 32
    · have ih := fieldsGo_wd r [] hr
      rw [List.nil_append] at ih
      have hf : ((spc 32 r).filter fun x => !x.isEmpty) = Lib.fieldsGo [] r := by
        rw [ih]
        conv => lhs; rw [hn]
        rw [List.filter_cons]
        unfold one
        cases (spc 32 r).headD [] <;> simp
      rw [if_pos h32]
      simp only [List.headD_cons, List.append_nil, List.tail_cons, hf]
      cases cur with
      | nil => simp [one, h32]
      | cons a b => simp [one, h32]
    · have ih := fieldsGo_wd r (cur ++ [c]) hr
      rw [if_neg h32]
      have e : (c == 32) = false := by simpa using h32
      rw [e]
      simp only [Bool.false_eq_true, if_false, List.headD_cons, List.tail_cons]
      rw [ih, List.append_assoc]; rfl

theorem fields_wd {l : Tx} (h : plainL l = true) : Lib.fields l = wdL l := by
  unfold Lib.fields
  rw [fieldsGo_wd l [] h, List.nil_append]
  unfold wdL
  have hn : spc 32 l = (spc 32 l).headD [] :: (spc 32 l).tail := by
    cases hs : spc 32 l with
    | nil => exact absurd hs (spc_ne 32 l)
    | cons a b => rfl
  conv => rhs; rw [hn]
  rw [List.filter_cons]
  unfold one
  cases (spc 32 l).headD [] <;> simp

theorem spc_lens (d : UInt8) : ∀ l : Tx, (spc d l).length ≤ l.length + 1 ∧ ∀ x ∈ spc d l, x.length ≤ l.length
  | [] => ⟨by simp [spc], fun x hx => by simp [spc] at hx; subst hx; simp⟩
  | c :: r => by
    obtain ⟨h1, h2⟩ := spc_lens d r
    unfold spc
    cases hs : spc d r with
    | nil => exact absurd hs (spc_ne d r)
    | cons a b =>
      rw [hs] at h1 h2
      have h3 := h2 a (by simp)
      simp only [List.length_cons] at h1
      split
      · refine ⟨by simp only [List.length_cons]; omega, fun x hx => ?_⟩
        rcases List.mem_cons.1 hx with rfl | hx
        · simp
        · have := h2 x hx; simp only [List.length_cons]; omega
      · refine ⟨by simp only [List.length_cons, List.tail_cons]; omega, fun x hx => ?_⟩
        rcases List.mem_cons.1 hx with rfl | hx
        · simp only [List.headD_cons, List.length_cons]; omega
        · have := h2 x (List.mem_cons_of_mem _ hx); simp only [List.length_cons]; omega
theorem wdL_len (l : Tx) : (wdL l).length ≤ l.length + 1 := Nat.le_trans (List.length_filter_le _ _) (spc_lens 32 l).1
theorem wdL_mem {l x : Tx} (h : x ∈ wdL l) : x.length ≤ l.length := (spc_lens 32 l).2 x (List.mem_filter.1 h).1
theorem lay_tvm (xs : Ws) : lay tv xs = xs.map fun l => Value.string ⟨l.toArray⟩ := by
  induction xs with
  | nil => rfl
  | cons y r ih => rw [lay_cons, ih, List.map_cons]; rfl

theorem fields_any (B : Nat) (s : ByteArray) (w : World) (hs : s.size ≤ 4096) (hp : plainL (bl s) = true) (ht : TabB B w) :
    Calls Tryz.prog 28 #[.string s] w fun e w' => e = .returned (.slice (some ⟨w.heap.size, 0, none⟩) (wdL (bl s)).length (wdL (bl s)).length) ∧ OwnT w' w.heap.size (some ⟨w.heap.size, 0, none⟩) (wdL (bl s)).length (wdL (bl s)) ∧ Q w w' := by
  have hf : Lib.fields s.data.toList = wdL (bl s) := fields_wd hp
  refine (Any.strings_Fields_core Tryz.lays157 Tryz.infoS s w (by omega) ?_ ht.2).mono ?_
  · intro j b hb
    have h1 := List.all_eq_true.1 hp b (List.mem_of_getElem? hb)
    simp only [Bool.and_eq_true, decide_eq_true_eq] at h1
    omega
  · rintro e w' ⟨rfl, rfl⟩
    rw [hf]
    refine ⟨rfl, ?_, (Q.refl w).alloc _⟩
    have hl : (wdL (bl s)).length ≤ 4097 := by
      have := wdL_len (bl s)
      rw [bl_size] at this; omega
    refine ⟨lay_length tv_len _, Or.inr ⟨w.heap.size, (wdL (bl s)).length, ((wdL (bl s)).map fun l => Value.string ⟨l.toArray⟩).toArray, rfl, Nat.le_refl _, heap_alloc_new w _, Nat.le_refl _, by unfold maxLen; omega, by simp, ?_⟩⟩
    rw [lay_tvm]; simp only [Nat.mul_one]
    exact List.take_of_length_le (by simp)

theorem alone_any (w : World) :
    Calls Tryz.prog 10 #[] w fun e w' => e = .returned (.agg #[.func (.func 19) #[] #[], .func (.func 20) #[] #[]]) ∧ Q w w' := by
  go_enter Tryz.func10, Tryz.ntmps10
  go_wp2_with fail
  exact bodyPost_ret (v := .agg #[.func (.func 19) #[] #[], .func (.func 20) #[] #[]]) (by simp [results, Tryz.results10, go_sem]) rfl ⟨rfl, (Q.refl w).alloc _⟩

theorem ovL_un {s s1 : Sm} (h : ovL s = .ok s1) : s1.un = none := by
  unfold ovL at h
  split at h
  · rename_i e; cases h; exact e
  · split at h
    · cases h
    · cases h; rfl
  · split at h
    · cases h
    · cases h; rfl
  · split at h
    · cases h
    · cases h; rfl
theorem wU_none {s : Sm} (h : s.un = none) : s.wU none = s := by
  cases s; unfold Sm.wU; simp only at h ⊢; rw [h]

end Go.Proofs.YtgfegbeickaknabGreatDoor
