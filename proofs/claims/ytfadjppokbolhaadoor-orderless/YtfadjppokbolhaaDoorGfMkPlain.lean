/- In a graph that is right each output has its own edge: plain facts, no program in them; no conditions. -/
import Derived.Test.YtfadjppokbolhaaDoorGfPlain
namespace Go.Proofs.YtfadjppokbolhaaDoor
open Go.RowKit

theorem ck_nodup {g : Gh} (h : ckE g = 0) : gmB g = true ∧ (ouL g.1).Nodup := by
  unfold ckE at h
  cases hm : gmB g
  · rw [hm] at h; simp at h
  · rw [hm] at h
    refine ⟨rfl, ?_⟩
    cases ht : twB (ouL g.1)
    · unfold twB at ht; simpa using ht
    · rw [ht] at h; simp at h
theorem ou_mem {es : List Ed} {i : Nat} {e : Ed} {x : Tx} (h : es[i]? = some e) (hx : x ∈ e.1) (hn : (ouL es).Nodup) : ∀ (j : Nat) (f : Ed), es[j]? = some f → x ∈ f.1 → j = i := by
  have key : ∀ (es : List Ed) (i j : Nat) (e f : Ed), i < j → es[i]? = some e → es[j]? = some f → x ∈ e.1 → x ∈ f.1 → ¬ (ouL es).Nodup := by
    intro es
    induction es with
    | nil => intro i j e f _ h1; simp at h1
    | cons a r ih =>
      intro i j e f hij h1 h2 hx hy hn
      unfold ouL at hn
      rw [List.flatMap_cons, List.nodup_append] at hn
      obtain ⟨j', rfl⟩ : ∃ j', j = j' + 1 := ⟨j - 1, by omega⟩
      rw [List.getElem?_cons_succ] at h2
      cases i with
      | zero =>
        rw [List.getElem?_cons_zero] at h1
        cases h1
        exact hn.2.2 x hx x (List.mem_flatMap.2 ⟨f, List.mem_of_getElem? h2, hy⟩) rfl
      | succ i' =>
        rw [List.getElem?_cons_succ] at h1
        exact ih i' j' e f (by omega) h1 h2 hx hy hn.2.1
  intro j f hf hy
  rcases Nat.lt_trichotomy i j with hl | hl | hl
  · exact absurd hn (key es i j e f hl h hf hx hy)
  · exact hl.symm
  · exact absurd hn (key es j i f e hl hf h hy hx)
theorem mk_own {es : List Ed} {i : Nat} {e : Ed} {x : Tx} (h : es[i]? = some e) (hx : x ∈ e.1) (hn : (ouL es).Nodup) : mkA es x = i := by
  unfold mkA
  refine ixB_at h ?_ (List.contains_iff_mem.2 hx)
  rw [List.any_eq_false]
  intro f hf hc
  obtain ⟨j, hj, rfl⟩ := List.mem_take_iff_getElem.1 hf
  have := ou_mem h hx hn j _ (List.getElem?_eq_getElem (by omega)) (List.contains_iff_mem.1 hc)
  omega
theorem mk_is {es : List Ed} {x : Tx} {i : Nat} (h : mkA es x = i) : ∃ e, es[i]? = some e ∧ x ∈ e.1 := by
  unfold mkA ixB at h
  cases hf : es.findIdx? (fun e : Ed => e.1.contains x) with
  | none => rw [hf] at h; simp at h
  | some k =>
    rw [hf] at h
    obtain rfl : k = i := Int.ofNat_inj.1 h
    obtain ⟨hk, h1, _⟩ := List.findIdx?_eq_some_iff_getElem.1 hf
    exact ⟨_, List.getElem?_eq_getElem hk, List.contains_iff_mem.1 h1⟩

end Go.Proofs.YtfadjppokbolhaaDoor
