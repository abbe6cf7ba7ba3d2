/- Plain facts on cut texts: how many pieces there are, how long they are; texts one behind the other; with no program in them; no conditions. -/
import Derived.Test.YtanmmcelidnefaaPcPlain
namespace Go.Proofs.Ytanmmcelidnefaa
open Go.RowKit

def vsize : Tok → Nat
  | .t _ => 0
  | .v n => n.length

theorem tk_vsize {l : List UInt8} {x : Tok} {k : Nat} (h : tk l = some (x, k)) : vsize x ≤ 16 := by
  unfold tk at h
  split at h
  · cases h
  · split at h
    · simp at h; obtain ⟨rfl, _⟩ := h; simp [vsize]
    · split at h
      · cases h
      · split at h
        · simp at h; obtain ⟨rfl, _⟩ := h; simp [vsize]
        · split at h
          · split at h
            · simp at h; obtain ⟨rfl, _⟩ := h; simp [vsize]; omega
            · cases h
          · split at h
            · simp at h; obtain ⟨rfl, _⟩ := h; simp [vsize]; omega
            · cases h

theorem tksF_facts : ∀ (n : Nat) (l : List UInt8) (ts : List Tok), tksF n l = some ts → ts.length ≤ l.length ∧ ∀ x ∈ ts, vsize x ≤ 16
  | _, [], ts, h => by simp [tksF] at h; subst h; simp
  | 0, c :: r, ts, h => by simp [tksF] at h
  | n + 1, c :: r, ts, h => by
    unfold tksF at h
    cases ht : tk (c :: r) with
    | none => rw [ht] at h; cases h
    | some xk =>
      obtain ⟨x, k⟩ := xk
      rw [ht] at h
      simp only [Option.map_eq_some_iff] at h
      obtain ⟨us, hu, rfl⟩ := h
      obtain ⟨h1, h2⟩ := tksF_facts n _ us hu
      have hk := tk_pos ht
      refine ⟨?_, ?_⟩
      · rw [List.length_drop] at h1; simp only [List.length_cons] at *; omega
      · intro y hy
        rcases List.mem_cons.1 hy with rfl | hy
        · exact tk_vsize ht
        · exact h2 y hy

theorem tks_facts {l : List UInt8} {ts : List Tok} (h : tks l = some ts) : ts.length ≤ l.length ∧ ∀ x ∈ ts, vsize x ≤ 16 := tksF_facts _ _ _ h

theorem addAll_facts : ∀ (ts : List Tok) (ps : List Pc) (n : Nat), 16 ≤ n → most n ps → (∀ x ∈ ts, vsize x ≤ 16) → most (n + ts.length) (addAll ps ts) ∧ (addAll ps ts).length ≤ ps.length + ts.length
  | [], ps, n, _, hm, _ => ⟨hm, by simp [addAll]⟩
  | x :: r, ps, n, h16, hm, hv => by
    have hx : most (n + 1) (add ps x) := by
      cases x with
      | t c => exact most_t hm c
      | v m => exact most_snoc (most_mono hm (by omega)) (by have := hv (.v m) (by simp); simp [vsize] at this ⊢; omega)
    have := addAll_facts r (add ps x) (n + 1) (by omega) hx (fun y hy => hv y (by simp [hy]))
    have hl := add_len ps x
    have e : addAll ps (x :: r) = addAll (add ps x) r := rfl
    rw [e]
    exact ⟨most_mono this.1 (by simp; omega), by simp; omega⟩

theorem cutP_facts (l : List UInt8) : (cutP l).length ≤ 2048 ∧ most 2064 (cutP l) := by
  unfold cutP cutL
  split
  · rename_i h
    cases ht : tks l with
    | none => simp [most_nil]
    | some ts =>
      obtain ⟨h1, h2⟩ := tks_facts ht
      have := addAll_facts ts [] 16 (by omega) (most_nil _) h2
      simp at this
      exact ⟨by simp; omega, most_mono this.1 (by omega)⟩
  · simp [most_nil]

end Go.Proofs.Ytanmmcelidnefaa
