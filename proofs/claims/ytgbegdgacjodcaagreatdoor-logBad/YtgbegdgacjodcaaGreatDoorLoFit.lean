/- Logs that may be have texts of a bounded size; small facts on texts' bytes; no conditions. -/
import Derived.Test.YtgbegdgacjodcaaGreatDoorLoState
import Derived.Test.YtgbegdgacjodcaaGreatDoorBdPlain
import Derived.Test.YtgbegdgacjodcaaGreatDoorLgPut
namespace Go.Proofs.YtgbegdgacjodcaaGreatDoor
open Go.RowKit

theorem rsz_ok {rs : Rs} (h : ∀ r ∈ rs, rcOk r = true) : RsZ rs := fun r hr => by
  have := rc_sizes (h r hr)
  unfold RcZ maxLen; omega
theorem rsz_take {rs : Rs} (h : RsZ rs) (k : Nat) : RsZ (rs.take k) := fun r hr => h r (List.mem_of_mem_take hr)
theorem rsz_drop {rs : Rs} (h : RsZ rs) (k : Nat) : RsZ (rs.drop k) := fun r hr => h r (List.mem_of_mem_drop hr)
theorem rsz_app {xs ys : Rs} (ha : RsZ xs) (hb : RsZ ys) : RsZ (xs ++ ys) := fun r hr => (List.mem_append.1 hr).elim (ha r) (hb r)
theorem ld_small (s : Tx) : (ldL s).length ≤ 256 := ld_le 256 s
theorem ld_fit (s : Tx) : RsZ (ldL s) := rsz_ok (ld_ok 256 s)
theorem lo_fit {rs : Rs} (h : loOk rs = true) : (loL rs).length ≤ 537600 := by
  obtain ⟨h1, h2⟩ := lo_parts h
  have := loL_len h2
  omega
theorem lo_take {rs : Rs} (h : loOk rs = true) (k : Nat) : loOk (rs.take k) = true := by
  obtain ⟨h1, h2⟩ := lo_parts h
  exact lo_of (by rw [List.length_take]; omega) (fun r hr => h2 r (List.mem_of_mem_take hr))
theorem lo_drop {rs : Rs} (h : loOk rs = true) (k : Nat) : loOk (rs.drop k) = true := by
  obtain ⟨h1, h2⟩ := lo_parts h
  exact lo_of (by rw [List.length_drop]; omega) (fun r hr => h2 r (List.mem_of_mem_drop hr))
theorem lo_app {xs ys : Rs} (ha : loOk xs = true) (hb : loOk ys = true) (hl : xs.length + ys.length ≤ 256) : loOk (xs ++ ys) = true :=
  lo_of (by rw [List.length_append]; exact hl) (fun r hr => (List.mem_append.1 hr).elim ((lo_parts ha).2 r) ((lo_parts hb).2 r))
/-- A text that begins with another. -/
theorem pre_cut {s : ByteArray} {T x : Tx} (h : bl s = T ++ x) : (⟨T.toArray⟩ : ByteArray).size ≤ s.size ∧ s.extract 0 (⟨T.toArray⟩ : ByteArray).size = ⟨T.toArray⟩ := by
  have h1 : (⟨T.toArray⟩ : ByteArray).size = T.length := mk_size' T
  have h2 := bl_size s
  rw [h, List.length_append] at h2
  refine ⟨by omega, of_bl ?_⟩
  rw [bl_extract, List.drop_zero, h1, h, List.take_left]

end Go.Proofs.YtgbegdgacjodcaaGreatDoor
