/- A text of n zero bytes, as string(make([]byte, n)) makes it; no conditions but that n is no longer than a slice can be. -/
import Derived.Test.YtfdmhniccdnafaaDoorGfZ
import Derived.Deep.OwnRows
import Derived.Laws.OwnMore
namespace Go.Proofs.YtfdmhniccdnafaaDoor
open Go.RowKit

theorem Tryd.infoB' : (Tryd.prog.info? 5).map (fun i => (i.zero, i.size, i.bytes)) = some (some (.int .u8 0), 1, 1) := by kernel_rfl
theorem made_get' (z : Value) (n j : Nat) (h : j < n) : (madeCells #[z] n)[j]? = some z := by
  rw [← Array.getElem?_toList, toList_madeCells_one, List.getElem?_replicate, if_pos h]
theorem str_zeros' (n : Nat) (W : World) :
    (convert 36 9 (.slice (some ⟨W.heap.size, 0, none⟩) n n)).run Tryd.prog (W.alloc (.cells (madeCells #[.int .u8 0] n) 5)) = .ok (.string ⟨(List.replicate n 0).toArray⟩) (W.alloc (.cells (madeCells #[.int .u8 0] n) 5)) := by
  have h := run_convert_bytes_back (P := Tryd.prog) (W.alloc (.cells (madeCells #[.int .u8 0] n) 5)) 36 9 5 ⟨W.heap.size, 0, none⟩ n (List.replicate n 0) Tryd.underlying36 Tryd.underlying5 Tryd.underlying9 (by
    intro j hj
    have hj' : j < n := by simpa using hj
    refine news_new W _ 5 j _ ?_
    rw [Array.getElem?_toList, made_get' _ n j hj']
    simp)
  rw [List.length_replicate] at h
  exact h
theorem mk_zeros (n : Nat) (hn : n ≤ 1048576) (w : World) : (Instr.makeSlice 36 (.int .i64 (n : Int)) (.int .i64 (n : Int))).run Tryd.prog w = .ok (.slice (some ⟨w.heap.size, 0, none⟩) n n) (w.alloc (.cells (madeCells #[.int .u8 0] n) 5)) :=
  run_make_row' (P := Tryd.prog) 36 5 (.int .u8 0) 1 Tryd.underlying36 Tryd.infoB' rfl .i64 .i64 n (by omega) (by omega) w
/-- At n0 + (1 + d), as Go's text reckons it. -/
theorem mk_zeros_at (n0 d : Nat) (hn : n0 + 1 + d ≤ 1048576) (w : World) : (Instr.makeSlice 36 (.int .i64 ((n0 : Int) + (1 + (d : Int)))) (.int .i64 ((n0 : Int) + (1 + (d : Int))))).run Tryd.prog w = .ok (.slice (some ⟨w.heap.size, 0, none⟩) (n0 + 1 + d) (n0 + 1 + d)) (w.alloc (.cells (madeCells #[.int .u8 0] (n0 + 1 + d)) 5)) := by
  rw [show ((n0 : Int) + (1 + (d : Int))) = ((n0 + 1 + d : Nat) : Int) by omega]
  exact mk_zeros _ hn w

end Go.Proofs.YtfdmhniccdnafaaDoor
