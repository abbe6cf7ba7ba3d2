/- A string made of one byte that the call lays down; no conditions. -/
import Derived.Test.YtgbegdgacjodcaaGreatDoorNmWalks
import Derived.Test.YtgbegdgacjodcaaGreatDoorBdPlain
import Derived.Laws.IdiomStrings
namespace Go.Proofs.YtgbegdgacjodcaaGreatDoor
open Go.RowKit

theorem str_one (c : UInt8) (W : World) :
    (convert 49 9 (.slice (some ⟨W.heap.size, 0, none⟩) 1 1)).run Tryz.prog (W.alloc (.cells #[.int .u8 (c.toNat : Int)] 5)) = .ok (.string ⟨#[c]⟩) (W.alloc (.cells #[.int .u8 (c.toNat : Int)] 5)) := by
  refine run_convert_bytes_back _ _ _ 5 ⟨W.heap.size, 0, none⟩ 1 [c] Tryz.underlying49 Tryz.underlying5 Tryz.underlying9 ?_
  intro j hj
  exact news_new W #[.int .u8 (c.toNat : Int)] 5 j _ (by
    have : j = 0 := by simpa using hj
    subst this; rfl)

theorem str_one' (c : UInt8) (W : World) :
    (convert 49 9 (.slice (some ⟨W.heap.size, 0, none⟩) 1 1)).run Tryz.prog (W.alloc (.cells #[.int .u8 (c.toNat : Int)] 5)).drew = .ok (.string ⟨#[c]⟩) (W.alloc (.cells #[.int .u8 (c.toNat : Int)] 5)).drew := by
  refine run_convert_bytes_back _ _ _ 5 ⟨W.heap.size, 0, none⟩ 1 [c] Tryz.underlying49 Tryz.underlying5 Tryz.underlying9 ?_
  intro j hj
  exact news_new W #[.int .u8 (c.toNat : Int)] 5 j _ (by
    have : j = 0 := by simpa using hj
    subst this; rfl)

theorem str_int (z : Int) (h0 : 0 ≤ z) (h1 : z ≤ 255) : ∃ c : UInt8, (c.toNat : Int) = z ∧ ∀ W : World,
    (convert 49 9 (.slice (some ⟨W.heap.size, 0, none⟩) 1 1)).run Tryz.prog (W.alloc (.cells #[.int .u8 z] 5)) = .ok (.string ⟨#[c]⟩) (W.alloc (.cells #[.int .u8 z] 5)) := by
  have e : ((UInt8.ofNat z.toNat).toNat : Int) = z := by
    rw [UInt8.toNat_ofNat']; omega
  refine ⟨UInt8.ofNat z.toNat, e, fun W => ?_⟩
  have := str_one (UInt8.ofNat z.toNat) W
  rw [e] at this
  exact this

end Go.Proofs.YtgbegdgacjodcaaGreatDoor
