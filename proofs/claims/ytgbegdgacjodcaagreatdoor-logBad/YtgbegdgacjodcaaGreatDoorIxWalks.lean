/- What slices.IndexFunc and slices.ContainsFunc answer over bytes, for whatever test that only answers: whether a byte that the test takes is there; the condition: the bytes lie in memory. -/
import Derived.Test.YtgbegdgacjodcaaGreatDoorNmWalks
import Derived.Test.YtgbegdgacjodcaaGreatDoorBdPlain
import Derived.Laws.IdiomStrings
namespace Go.Proofs.YtgbegdgacjodcaaGreatDoor
open Go.RowKit

theorem bytesRow_get (s : ByteArray) (cap k : Nat) (h : k < s.size) : (bytesRow s cap)[k]? = some (.int .u8 (s[k].toNat : Int)) := by
  unfold bytesRow
  rw [Array.getElem?_append_left (by simpa using h)]
  rw [Array.getElem?_map]
  have e : s.data[k]? = some s[k] := by rw [Array.getElem?_eq_getElem (by simpa using h)]; rfl
  rw [e]; rfl

theorem cell_bytes (w : World) (s : ByteArray) (cap : Nat) (t : TypeId) (r : Nat × Nat) (k : Nat) (h : k < s.size) :
    (w.alloc (.cells (bytesRow s cap) t r)).cell? ⟨w.heap.size, k, none⟩ = some (.int .u8 (s[k].toNat : Int)) := by
  rw [← bytesRow_get s cap k h]
  have e : (w.alloc (.cells (bytesRow s cap) t r)).heap[w.heap.size]? = some (.cells (bytesRow s cap) t r) := heap_alloc_new _ _
  simp only [World.cell?]
  rw [e]
  rfl

def anyB (p : Int → Bool) (l : List UInt8) : Bool := l.any fun c => p (c.toNat : Int)

theorem anyB_take_succ (p : Int → Bool) (s : ByteArray) (k : Nat) (h : k < s.size) : anyB p ((bl s).take (k + 1)) = (anyB p ((bl s).take k) || p (s[k].toNat : Int)) := by
  show anyB p (s.data.toList.take (k + 1)) = (anyB p (s.data.toList.take k) || p (s[k].toNat : Int))
  rw [take_snoc s k h]; simp [anyB]
theorem anyB_hit (p : Int → Bool) (s : ByteArray) (k : Nat) (h : k < s.size) (hp : p (s[k].toNat : Int) = true) : anyB p (bl s) = true := by
  have := anyB_take_succ p s k h
  rw [hp, Bool.or_true] at this
  rw [← List.take_append_drop (k + 1) (bl s)]
  unfold anyB at this ⊢
  rw [List.any_append, this, Bool.true_or]

end Go.Proofs.YtgbegdgacjodcaaGreatDoor
