/- What package plain's May, the document's own Plain and the library's Clone answer, for every text: is it short enough, are its bytes from 32 to 126; the same text; no conditions but that the text is no longer than a string can be. -/
import Derived.Test.YtjalklmgdkhekaaDoorBnIxWalks
import Derived.Test.YtjalklmgdkhekaaDoorBnLnPlain
import Derived.Test.YtjalklmgdkhekaaDoorShelf
namespace Go.Proofs.YtjalklmgdkhekaaDoor
open Go.RowKit

def oddI (c : Int) : Bool := decide (c < 32) || decide (126 < c)


theorem plain_any (s : ByteArray) : anyB oddI (bl s) = !plainL (bl s) := by
  unfold anyB plainL oddI
  induction bl s with
  | nil => rfl
  | cons c r ih =>
    rw [List.any_cons, List.all_cons, ih]
    have : (decide ((c.toNat : Int) < 32) || decide (126 < (c.toNat : Int))) = !(decide (32 ≤ (c.toNat : Int)) && decide ((c.toNat : Int) ≤ 126)) := by
      rw [Bool.eq_iff_iff]; simp <;> omega
    rw [this]; simp


theorem plainL_take_succ (s : ByteArray) (k : Nat) (h : k < s.size) : plainL ((bl s).take (k + 1)) = (plainL ((bl s).take k) && !oddI (s[k].toNat : Int)) := by
  show plainL (s.data.toList.take (k + 1)) = (plainL (s.data.toList.take k) && !oddI (s[k].toNat : Int))
  rw [take_snoc s k h, plainL_app]
  congr 1
  unfold plainL oddI
  rw [List.all_cons, List.all_nil, Bool.and_true, Bool.eq_iff_iff]; simp
theorem plainL_bad (s : ByteArray) (k : Nat) (h : k < s.size) (hb : oddI (s[k].toNat : Int) = true) : plainL (bl s) = false := by
  have := plainL_take_succ s k h
  rw [hb, Bool.not_true, Bool.and_false] at this
  rw [← List.take_append_drop (k + 1) (bl s), plainL_app, this, Bool.false_and]


theorem clone_any (s : ByteArray) (w : World) (hs : s.size ≤ 281474976710656) :
    Calls Tryd.prog 22 #[.string s] w fun e w' => e = .returned (.string s) ∧ Q w w' := by
  have c : Calls Tryd.prog 37 #[.string s] w fun e w' => e = .returned (.string s) ∧ Below w.heap.size w w' := Any.stringslite_Clone Tryd.laysM316 s w hs
  have C := hide c
  clear c
  go_enter Tryd.func22, Tryd.ntmps22
  go_wp2_with fail
  refine (unhide C).mono ?_
  rintro e w' ⟨rfl, q⟩
  go_wp2
  go_ret
  exact ⟨rfl, q⟩

end Go.Proofs.YtjalklmgdkhekaaDoor
