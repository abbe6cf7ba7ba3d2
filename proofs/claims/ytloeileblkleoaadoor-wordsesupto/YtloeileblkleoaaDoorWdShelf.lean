/- What the library's TrimLeft at a blank and Clone answer, for every text; the conditions: the lengths. -/
import Derived.Test.YtloeileblkleoaaDoorShelf
import Derived.Test.YtloeileblkleoaaDoorWdBut
import Derived.Shelf.Strings.Trim
import Derived.Shelf.Strconv.Clone
namespace Go.Proofs.YtloeileblkleoaaDoor
open Go.RowKit

theorem mk_bl (s : ByteArray) : (⟨(bl s).toArray⟩ : ByteArray) = s := (of_bl rfl).symm

theorem triml_any (s : ByteArray) (w : World) :
    Calls Tryd.prog 28 #[.string s, .string ⟨#[32]⟩] w fun e w' => e = .returned (.string ⟨(Lib.trimLeftB (bl s) 32).toArray⟩) ∧ w' = w :=
  Any.strings_TrimLeft_one Tryd.lays161 s 32 (by decide) w

theorem clone_any (s : ByteArray) (w : World) (hs : s.size ≤ 281474976710656) :
    Calls Tryd.prog 26 #[.string s] w fun e w' => e = .returned (.string s) ∧ Q w w' := by
  have c : Calls Tryd.prog 32 #[.string s] w fun e w' => e = .returned (.string s) ∧ Below w.heap.size w w' := Any.stringslite_Clone Tryd.laysM316 s w hs
  have C := hide c
  clear c
  go_enter Tryd.func26, Tryd.ntmps26
  go_wp2_with fail
  refine (unhide C).mono ?_
  rintro e w' ⟨rfl, q⟩
  go_wp2
  go_ret
  exact ⟨rfl, q⟩

end Go.Proofs.YtloeileblkleoaaDoor
