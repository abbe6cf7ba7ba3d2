/- What the small functions of package pieces answer: may the byte stand in a name, which variable does a text begin with; the conditions: lengths. -/
import Derived.Test.YtgfegbeickaknabGreatDoorWk1
namespace Go.Proofs.YtgfegbeickaknabGreatDoor
open Go.RowKit

def vbI (c : Int) : Bool := smallB c || decide (c = 95)

theorem ofName_any (c : Int) (w : World) : Calls Tryz.prog 133 #[.int .u8 c] w fun e w' => e = .returned (.bool (vbI c)) ∧ w' = w := by
  have hr : Hid (vbI c = (decide (97 ≤ c ∧ c ≤ 122) || decide (48 ≤ c ∧ c ≤ 57) || decide (c = 95))) := rfl
  by_cases h1 : 97 ≤ c <;> by_cases h2 : c ≤ 122 <;> by_cases h3 : 48 ≤ c <;> by_cases h4 : c ≤ 57
  all_goals first
    | omega
    | (go_enter Tryz.func133, Tryz.ntmps133
       go_wp2
       go_ret
       refine ⟨ret_bool ?_, rfl⟩
       rw [hr.out, Bool.eq_iff_iff]
       simp <;> omega)

theorem mbc_eq (s : ByteArray) : (decide ((s.size : Int) ≤ 2048) && plainL (bl s)) = (decide ((bl s).length ≤ 2048) && plainL (bl s)) := by
  rw [bl_size]; congr 1; rw [Bool.eq_iff_iff]; simp <;> omega

def preB (s p : ByteArray) : Bool := (bl s).take p.size == bl p

set_option maxHeartbeats 1000000 in
theorem litePre_any (s p : ByteArray) (w : World) :
    Calls Tryz.prog 134 #[.string s, .string p] w fun e w' => e = .returned (.bool (preB s p)) ∧ w' = w := by
  have H1 := hide (bl_size s)
  have H2 := hide (bl_size p)
  have H3 := hide (bl_toList p)
  have H4 := hide (bl_toList (s.extract 0 p.size))
  have H5 := hide (bl_extract s 0 p.size)
  by_cases h : p.size ≤ s.size
  · go_enter Tryz.func134, Tryz.ntmps134
    go_wp2_with fail
    go_ret
    refine ⟨ret_bool ?_, rfl⟩
    unfold preB
    rw [unhide H4, unhide H5, unhide H3, List.drop_zero]
  · have HF : Hid (preB s p = false) := by
      show preB s p = false
      unfold preB
      rw [beq_eq_false_iff_ne]
      intro e
      have := congrArg List.length e
      rw [List.length_take, unhide H1, unhide H2] at this; omega
    go_enter Tryz.func134, Tryz.ntmps134
    go_wp2_with fail
    go_ret
    exact ⟨ret_bool HF.out.symm, rfl⟩

theorem hasPre_any (s p : ByteArray) (w : World) :
    Calls Tryz.prog 132 #[.string s, .string p] w fun e w' => e = .returned (.bool (preB s p)) ∧ w' = w := by
  go_enter Tryz.func132, Tryz.ntmps132
  go_wp2_with fail
  refine (litePre_any s p _).mono ?_
  rintro e w' ⟨rfl, rfl⟩
  go_wp2_with fail
  go_ret
  exact ⟨rfl, rfl⟩

end Go.Proofs.YtgfegbeickaknabGreatDoor
