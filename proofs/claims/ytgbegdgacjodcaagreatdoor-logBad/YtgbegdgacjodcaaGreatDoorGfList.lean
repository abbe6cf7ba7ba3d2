/- Which texts are paths, which rows of them may be, whether a pool of a name is there, as packages paths and graph answer; the conditions: what they are asked of lies in memory, no text is longer than a string can be. -/
import Derived.Test.YtgbegdgacjodcaaGreatDoorGfState
import Derived.Test.YtgbegdgacjodcaaGreatDoorPtClean
import Derived.Test.YtgbegdgacjodcaaGreatDoorPlSmall
namespace Go.Proofs.YtgbegdgacjodcaaGreatDoor
open Go.RowKit

set_option maxHeartbeats 1000000 in
theorem pthP_any (s : ByteArray) (w : World) (hs : s.size ≤ maxLen) :
    Calls Tryz.prog 44 #[.string s] w fun e w' => e = .returned (.bool (pthB (bl s))) ∧ Q w w' := by
  have HC := hide (clean_any s w hs)
  cases hc : cleanL (bl s) with
  | none =>
    obtain ⟨h1, h2⟩ := clean_of_none hc
    rw [h1, h2] at HC
    have HO : Hid (pthB (bl s) = false) := by show _ = false; unfold pthB; rw [hc]; rfl
    clear hc h1 h2
    go_enter Tryz.func44, Tryz.ntmps44
    go_wp2_with fail
    refine (unhide HC).mono ?_
    rintro e w1 ⟨rfl, q⟩
    go_wp2_with fail
    go_ret
    exact ⟨ret_bool HO.out.symm, q⟩
  | some a =>
    obtain ⟨h1, h2⟩ := clean_of_cleanL hc
    rw [h1, h2] at HC
    have HO : Hid (pthB (bl s) = (a == bl s)) := by
      show _ = _
      unfold pthB; rw [hc]; simp [Option.some_beq_some]
    have hx := txt_beq a s
    generalize (⟨a.toArray⟩ : ByteArray) = x1 at HC hx
    clear hc h1 h2
    cases hok : (a == bl s)
    · rw [hok] at hx HO
      clear hok
      go_enter Tryz.func44, Tryz.ntmps44
      go_wp2_with fail
      refine (unhide HC).mono ?_
      rintro e w1 ⟨rfl, q⟩
      go_wp2_with fail
      go_ret
      exact ⟨ret_bool HO.out.symm, q⟩
    · rw [hok] at hx HO
      clear hok
      go_enter Tryz.func44, Tryz.ntmps44
      go_wp2_with fail
      refine (unhide HC).mono ?_
      rintro e w1 ⟨rfl, q⟩
      go_wp2_with fail
      go_ret
      exact ⟨ret_bool HO.out.symm, q⟩


end Go.Proofs.YtgbegdgacjodcaaGreatDoor
