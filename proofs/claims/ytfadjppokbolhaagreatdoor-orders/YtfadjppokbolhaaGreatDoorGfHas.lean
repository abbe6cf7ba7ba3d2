/- Is a text in a row, as the document's own has answers; the conditions: the row lies in memory. -/
import Derived.Test.YtfadjppokbolhaaGreatDoorGfBase
import Derived.Test.YtfadjppokbolhaaGreatDoorMfIx
namespace Go.Proofs.YtfadjppokbolhaaGreatDoor
open Go.RowKit

set_option maxHeartbeats 2000000 in
theorem has_any (ws : Ws) (n : ByteArray) (ao : Option Addr) (cap : Nat) (w : World) (hr : RowT w ao ws) (hs : ws.length ≤ 140737488355328) :
    Calls Tryz.prog 26 #[.slice ao ws.length cap, .string n] w fun e w' => e = .returned (.bool (ws.any (fun x : Tx => x == bl n))) ∧ w' = w := by
  go_enter Tryz.func26, Tryz.ntmps26
  go_wp2_with fail
  go_loop [5] (fun i => ∃ k : Nat, k ≤ ws.length ∧ i = .int .i64 k ∧ Hid ((ws.take k).any (fun x : Tx => x == bl n) = false)) (fun i => ws.length - (intOf i).toNat)
  case atStart => exact ⟨0, Nat.zero_le _, rfl, rfl⟩
  case round =>
    obtain ⟨k, hk, rfl, HA⟩ := hrel
    by_cases hlt : k < ws.length
    · rcases hr with he | ⟨g, o, rfl, hg, hcell⟩
      · rw [he] at hlt; simp at hlt
      obtain ⟨b, hb⟩ : ∃ b, ws[k]? = some b := ⟨ws[k], List.getElem?_eq_getElem hlt⟩
      have c1 : w.cell? ⟨g, o + k, none⟩ = some (.string ⟨b.toArray⟩) := by
        have := hcell k 0 b _ hb (by decide) rfl
        simpa using this
      have HT := hide (anyt_succ (fun x : Tx => x == bl n) hb)
      have HM := hide (List.mem_of_getElem? hb)
      have hx := txt_beq b n
      generalize (⟨b.toArray⟩ : ByteArray) = x1 at c1 hx
      clear hcell hb
      cases hok : (b == bl n)
      · have HO : Hid ((ws.take (k + 1)).any (fun x : Tx => x == bl n) = false) := by
          show _ = false
          rw [unhide HT, HA.out]; simpa using hok
        rw [hok] at hx
        clear hok HT HM HA
        go_wp2_with fail
        go_round
        case rel => exact ⟨k + 1, by omega, by go_num, HO⟩
        case measure => simp [intOf]; omega
      · have HO : Hid (ws.any (fun x : Tx => x == bl n) = true) := List.any_eq_true.2 ⟨b, unhide HM, hok⟩
        rw [hok] at hx
        clear hok HT HM HA
        go_wp2_with fail
        go_ret
        exact ⟨ret_bool HO.out.symm, rfl⟩
    · have HO : Hid (ws.any (fun x : Tx => x == bl n) = false) := by
        show _ = _
        have := HA.out
        rw [List.take_of_length_le (by omega)] at this
        exact this
      clear HA
      go_wp2_with fail
      go_ret
      exact ⟨ret_bool HO.out.symm, rfl⟩

end Go.Proofs.YtfadjppokbolhaaGreatDoor
