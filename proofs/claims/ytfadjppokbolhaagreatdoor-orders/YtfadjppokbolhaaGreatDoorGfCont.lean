/- Which place of a row of texts has a text, is it there, as the library's Index and Contains answer; the conditions: the row lies in memory. -/
import Derived.Test.YtfadjppokbolhaaGreatDoorGfState
namespace Go.Proofs.YtfadjppokbolhaaGreatDoor
open Go.RowKit

set_option maxHeartbeats 2000000 in
theorem sxIx_any (ws : Ws) (n : ByteArray) (ao : Option Addr) (cap : Nat) (w : World) (hr : RowT w ao ws) (hs : ws.length ≤ 140737488355328) :
    Calls Tryz.prog 49 #[.slice ao ws.length cap, .string n] w fun e w' => e = .returned (.int .i64 (ixB (fun x : Tx => x == bl n) ws)) ∧ w' = w := by
  go_enter Tryz.func49, Tryz.ntmps49
  go_wp2_with fail
  go_loop [8] (fun i => ∃ k : Nat, k ≤ ws.length ∧ i = .int .i64 k ∧ Hid ((ws.take k).any (fun x : Tx => x == bl n) = false)) (fun i => ws.length - (intOf i).toNat)
  case atStart => exact ⟨0, Nat.zero_le _, rfl, rfl⟩
  case round =>
    obtain ⟨k, hk, rfl, HA⟩ := hrel
    by_cases hlt : k < ws.length
    · rcases hr with he | ⟨g, o, rfl, hg, hcell⟩
      · rw [he] at hlt; simp at hlt
      obtain ⟨b, hb⟩ : ∃ b, ws[k]? = some b := ⟨ws[k], List.getElem?_eq_getElem hlt⟩
      have c1 : w.cell? ⟨g, o + k, none⟩ = some (.string ⟨b.toArray⟩) := by have := hcell k 0 b _ hb (by decide) rfl; simpa using this
      have HT := hide (anyt_succ (fun x : Tx => x == bl n) hb)
      have HH := hide (fun h => ixB_at (p := fun x : Tx => x == bl n) hb HA.out h)
      have hx : (n.toList == (⟨b.toArray⟩ : ByteArray).toList) = (b == bl n) := by
        rw [← txt_beq b n, Bool.eq_iff_iff, beq_iff_eq, beq_iff_eq]; exact eq_comm
      generalize (⟨b.toArray⟩ : ByteArray) = x1 at c1 hx
      clear hcell hb
      cases hok : (b == bl n)
      · have HO : Hid ((ws.take (k + 1)).any (fun x : Tx => x == bl n) = false) := by
          show _ = false
          rw [unhide HT, HA.out]; simpa using hok
        rw [hok] at hx
        clear hok HT HH HA
        go_wp2_with fail
        go_round
        case rel => exact ⟨k + 1, by omega, by go_num, HO⟩
        case measure => simp [intOf]; omega
      · have HO : Hid (ixB (fun x : Tx => x == bl n) ws = k) := unhide HH hok
        rw [hok] at hx
        clear hok HT HH HA
        go_wp2_with fail
        go_ret
        exact ⟨ret_int HO.out.symm, rfl⟩
    · have HO : Hid (ixB (fun x : Tx => x == bl n) ws = -1) := by
        show _ = _
        have := HA.out
        rw [List.take_of_length_le (by omega)] at this
        exact ixB_no this
      clear HA
      go_wp2_with fail
      go_ret
      exact ⟨ret_int HO.out.symm, rfl⟩

theorem any_contains (ws : Ws) (n : Tx) : ws.any (fun x : Tx => x == n) = ws.contains n := by
  rw [List.contains_eq_any_beq]
  congr 1
  funext x
  rw [Bool.eq_iff_iff, beq_iff_eq, beq_iff_eq]; exact eq_comm

set_option maxHeartbeats 1000000 in
theorem sxCo_any (ws : Ws) (n : ByteArray) (ao : Option Addr) (cap : Nat) (w : World) (hr : RowT w ao ws) (hs : ws.length ≤ 140737488355328) :
    Calls Tryz.prog 34 #[.slice ao ws.length cap, .string n] w fun e w' => e = .returned (.bool (ws.contains (bl n))) ∧ w' = w := by
  have hC := hide (sxIx_any ws n ao cap w hr hs)
  have HD : Hid (decide (0 ≤ ixB (fun x : Tx => x == bl n) ws) = ws.contains (bl n)) := by show _ = _; rw [ixB_dec, any_contains]
  generalize ixB (fun x : Tx => x == bl n) ws = z at hC HD
  clear hr
  go_enter Tryz.func34, Tryz.ntmps34
  go_wp2_with fail
  refine (unhide hC).mono ?_
  rintro e w2 ⟨rfl, rfl⟩
  go_wp2_with fail
  go_ret
  exact ⟨ret_bool (unhide HD), rfl⟩

end Go.Proofs.YtfadjppokbolhaaGreatDoor
