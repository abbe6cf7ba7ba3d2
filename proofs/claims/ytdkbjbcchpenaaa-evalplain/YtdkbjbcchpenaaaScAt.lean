/- Where a name stands among binds, as package scope's at and the library's IndexFunc answer; the conditions: the binds lie in memory. -/
import Derived.Test.YtdkbjbcchpenaaaScSmall
namespace Go.Proofs.Ytdkbjbcchpenaaa
open Go.RowKit

abbrev RowD (w : World) (ao : Option Addr) (bs : List Bd) : Prop := RowG dv 2 w ao bs

set_option maxHeartbeats 2000000 in
theorem ixb_any (bs : List Bd) (n : ByteArray) (ao : Option Addr) (cap : Nat) (p : Addr) (w : World) (hr : RowD w ao bs) (hc : w.cell? p = some (.string n)) (hp : p.block < w.heap.size) (hs : bs.length ≤ maxLen) :
    Calls Try.prog 46 #[.slice ao bs.length cap, .func (.func 47) #[] #[.pointer (some p)]] w
      fun e w' => e = .returned (.int .i64 (hitI bs n)) ∧ Q w w' := by
  unfold maxLen at hs
  go_enter Try.func46, Try.ntmps46
  go_wp2_with fail
  go_loopw [8] (fun i wr => ∃ k : Nat, k ≤ bs.length ∧ i = .int .i64 k ∧ Hid ((bs.take k).any (named n) = false) ∧ Q w wr) (fun i _ => bs.length - (intOf i).toNat)
  case atStart => exact ⟨0, Nat.zero_le _, rfl, rfl, Q.refl _⟩
  case round =>
    obtain ⟨k, hk, rfl, HA, hq⟩ := hrel
    by_cases hlt : k < bs.length
    · rcases hr.q hq with he | ⟨g, o, rfl, hg, hcell⟩
      · rw [he] at hlt; simp at hlt
      obtain ⟨b, hb⟩ : ∃ b, bs[k]? = some b := ⟨bs[k], List.getElem?_eq_getElem hlt⟩
      have c1 : wr.cell? ⟨g, o + k * 2, none⟩ = some (.string b.1) := hcell k 0 b _ hb (by decide) rfl
      have c2 : wr.cell? ⟨g, o + k * 2 + 1, none⟩ = some (.string b.2) := hcell k 1 b _ hb (by decide) rfl
      have hcon := hide (at1_any b n p wr ((hq.cell hp).trans hc) (Nat.lt_of_lt_of_le hp hq.size))
      have HT := hide (any_take_succ (named n) hb)
      have HH := hide (fun h => hit_at (n := n) hb HA.out h)
      clear hcell hc hr hb
      cases hok : named n b
      · have HO : Hid ((bs.take (k + 1)).any (named n) = false) := by
          show _ = false
          rw [unhide HT, hok, HA.out]; rfl
        rw [hok] at hcon
        clear hok HT HH HA
        go_wp2_with (go_at_call 47; refine (unhide hcon).mono ?_; rintro e w2 ⟨rfl, q2⟩)
        go_roundw
        case rel => exact ⟨k + 1, by omega, by go_num, HO, hq.trans q2⟩
        case measure => simp [intOf]; omega
      · have HO : Hid (hitI bs n = k) := by
          show _ = _
          unfold hitI
          rw [unhide HH hok]
        rw [hok] at hcon
        clear hok HT HH HA
        go_wp2_with (go_at_call 47; refine (unhide hcon).mono ?_; rintro e w2 ⟨rfl, q2⟩)
        go_ret
        exact ⟨ret_int HO.out.symm, hq.trans q2⟩
    · have HO : Hid (hitI bs n = -1) := by
        show _ = _
        have := HA.out
        rw [List.take_of_length_le (by omega)] at this
        unfold hitI
        rw [hit_none this]
      clear HA
      go_wp2_with fail
      go_ret
      exact ⟨ret_int HO.out.symm, hq⟩

set_option maxHeartbeats 1000000 in
theorem at_any (bs : List Bd) (n : ByteArray) (ao : Option Addr) (cap : Nat) (w : World) (hr : RowD w ao bs) (hs : bs.length ≤ maxLen) :
    Calls Try.prog 33 #[.slice ao bs.length cap, .string n] w
      fun e w' => e = .returned (.int .i64 (hitI bs n)) ∧ Q w w' := by
  go_enter Try.func33, Try.ntmps33
  go_wp2_with fail
  refine (ixb_any bs n ao cap _ _ (hr.q ((Q.refl w).alloc _)) (by simp) (by simp) hs).mono ?_
  rintro e w1 ⟨rfl, q1⟩
  go_wp2_with fail
  go_ret
  exact ⟨rfl, ((Q.refl w).alloc _).trans q1⟩

end Go.Proofs.Ytdkbjbcchpenaaa
