/- May a log be, as package log's May answers; the conditions: the records lie in memory, texts are no longer than a string can be. -/
import Derived.Test.YtgbegdgacjodcaaGreatDoorLoState
import Derived.Test.YtgbegdgacjodcaaGreatDoorLgPut
namespace Go.Proofs.YtgbegdgacjodcaaGreatDoor
open Go.RowKit

set_option maxHeartbeats 1000000 in
theorem lomc_any (r : Rc) (w : World) (hz : RcZ r) :
    Calls Tryz.prog 33 #[rcV r] w fun e w' => e = .returned (.bool (!rcOk r)) ∧ Q w w' := by
  have HM := hide (fun w => lgmay_any r w hz.1 hz.2)
  generalize rcOk r = v at HM ⊢
  unfold rcV at HM ⊢
  obtain ⟨r1, r2, r3⟩ := r
  dsimp only at HM ⊢
  generalize (⟨r1.toArray⟩ : ByteArray) = x1 at HM ⊢
  generalize (⟨r3.toArray⟩ : ByteArray) = x3 at HM ⊢
  clear hz
  have HQ0 := hide (bxR_q w x1 r2 x3)
  obtain ⟨b0, b1, b2⟩ := bxR_at (x := x1) (t := r2) (y := x3) (Q.refl (bxR w x1 r2 x3))
  unfold bxR at b0 b1 b2
  go_enter Tryz.func33, Tryz.ntmps33
  go_wp2_with fail
  clear b0 b1 b2
  refine (unhide HM _).mono ?_
  rintro e w1 ⟨rfl, q1⟩
  go_wp2_with fail
  go_ret
  exact ⟨rfl, (unhide HQ0).trans q1⟩

set_option maxHeartbeats 2000000 in
theorem lo_ix (xs : List (Rc)) (pr : Rc → Bool) (ao : Option Addr) (cap : Nat) (w : World) (hr : RowG rv 3 w ao xs) (hs : xs.length ≤ 140737488355328) (hcl : ∀ wr, Q w wr → ∀ b ∈ xs, Calls Tryz.prog 33 #[rcV b] wr fun e w' => e = .returned (.bool (pr b)) ∧ Q wr w') :
    Calls Tryz.prog 43 #[.slice ao xs.length cap, .func (.func 33) #[] #[]] w fun e w' => e = .returned (.int .i64 (ixB pr xs)) ∧ Q w w' := by
  have HCL := hide hcl
  clear hcl
  go_enter Tryz.func43, Tryz.ntmps43
  go_wp2_with fail
  go_loopw [8] (fun i wr => ∃ k : Nat, k ≤ xs.length ∧ i = .int .i64 k ∧ Hid ((xs.take k).any pr = false) ∧ Q w wr) (fun i _ => xs.length - (intOf i).toNat)
  case atStart => exact ⟨0, Nat.zero_le _, rfl, rfl, Q.refl _⟩
  case round =>
    obtain ⟨k, hk, rfl, HA, hq⟩ := hrel
    by_cases hlt : k < xs.length
    · rcases hr.q hq with he | ⟨g, o, rfl, hg, hcell⟩
      · rw [he] at hlt; simp at hlt
      obtain ⟨b, hb⟩ : ∃ b, xs[k]? = some b := ⟨xs[k], List.getElem?_eq_getElem hlt⟩
      have c0 : wr.cell? ⟨g, o + k * 3, none⟩ = some (.string ⟨b.1.toArray⟩) := hcell k 0 b _ hb (by decide) rfl
      have c1 : wr.cell? ⟨g, o + k * 3 + 1, none⟩ = some (.int .i64 b.2.1) := hcell k 1 b _ hb (by decide) rfl
      have c2 : wr.cell? ⟨g, o + k * 3 + 2, none⟩ = some (.string ⟨b.2.2.toArray⟩) := hcell k 2 b _ hb (by decide) rfl
      have hcon := hide (unhide HCL wr hq b (List.mem_of_getElem? hb))
      have HT := hide (anyt_succ pr hb)
      have HH := hide (fun h => ixB_at (p := pr) hb HA.out h)
      clear hcell hr hb
      cases hok : pr b
      · have HO : Hid ((xs.take (k + 1)).any pr = false) := by
          show _ = false
          rw [unhide HT, HA.out]; simpa using hok
        rw [hok] at hcon
        clear hok HT HH HA
        go_wp2_with (go_at_call 33; refine (unhide hcon).mono ?_; rintro e w2 ⟨rfl, q2⟩)
        go_roundw
        case rel => exact ⟨k + 1, by omega, by go_num, HO, hq.trans q2⟩
        case measure => simp [intOf]; omega
      · have HO : Hid (ixB pr xs = k) := unhide HH hok
        rw [hok] at hcon
        clear hok HT HH HA
        go_wp2_with (go_at_call 33; refine (unhide hcon).mono ?_; rintro e w2 ⟨rfl, q2⟩)
        go_ret
        exact ⟨ret_int HO.out.symm, hq.trans q2⟩
    · have HO : Hid (ixB pr xs = -1) := by
        show _ = _
        have := HA.out
        rw [List.take_of_length_le (by omega)] at this
        exact ixB_no this
      clear HA
      go_wp2_with fail
      go_ret
      exact ⟨ret_int HO.out.symm, hq⟩

set_option maxHeartbeats 1000000 in
theorem lo_cx (xs : List (Rc)) (pr : Rc → Bool) (ao : Option Addr) (cap : Nat) (w : World) (hr : RowG rv 3 w ao xs) (hs : xs.length ≤ 140737488355328) (hcl : ∀ wr, Q w wr → ∀ b ∈ xs, Calls Tryz.prog 33 #[rcV b] wr fun e w' => e = .returned (.bool (pr b)) ∧ Q wr w') :
    Calls Tryz.prog 32 #[.slice ao xs.length cap, .func (.func 33) #[] #[]] w fun e w' => e = .returned (.bool (xs.any pr)) ∧ Q w w' := by
  have hC := hide (lo_ix xs pr ao cap w hr hs hcl)
  have HD : Hid (decide (0 ≤ ixB pr xs) = xs.any pr) := ixB_dec _ _
  generalize ixB pr xs = z at hC HD
  clear hcl
  go_enter Tryz.func32, Tryz.ntmps32
  go_wp2_with fail
  refine (unhide hC).mono ?_
  rintro e w2 ⟨rfl, q⟩
  go_wp2_with fail
  go_ret
  exact ⟨ret_bool (unhide HD), q⟩

theorem lo_any {rs : Rs} (h : rs.length ≤ 256) : loOk rs = !(rs.any fun r => !rcOk r) := by
  unfold loOk
  rw [decide_eq_true h, Bool.true_and, List.all_eq_not_any_not]

set_option maxHeartbeats 1000000 in
theorem loMay_any (rs : Rs) (ao : Option Addr) (cap : Nat) (w : World) (hr : RowR w ao rs) (hz : RsZ rs) (hs : rs.length ≤ 140737488355328) :
    Calls Tryz.prog 17 #[.slice ao rs.length cap] w fun e w' => e = .returned (.bool (loOk rs)) ∧ Q w w' := by
  by_cases h8 : 256 < rs.length
  · have HO : Hid (loOk rs = false) := by show _ = false; unfold loOk; rw [decide_eq_false (by omega)]; rfl
    have h8' : (256 : Int) < (rs.length : Int) := by omega
    go_enter Tryz.func17, Tryz.ntmps17
    go_wp2_with fail
    go_ret
    exact ⟨ret_bool HO.out.symm, Q.refl _⟩
  have HO : Hid (loOk rs = !(rs.any fun r => !rcOk r)) := lo_any (by omega)
  have h8' : (rs.length : Int) ≤ 256 := by omega
  have HC := hide (lo_cx rs (fun r => !rcOk r) ao cap w hr hs (fun wr _ b hb => lomc_any b wr (hz b hb)))
  generalize (rs.any fun r => !rcOk r) = b at HC HO
  clear h8 hz hr
  go_enter Tryz.func17, Tryz.ntmps17
  go_wp2_with fail
  refine (unhide HC).mono ?_
  rintro e w1 ⟨rfl, q⟩
  go_wp2_with fail
  go_ret
  exact ⟨ret_bool HO.out.symm, q⟩

end Go.Proofs.YtgbegdgacjodcaaGreatDoor
