/- Which texts are paths, which rows of them may be, whether a pool of a name is there, as packages paths and graph answer; the conditions: what they are asked of lies in memory, no text is longer than a string can be. -/
import Derived.Test.YtbfhliocckkbmaaDoorGfState
import Derived.Test.YtbfhliocckkbmaaDoorPtClean
import Derived.Test.YtbfhliocckkbmaaDoorPlSmall
namespace Go.Proofs.YtbfhliocckkbmaaDoor
open Go.RowKit

set_option maxHeartbeats 1000000 in
theorem pthP_any (s : ByteArray) (w : World) (hs : s.size ≤ maxLen) :
    Calls Tryd.prog 31 #[.string s] w fun e w' => e = .returned (.bool (pthB (bl s))) ∧ Q w w' := by
  have HC := hide (clean_any s w hs)
  cases hc : cleanL (bl s) with
  | none =>
    obtain ⟨h1, h2⟩ := clean_of_none hc
    rw [h1, h2] at HC
    have HO : Hid (pthB (bl s) = false) := by show _ = false; unfold pthB; rw [hc]; rfl
    clear hc h1 h2
    go_enter Tryd.func31, Tryd.ntmps31
    go_wp2_with fail
    refine (unhide HC).mono ?_
    rintro e w1 ⟨rfl, q⟩
    go_wp2_with fail
    go_ret
    exact ⟨ret_bool HO.out.symm, q⟩
  | some a =>
    obtain ⟨h1, h2⟩ := clean_of_cleanL hc
    rw [h1, h2] at HC
    have HO : Hid (pthB (bl s) = (a == bl s)) := by
      show _ = _
      unfold pthB; rw [hc]; simp [Option.some_beq_some]
    have hx := txt_beq a s
    generalize (⟨a.toArray⟩ : ByteArray) = x1 at HC hx
    clear hc h1 h2
    cases hok : (a == bl s)
    · rw [hok] at hx HO
      clear hok
      go_enter Tryd.func31, Tryd.ntmps31
      go_wp2_with fail
      refine (unhide HC).mono ?_
      rintro e w1 ⟨rfl, q⟩
      go_wp2_with fail
      go_ret
      exact ⟨ret_bool HO.out.symm, q⟩
    · rw [hok] at hx HO
      clear hok
      go_enter Tryd.func31, Tryd.ntmps31
      go_wp2_with fail
      refine (unhide HC).mono ?_
      rintro e w1 ⟨rfl, q⟩
      go_wp2_with fail
      go_ret
      exact ⟨ret_bool HO.out.symm, q⟩

set_option maxHeartbeats 1000000 in
theorem list1_any (x : Tx) (w : World) (hs : x.length ≤ maxLen) :
    Calls Tryd.prog 30 #[.string ⟨x.toArray⟩] w fun e w' => e = .returned (.bool (!pthB x)) ∧ Q w w' := by
  have HC := hide (pthP_any ⟨x.toArray⟩ w (by rw [mk_size']; exact hs))
  have hb : bl (⟨x.toArray⟩ : ByteArray) = x := rfl
  rw [hb] at HC
  clear hb
  generalize (⟨x.toArray⟩ : ByteArray) = x1 at HC ⊢
  generalize pthB x = b at HC ⊢
  go_enter Tryd.func30, Tryd.ntmps30
  go_wp2_with fail
  refine (unhide HC).mono ?_
  rintro e w1 ⟨rfl, q⟩
  go_wp2_with fail
  go_ret
  exact ⟨rfl, q⟩

set_option maxHeartbeats 2000000 in
theorem ls_ix (xs : List (Tx)) (pr : Tx → Bool) (ao : Option Addr) (cap : Nat) (w : World) (hr : RowG tv 1 w ao xs) (hs : xs.length ≤ 140737488355328) (hcl : ∀ wr, Q w wr → ∀ b ∈ xs, Calls Tryd.prog 30 #[.string ⟨b.toArray⟩] wr fun e w' => e = .returned (.bool (pr b)) ∧ Q wr w') :
    Calls Tryd.prog 40 #[.slice ao xs.length cap, .func (.func 30) #[] #[]] w fun e w' => e = .returned (.int .i64 (ixB pr xs)) ∧ Q w w' := by
  have HCL := hide hcl
  clear hcl
  go_enter Tryd.func40, Tryd.ntmps40
  go_wp2_with fail
  go_loopw [8] (fun i wr => ∃ k : Nat, k ≤ xs.length ∧ i = .int .i64 k ∧ Hid ((xs.take k).any pr = false) ∧ Q w wr) (fun i _ => xs.length - (intOf i).toNat)
  case atStart => exact ⟨0, Nat.zero_le _, rfl, rfl, Q.refl _⟩
  case round =>
    obtain ⟨k, hk, rfl, HA, hq⟩ := hrel
    by_cases hlt : k < xs.length
    · rcases hr.q hq with he | ⟨g, o, rfl, hg, hcell⟩
      · rw [he] at hlt; simp at hlt
      obtain ⟨b, hb⟩ : ∃ b, xs[k]? = some b := ⟨xs[k], List.getElem?_eq_getElem hlt⟩
      have c0 : wr.cell? ⟨g, o + k, none⟩ = some (.string ⟨b.toArray⟩) := by have := hcell k 0 b _ hb (by decide) rfl; simpa using this
      have hcon := hide (unhide HCL wr hq b (List.mem_of_getElem? hb))
      have HT := hide (anyt_succ pr hb)
      have HH := hide (fun h => ixB_at (p := pr) hb HA.out h)
      clear hcell hr hb
      cases hok : pr b
      · have HO : Hid ((xs.take (k + 1)).any pr = false) := by
          show _ = false
          rw [unhide HT, HA.out]; simpa using hok
        rw [hok] at hcon
        clear hok HT HH HA
        go_wp2_with (go_at_call 30; refine (unhide hcon).mono ?_; rintro e w2 ⟨rfl, q2⟩)
        go_roundw
        case rel => exact ⟨k + 1, by omega, by go_num, HO, hq.trans q2⟩
        case measure => simp [intOf]; omega
      · have HO : Hid (ixB pr xs = k) := unhide HH hok
        rw [hok] at hcon
        clear hok HT HH HA
        go_wp2_with (go_at_call 30; refine (unhide hcon).mono ?_; rintro e w2 ⟨rfl, q2⟩)
        go_ret
        exact ⟨ret_int HO.out.symm, hq.trans q2⟩
    · have HO : Hid (ixB pr xs = -1) := by
        show _ = _
        have := HA.out
        rw [List.take_of_length_le (by omega)] at this
        exact ixB_no this
      clear HA
      go_wp2_with fail
      go_ret
      exact ⟨ret_int HO.out.symm, hq⟩

set_option maxHeartbeats 1000000 in
theorem ls_cx (xs : List (Tx)) (pr : Tx → Bool) (ao : Option Addr) (cap : Nat) (w : World) (hr : RowG tv 1 w ao xs) (hs : xs.length ≤ 140737488355328) (hcl : ∀ wr, Q w wr → ∀ b ∈ xs, Calls Tryd.prog 30 #[.string ⟨b.toArray⟩] wr fun e w' => e = .returned (.bool (pr b)) ∧ Q wr w') :
    Calls Tryd.prog 29 #[.slice ao xs.length cap, .func (.func 30) #[] #[]] w fun e w' => e = .returned (.bool (xs.any pr)) ∧ Q w w' := by
  have hC := hide (ls_ix xs pr ao cap w hr hs hcl)
  have HD : Hid (decide (0 ≤ ixB pr xs) = xs.any pr) := ixB_dec _ _
  generalize ixB pr xs = z at hC HD
  clear hcl
  go_enter Tryd.func29, Tryd.ntmps29
  go_wp2_with fail
  refine (unhide hC).mono ?_
  rintro e w2 ⟨rfl, q⟩
  go_wp2_with fail
  go_ret
  exact ⟨ret_bool (unhide HD), q⟩

set_option maxHeartbeats 1000000 in
theorem list_any (ws : Ws) (ao : Option Addr) (cap : Nat) (w : World) (hr : RowT w ao ws) (hz : WsZ ws) :
    Calls Tryd.prog 20 #[.slice ao ws.length cap] w fun e w' => e = .returned (.bool (ptsB ws)) ∧ Q w w' := by
  have hn := hz.n
  by_cases h8 : 8 < ws.length
  · have HO : Hid (ptsB ws = false) := by show _ = false; unfold ptsB; rw [decide_eq_false (by omega)]; rfl
    have h8' : (8 : Int) < (ws.length : Int) := by omega
    go_enter Tryd.func20, Tryd.ntmps20
    go_wp2_with fail
    go_ret
    exact ⟨ret_bool HO.out.symm, Q.refl _⟩
  have HO : Hid (ptsB ws = !ws.any (fun x => !pthB x)) := by show _ = _; unfold ptsB; rw [decide_eq_true (by omega), anyn_all]; simp
  have h8' : (ws.length : Int) ≤ 8 := by omega
  have HC := hide (ls_cx ws (fun x => !pthB x) ao cap w hr hn (fun wr _ b hb => list1_any b wr (hz.t b hb)))
  generalize ws.any (fun x => !pthB x) = b at HC HO
  go_enter Tryd.func20, Tryd.ntmps20
  go_wp2_with fail
  refine (unhide HC).mono ?_
  rintro e w1 ⟨rfl, q⟩
  go_wp2_with fail
  go_ret
  exact ⟨ret_bool HO.out.symm, q⟩

end Go.Proofs.YtbfhliocckkbmaaDoor
