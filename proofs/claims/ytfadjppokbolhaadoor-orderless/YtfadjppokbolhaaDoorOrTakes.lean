/- Does an edge take one of these, as package edges' takesOf answers; the conditions: the edge and the names lie in memory, no text is longer than a string can be. -/
import Derived.Test.YtfadjppokbolhaaDoorGfCont
import Derived.Test.YtfadjppokbolhaaDoorOrPlain
namespace Go.Proofs.YtfadjppokbolhaaDoor
open Go.RowKit

set_option maxHeartbeats 2000000 in
theorem tk1_any (x : EdA) (n : ByteArray) (g : Nat) (w : World) (hb : Blk w g (ev x).toArray 38) (hx : EdRd w x) (hz : EdZ x.1) :
    Calls Tryd.prog 32 #[.string n, .pointer (some ⟨g, 0, none⟩)] w fun e w' => e = .returned (.bool (tkO x.1 (bl n))) ∧ Q w w' := by
  have c1 : w.cell? ⟨g, 1, none⟩ = some (.slice x.2.2.1.1 x.1.2.1.length x.2.2.1.2) := hb.cell 1 rfl
  have c2 : w.cell? ⟨g, 2, none⟩ = some (.slice x.2.2.2.1.1 x.1.2.2.1.length x.2.2.2.1.2) := hb.cell 2 rfl
  have c3 : w.cell? ⟨g, 3, none⟩ = some (.slice x.2.2.2.2.1 x.1.2.2.2.1.length x.2.2.2.2.2) := hb.cell 3 rfl
  have S1 := hide (sxCo_any x.1.2.1 n x.2.2.1.1 x.2.2.1.2 w hx.b hz.b.n)
  have S2 := hide (sxCo_any x.1.2.2.1 n x.2.2.2.1.1 x.2.2.2.1.2 w hx.c hz.c.n)
  have S3 := hide (sxCo_any x.1.2.2.2.1 n x.2.2.2.2.1 x.2.2.2.2.2 w hx.d hz.d.n)
  have HT : Hid (tkO x.1 (bl n) = (x.1.2.1.contains (bl n) || (x.1.2.2.1.contains (bl n) || x.1.2.2.2.1.contains (bl n)))) := rfl
  clear hb hx hz
  cases h1 : x.1.2.1.contains (bl n)
  · cases h2 : x.1.2.2.1.contains (bl n)
    · rw [h1] at S1; rw [h2] at S2
      have HO : Hid (tkO x.1 (bl n) = x.1.2.2.2.1.contains (bl n)) := by show _ = _; rw [HT.out, h1, h2]; rfl
      clear HT h1 h2
      generalize x.1.2.2.2.1.contains (bl n) = z at *
      go_enter Tryd.func32, Tryd.ntmps32
      go_wp2_with fail
      refine (unhide S1).mono ?_
      rintro e w2 ⟨rfl, rfl⟩
      go_wp2_with fail
      refine (unhide S2).mono ?_
      rintro e w2 ⟨rfl, rfl⟩
      go_wp2_with fail
      refine (unhide S3).mono ?_
      rintro e w2 ⟨rfl, rfl⟩
      go_wp2_with fail
      go_ret
      exact ⟨ret_bool HO.out.symm, Q.refl _⟩
    · rw [h1] at S1; rw [h2] at S2
      have HO : Hid (tkO x.1 (bl n) = true) := by show _ = _; rw [HT.out, h1, h2]; rfl
      clear HT h1 h2 S3
      go_enter Tryd.func32, Tryd.ntmps32
      go_wp2_with fail
      refine (unhide S1).mono ?_
      rintro e w2 ⟨rfl, rfl⟩
      go_wp2_with fail
      refine (unhide S2).mono ?_
      rintro e w2 ⟨rfl, rfl⟩
      go_wp2_with fail
      go_ret
      exact ⟨ret_bool HO.out.symm, Q.refl _⟩
  · rw [h1] at S1
    have HO : Hid (tkO x.1 (bl n) = true) := by show _ = _; rw [HT.out, h1]; rfl
    clear HT h1 S2 S3
    go_enter Tryd.func32, Tryd.ntmps32
    go_wp2_with fail
    refine (unhide S1).mono ?_
    rintro e w2 ⟨rfl, rfl⟩
    go_wp2_with fail
    go_ret
    exact ⟨ret_bool HO.out.symm, Q.refl _⟩

set_option maxHeartbeats 2000000 in
theorem tk_ix (xs : List (Tx)) (pr : Tx → Bool) (ao : Option Addr) (cap : Nat) (p : Addr) (w : World) (hr : RowG tv 1 w ao xs) (hs : xs.length ≤ 140737488355328) (hcl : ∀ wr, Q w wr → ∀ b ∈ xs, Calls Tryd.prog 32 #[.string ⟨b.toArray⟩, .pointer (some p)] wr fun e w' => e = .returned (.bool (pr b)) ∧ Q wr w') :
    Calls Tryd.prog 44 #[.slice ao xs.length cap, .func (.func 32) #[] #[.pointer (some p)]] w fun e w' => e = .returned (.int .i64 (ixB pr xs)) ∧ Q w w' := by
  have HCL := hide hcl
  clear hcl
  go_enter Tryd.func44, Tryd.ntmps44
  go_wp2_with fail
  go_loopw [8] (fun i wr => ∃ k : Nat, k ≤ xs.length ∧ i = .int .i64 k ∧ Hid ((xs.take k).any pr = false) ∧ Q w wr) (fun i _ => xs.length - (intOf i).toNat)
  case atStart => exact ⟨0, Nat.zero_le _, rfl, rfl, Q.refl _⟩
  case round =>
    obtain ⟨k, hk, rfl, HA, hq⟩ := hrel
    by_cases hlt : k < xs.length
    · rcases hr.q hq with he | ⟨g, o, rfl, hg, hcell⟩
      · rw [he] at hlt; simp at hlt
      obtain ⟨b, hb⟩ : ∃ b, xs[k]? = some b := ⟨xs[k], List.getElem?_eq_getElem hlt⟩
      have c0 : wr.cell? ⟨g, o + k, none⟩ = some (.string ⟨b.toArray⟩) := by have := hcell k 0 b _ hb (by decide) rfl; simpa using this
      have hcon := hide (unhide HCL wr hq b (List.mem_of_getElem? hb))
      have HT := hide (anyt_succ pr hb)
      have HH := hide (fun h => ixB_at (p := pr) hb HA.out h)
      clear hcell hr hb
      cases hok : pr b
      · have HO : Hid ((xs.take (k + 1)).any pr = false) := by
          show _ = false
          rw [unhide HT, HA.out]; simpa using hok
        rw [hok] at hcon
        clear hok HT HH HA
        go_wp2_with (go_at_call 32; refine (unhide hcon).mono ?_; rintro e w2 ⟨rfl, q2⟩)
        go_roundw
        case rel => exact ⟨k + 1, by omega, by go_num, HO, hq.trans q2⟩
        case measure => simp [intOf]; omega
      · have HO : Hid (ixB pr xs = k) := unhide HH hok
        rw [hok] at hcon
        clear hok HT HH HA
        go_wp2_with (go_at_call 32; refine (unhide hcon).mono ?_; rintro e w2 ⟨rfl, q2⟩)
        go_ret
        exact ⟨ret_int HO.out.symm, hq.trans q2⟩
    · have HO : Hid (ixB pr xs = -1) := by
        show _ = _
        have := HA.out
        rw [List.take_of_length_le (by omega)] at this
        exact ixB_no this
      clear HA
      go_wp2_with fail
      go_ret
      exact ⟨ret_int HO.out.symm, hq⟩

set_option maxHeartbeats 1000000 in
theorem tk_cx (xs : List (Tx)) (pr : Tx → Bool) (ao : Option Addr) (cap : Nat) (p : Addr) (w : World) (hr : RowG tv 1 w ao xs) (hs : xs.length ≤ 140737488355328) (hcl : ∀ wr, Q w wr → ∀ b ∈ xs, Calls Tryd.prog 32 #[.string ⟨b.toArray⟩, .pointer (some p)] wr fun e w' => e = .returned (.bool (pr b)) ∧ Q wr w') :
    Calls Tryd.prog 31 #[.slice ao xs.length cap, .func (.func 32) #[] #[.pointer (some p)]] w fun e w' => e = .returned (.bool (xs.any pr)) ∧ Q w w' := by
  have hC := hide (tk_ix xs pr ao cap p w hr hs hcl)
  have HD : Hid (decide (0 ≤ ixB pr xs) = xs.any pr) := ixB_dec _ _
  generalize ixB pr xs = z at hC HD
  clear hcl
  go_enter Tryd.func31, Tryd.ntmps31
  go_wp2_with fail
  refine (unhide hC).mono ?_
  rintro e w2 ⟨rfl, q⟩
  go_wp2_with fail
  go_ret
  exact ⟨ret_bool (unhide HD), q⟩


set_option maxHeartbeats 1000000 in
theorem tak_any (x : EdA) (ms : Ws) (mo : Option Addr) (mc : Nat) (w : World) (hx : EdRd w x) (hz : EdZ x.1) (hm : RowT w mo ms) (hl : ms.length ≤ 140737488355328) :
    Calls Tryd.prog 22 #[edV' x, .slice mo ms.length mc] w fun e w' => e = .returned (.bool (ms.any (tkO x.1))) ∧ Q w w' := by
  have q0 : Q w (bx1' w x) := (Q.refl w).alloc _
  have hb : Blk (bx1' w x) w.heap.size (ev x).toArray 38 := Blk.new w _ _
  have HC := hide (tk_cx ms (tkO x.1) mo mc ⟨w.heap.size, 0, none⟩ (bx1' w x) (hm.q q0) hl (fun wr q b _ => by
    have := tk1_any x ⟨b.toArray⟩ w.heap.size wr (hb.q q) (hx.q (q0.trans q)) hz
    exact this))
  clear hm hx hz hb
  go_enter Tryd.func22, Tryd.ntmps22
  go_wp2_with fail
  refine (unhide HC).mono ?_
  rintro e w1 ⟨rfl, q1⟩
  go_wp2_with fail
  go_ret
  exact ⟨rfl, q0.trans q1⟩

end Go.Proofs.YtfadjppokbolhaaDoor
