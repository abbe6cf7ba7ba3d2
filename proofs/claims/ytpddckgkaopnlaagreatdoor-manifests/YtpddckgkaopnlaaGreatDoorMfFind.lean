/- Where a rule, a pool of a name stands, as package manifest's ruleAt and hasPool and the library's IndexFunc answer; the conditions: they lie in memory. -/
import Derived.Test.YtpddckgkaopnlaaGreatDoorWk1
namespace Go.Proofs.YtpddckgkaopnlaaGreatDoor
open Go.RowKit

/-- A rule's, a pool's cells. -/
def rv (r : Rl) : List Value := [.string ⟨r.1.toArray⟩, .string ⟨r.2.1.toArray⟩, .bool r.2.2.1, .string ⟨r.2.2.2.toArray⟩]
theorem rv_len (r : Rl) : (rv r).length = 4 := rfl
def plv (p : Pl) : List Value := [.string ⟨p.1.toArray⟩, .int .i64 p.2]
theorem plv_len (p : Pl) : (plv p).length = 2 := rfl

abbrev RowR (w : World) (ao : Option Addr) (rs : List Rl) : Prop := RowG rv 4 w ao rs
abbrev RowP (w : World) (ao : Option Addr) (ps : List Pl) : Prop := RowG plv 2 w ao ps
abbrev OwnR (w : World) (B : Nat) (ao : Option Addr) (cap : Nat) (rs : List Rl) : Prop := w.ownsRow B 109 4 (.slice ao rs.length cap) rs.length (lay rv rs)
abbrev OwnPl (w : World) (B : Nat) (ao : Option Addr) (cap : Nat) (ps : List Pl) : Prop := w.ownsRow B 73 2 (.slice ao ps.length cap) ps.length (lay plv ps)
theorem OwnR.row {w : World} {B : Nat} {ao : Option Addr} {cap : Nat} {rs : List Rl} (h : OwnR w B ao cap rs) : RowR w ao rs := RowG.own rv_len (by decide) h
theorem OwnPl.row {w : World} {B : Nat} {ao : Option Addr} {cap : Nat} {ps : List Pl} (h : OwnPl w B ao cap ps) : RowP w ao ps := RowG.own plv_len (by decide) h


set_option maxHeartbeats 1000000 in
theorem ruleAt1_any (r : Rl) (n : ByteArray) (p : Addr) (w : World) (hc : w.cell? p = some (.string n)) (hp : p.block < w.heap.size) :
    Calls Tryz.prog 105 #[.agg #[.string ⟨r.1.toArray⟩, .string ⟨r.2.1.toArray⟩, .bool r.2.2.1, .string ⟨r.2.2.2.toArray⟩], .pointer (some p)] w fun e w' => e = .returned (.bool (r.1 == bl n)) ∧ Q w w' := by
  have HN := hide (txt_beq r.1 n)
  obtain ⟨r1, r2, r3, r4⟩ := r
  dsimp only at HN ⊢
  generalize (⟨r1.toArray⟩ : ByteArray) = x1 at HN ⊢
  have hc2 : ∀ o, (w.alloc o).cell? p = some (.string n) := fun o => by
    rw [← hc]; exact ((Q.refl w).alloc o).cell hp
  go_enter Tryz.func105, Tryz.ntmps105
  go_wp2_with fail
  go_ret
  exact ⟨ret_bool (unhide HN), (Q.refl _).alloc _⟩

set_option maxHeartbeats 1000000 in
theorem hasPool1_any (r : Pl) (n : ByteArray) (p : Addr) (w : World) (hc : w.cell? p = some (.string n)) (hp : p.block < w.heap.size) :
    Calls Tryz.prog 111 #[.agg #[.string ⟨r.1.toArray⟩, .int .i64 r.2], .pointer (some p)] w fun e w' => e = .returned (.bool (r.1 == bl n)) ∧ Q w w' := by
  have HN := hide (txt_beq r.1 n)
  obtain ⟨r1, r2⟩ := r
  dsimp only at HN ⊢
  generalize (⟨r1.toArray⟩ : ByteArray) = x1 at HN ⊢
  have hc2 : ∀ o, (w.alloc o).cell? p = some (.string n) := fun o => by
    rw [← hc]; exact ((Q.refl w).alloc o).cell hp
  go_enter Tryz.func111, Tryz.ntmps111
  go_wp2_with fail
  go_ret
  exact ⟨ret_bool (unhide HN), (Q.refl _).alloc _⟩

set_option maxHeartbeats 2000000 in
theorem ixr_any (rs : List Rl) (n : ByteArray) (ao : Option Addr) (cap : Nat) (p : Addr) (w : World) (hr : RowR w ao rs) (hc : w.cell? p = some (.string n)) (hp : p.block < w.heap.size) (hs : rs.length ≤ 4096) :
    Calls Tryz.prog 104 #[.slice ao rs.length cap, .func (.func 105) #[] #[.pointer (some p)]] w
      fun e w' => e = .returned (.int .i64 (ixB (fun r : Rl => r.1 == bl n) rs)) ∧ Q w w' := by
  go_enter Tryz.func104, Tryz.ntmps104
  go_wp2_with fail
  go_loopw [8] (fun i wr => ∃ k : Nat, k ≤ rs.length ∧ i = .int .i64 k ∧ Hid ((rs.take k).any (fun r : Rl => r.1 == bl n) = false) ∧ Q w wr) (fun i _ => rs.length - (intOf i).toNat)
  case atStart => exact ⟨0, Nat.zero_le _, rfl, rfl, Q.refl _⟩
  case round =>
    obtain ⟨k, hk, rfl, HA, hq⟩ := hrel
    by_cases hlt : k < rs.length
    · rcases hr.q hq with he | ⟨g, o, rfl, hg, hcell⟩
      · rw [he] at hlt; simp at hlt
      obtain ⟨b, hb⟩ : ∃ b, rs[k]? = some b := ⟨rs[k], List.getElem?_eq_getElem hlt⟩
      have c1 : wr.cell? ⟨g, o + k * 4, none⟩ = some (.string ⟨b.1.toArray⟩) := hcell k 0 b _ hb (by decide) rfl
      have c2 : wr.cell? ⟨g, o + k * 4 + 1, none⟩ = some (.string ⟨b.2.1.toArray⟩) := hcell k 1 b _ hb (by decide) rfl
      have c3 : wr.cell? ⟨g, o + k * 4 + 2, none⟩ = some (.bool b.2.2.1) := hcell k 2 b _ hb (by decide) rfl
      have c4 : wr.cell? ⟨g, o + k * 4 + 3, none⟩ = some (.string ⟨b.2.2.2.toArray⟩) := hcell k 3 b _ hb (by decide) rfl
      have hcon := hide (ruleAt1_any b n p wr ((hq.cell hp).trans hc) (Nat.lt_of_lt_of_le hp hq.size))
      have HT := hide (anyt_succ (fun r : Rl => r.1 == bl n) hb)
      have HH := hide (fun h => ixB_at (p := fun r : Rl => r.1 == bl n) hb HA.out h)
      clear hcell hc hr hb
      cases hok : (b.1 == bl n)
      · have HO : Hid ((rs.take (k + 1)).any (fun r : Rl => r.1 == bl n) = false) := by
          show _ = false
          rw [unhide HT, HA.out]; simpa using hok
        rw [hok] at hcon
        clear hok HT HH HA
        go_wp2_with (go_at_call 105; refine (unhide hcon).mono ?_; rintro e w2 ⟨rfl, q2⟩)
        go_roundw
        case rel => exact ⟨k + 1, by omega, by go_num, HO, hq.trans q2⟩
        case measure => simp [intOf]; omega
      · have HO : Hid (ixB (fun r : Rl => r.1 == bl n) rs = k) := unhide HH hok
        rw [hok] at hcon
        clear hok HT HH HA
        go_wp2_with (go_at_call 105; refine (unhide hcon).mono ?_; rintro e w2 ⟨rfl, q2⟩)
        go_ret
        exact ⟨ret_int HO.out.symm, hq.trans q2⟩
    · have HO : Hid (ixB (fun r : Rl => r.1 == bl n) rs = -1) := by
        show _ = _
        have := HA.out
        rw [List.take_of_length_le (by omega)] at this
        exact ixB_no this
      clear HA
      go_wp2_with fail
      go_ret
      exact ⟨ret_int HO.out.symm, hq⟩

set_option maxHeartbeats 2000000 in
theorem ixp_any (rs : List Pl) (n : ByteArray) (ao : Option Addr) (cap : Nat) (p : Addr) (w : World) (hr : RowP w ao rs) (hc : w.cell? p = some (.string n)) (hp : p.block < w.heap.size) (hs : rs.length ≤ 4096) :
    Calls Tryz.prog 136 #[.slice ao rs.length cap, .func (.func 111) #[] #[.pointer (some p)]] w
      fun e w' => e = .returned (.int .i64 (ixB (fun r : Pl => r.1 == bl n) rs)) ∧ Q w w' := by
  go_enter Tryz.func136, Tryz.ntmps136
  go_wp2_with fail
  go_loopw [8] (fun i wr => ∃ k : Nat, k ≤ rs.length ∧ i = .int .i64 k ∧ Hid ((rs.take k).any (fun r : Pl => r.1 == bl n) = false) ∧ Q w wr) (fun i _ => rs.length - (intOf i).toNat)
  case atStart => exact ⟨0, Nat.zero_le _, rfl, rfl, Q.refl _⟩
  case round =>
    obtain ⟨k, hk, rfl, HA, hq⟩ := hrel
    by_cases hlt : k < rs.length
    · rcases hr.q hq with he | ⟨g, o, rfl, hg, hcell⟩
      · rw [he] at hlt; simp at hlt
      obtain ⟨b, hb⟩ : ∃ b, rs[k]? = some b := ⟨rs[k], List.getElem?_eq_getElem hlt⟩
      have c1 : wr.cell? ⟨g, o + k * 2, none⟩ = some (.string ⟨b.1.toArray⟩) := hcell k 0 b _ hb (by decide) rfl
      have c2 : wr.cell? ⟨g, o + k * 2 + 1, none⟩ = some (.int .i64 b.2) := hcell k 1 b _ hb (by decide) rfl
      have hcon := hide (hasPool1_any b n p wr ((hq.cell hp).trans hc) (Nat.lt_of_lt_of_le hp hq.size))
      have HT := hide (anyt_succ (fun r : Pl => r.1 == bl n) hb)
      have HH := hide (fun h => ixB_at (p := fun r : Pl => r.1 == bl n) hb HA.out h)
      clear hcell hc hr hb
      cases hok : (b.1 == bl n)
      · have HO : Hid ((rs.take (k + 1)).any (fun r : Pl => r.1 == bl n) = false) := by
          show _ = false
          rw [unhide HT, HA.out]; simpa using hok
        rw [hok] at hcon
        clear hok HT HH HA
        go_wp2_with (go_at_call 111; refine (unhide hcon).mono ?_; rintro e w2 ⟨rfl, q2⟩)
        go_roundw
        case rel => exact ⟨k + 1, by omega, by go_num, HO, hq.trans q2⟩
        case measure => simp [intOf]; omega
      · have HO : Hid (ixB (fun r : Pl => r.1 == bl n) rs = k) := unhide HH hok
        rw [hok] at hcon
        clear hok HT HH HA
        go_wp2_with (go_at_call 111; refine (unhide hcon).mono ?_; rintro e w2 ⟨rfl, q2⟩)
        go_ret
        exact ⟨ret_int HO.out.symm, hq.trans q2⟩
    · have HO : Hid (ixB (fun r : Pl => r.1 == bl n) rs = -1) := by
        show _ = _
        have := HA.out
        rw [List.take_of_length_le (by omega)] at this
        exact ixB_no this
      clear HA
      go_wp2_with fail
      go_ret
      exact ⟨ret_int HO.out.symm, hq⟩

set_option maxHeartbeats 1000000 in
theorem cxp_any (rs : List Pl) (n : ByteArray) (ao : Option Addr) (cap : Nat) (p : Addr) (w : World) (hr : RowP w ao rs) (hc : w.cell? p = some (.string n)) (hp : p.block < w.heap.size) (hs : rs.length ≤ 4096) :
    Calls Tryz.prog 110 #[.slice ao rs.length cap, .func (.func 111) #[] #[.pointer (some p)]] w
      fun e w' => e = .returned (.bool (plHas rs (bl n))) ∧ Q w w' := by
  have hC := hide (ixp_any rs n ao cap p w hr hc hp hs)
  have HD : Hid (decide (0 ≤ ixB (fun r : Pl => r.1 == bl n) rs) = plHas rs (bl n)) := ixB_dec _ _
  generalize ixB (fun r : Pl => r.1 == bl n) rs = z at hC HD
  clear hc
  go_enter Tryz.func110, Tryz.ntmps110
  go_wp2_with fail
  refine (unhide hC).mono ?_
  rintro e w2 ⟨rfl, q⟩
  go_wp2_with fail
  go_ret
  exact ⟨ret_bool (unhide HD), q⟩

set_option maxHeartbeats 1000000 in
theorem hasPool_any (rs : List Pl) (n : ByteArray) (ao : Option Addr) (cap : Nat) (w : World) (hr : RowP w ao rs) (hs : rs.length ≤ 4096) :
    Calls Tryz.prog 75 #[.slice ao rs.length cap, .string n] w
      fun e w' => e = .returned (.bool (plHas rs (bl n))) ∧ Q w w' := by
  go_enter Tryz.func75, Tryz.ntmps75
  go_wp2_with fail
  refine (cxp_any rs n ao cap _ _ (hr.q ((Q.refl w).alloc _)) (by simp) (by simp) hs).mono ?_
  rintro e w1 ⟨rfl, q1⟩
  go_wp2_with fail
  go_ret
  exact ⟨rfl, ((Q.refl w).alloc _).trans q1⟩

set_option maxHeartbeats 1000000 in
theorem ruleAt_any (R : Nat) (rs : List Rl) (n : ByteArray) (ao : Option Addr) (cap : Nat) (w : World) (hR : R < w.heap.size) (hc : w.cell? ⟨R, 3, none⟩ = some (.slice ao rs.length cap)) (hr : RowR w ao rs) (hs : rs.length ≤ 4096) :
    Calls Tryz.prog 64 #[.pointer (some ⟨R, 0, none⟩), .string n] w
      fun e w' => e = .returned (.int .i64 (ixB (fun r : Rl => r.1 == bl n) rs)) ∧ Q w w' := by
  have hc2 : ∀ o, (w.alloc o).cell? ⟨R, 3, none⟩ = some (.slice ao rs.length cap) := fun o => by
    rw [← hc]; exact ((Q.refl w).alloc o).cell hR
  go_enter Tryz.func64, Tryz.ntmps64
  go_wp2_with fail
  refine (ixr_any rs n ao cap _ _ (hr.q ((Q.refl w).alloc _)) (by simp) (by simp) hs).mono ?_
  rintro e w1 ⟨rfl, q1⟩
  go_wp2_with fail
  go_ret
  exact ⟨rfl, ((Q.refl w).alloc _).trans q1⟩

end Go.Proofs.YtpddckgkaopnlaaGreatDoor
