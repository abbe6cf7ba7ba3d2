/- What package manifest's take answers for a rule under way, and for a pool; the conditions: they lie in memory. -/
import Derived.Test.YtpddckgkaopnlaaGreatDoorBnEvOf
namespace Go.Proofs.YtpddckgkaopnlaaGreatDoor
open Go.RowKit

def rlN (x : Option Rl) : Int := match x with | none => 800 | some _ => 0

/-- What take answers. -/
def TkSays (M : Nat) (x : Option Rl) (w : World) (e : Ending) (w' : World) : Prop :=
  e = .returned (.int .i64 (rlN x)) ∧ (∀ r, x = some r → Blk w' M (rv r).toArray 109) ∧ Fr (fun k => k = M) w w'

theorem TkSays.none {M : Nat} {w w' : World} {x : Option Rl} (hx : x = none) (hq : Q w w') : TkSays M x w (.returned (.int .i64 800)) w' := by
  subst hx; exact ⟨rfl, (fun r h => by cases h), Fr.of_q hq⟩

set_option maxHeartbeats 4000000 in
theorem take_any (M : Nat) (n c : ByteArray) (d : Bool) (p : ByteArray) (key val : ByteArray) (ps : List Pl) (po : Option Addr) (pc : Nat) (w : World) (hM : Blk w M #[.string n, .string c, .bool d, .string p] 109) (hp : RowP w po ps) (hs : ps.length ≤ 4096) :
    Calls Tryz.prog 66 #[.pointer (some ⟨M, 0, none⟩), .string key, .string val, .slice po ps.length pc] w (TkSays M (rlT ps (bl n, bl c, d, bl p) (bl key) (bl val)) w) := by
  have HM := hide hM
  have c1 : w.cell? ⟨M, 1, none⟩ = some (.string c) := hM.cell 1 rfl
  have c2 : w.cell? ⟨M, 2, none⟩ = some (.bool d) := hM.cell 2 rfl
  have c3 : w.cell? ⟨M, 3, none⟩ = some (.string p) := hM.cell 3 rfl
  have f1 := hM.frz 1
  have f2 := hM.frz 2
  have f3 := hM.frz 3
  clear hM
  by_cases k1 : bl key = kCommand
  · have e1 : (key.toList == [99, 111, 109, 109, 97, 110, 100]) = true := is_key k1
    have e2 : (key.toList == [100, 101, 112, 115]) = false := no_key (by rw [k1]; decide)
    have e3 : (key.toList == [112, 111, 111, 108]) = false := no_key (by rw [k1]; decide)
    by_cases h2 : bl c = []
    · have g1 := is_emp h2
      by_cases h3 : bl val = []
      · have HR : Hid (rlT ps (bl n, bl c, d, bl p) (bl key) (bl val) = none) := by show _ = _; unfold rlT; rw [k1, h3]; simp [kCommand, kDeps, kPool]
        have g2 := is_emp h3
        clear k1 h2 h3
        go_enter Tryz.func66, Tryz.ntmps66
        go_wp2_with fail
        go_ret
        exact TkSays.none HR.out (Q.refl _)
      · have HR : Hid (rlT ps (bl n, bl c, d, bl p) (bl key) (bl val) = some (bl n, bl val, d, bl p)) := by show _ = _; unfold rlT; rw [if_pos ⟨k1, h2, h3⟩]
        have g2 := no_emp h3
        clear k1 h2 h3
        go_enter Tryz.func66, Tryz.ntmps66
        go_wp2_with fail
        go_ret
        rw [HR.out]
        refine ⟨rfl, fun r h => ?_, Fr.set _ _ _ _⟩
        cases h
        have := (unhide HM).set 1 (.string val)
        simpa [rv, mk_bl] using this
    · have HR : Hid (rlT ps (bl n, bl c, d, bl p) (bl key) (bl val) = none) := by show _ = _; unfold rlT; rw [k1]; simp [kCommand, kDeps, kPool, h2]
      have g1 := no_emp h2
      clear k1 h2
      go_enter Tryz.func66, Tryz.ntmps66
      go_wp2_with fail
      go_ret
      exact TkSays.none HR.out (Q.refl _)
  · have e1 : (key.toList == [99, 111, 109, 109, 97, 110, 100]) = false := no_key k1
    by_cases k2 : bl key = kDeps
    · have e2 : (key.toList == [100, 101, 112, 115]) = true := is_key k2
      have e3 : (key.toList == [112, 111, 111, 108]) = false := no_key (by rw [k2]; decide)
      cases d with
      | true =>
        have HR : Hid (rlT ps (bl n, bl c, true, bl p) (bl key) (bl val) = none) := by show _ = _; unfold rlT; rw [k2]; simp [kCommand, kDeps, kPool]
        clear k1 k2
        go_enter Tryz.func66, Tryz.ntmps66
        go_wp2_with fail
        go_ret
        exact TkSays.none HR.out (Q.refl _)
      | false =>
        by_cases h3 : bl val = [49]
        · have HR : Hid (rlT ps (bl n, bl c, false, bl p) (bl key) (bl val) = some (bl n, bl c, true, bl p)) := by show _ = _; unfold rlT; rw [if_neg (fun h => k1 h.1), if_pos ⟨k2, rfl, h3⟩]
          have g2 : (val.toList == [49]) = true := is_key h3
          clear k1 k2 h3
          go_enter Tryz.func66, Tryz.ntmps66
          go_wp2_with fail
          go_ret
          rw [HR.out]
          refine ⟨rfl, fun r h => ?_, Fr.set _ _ _ _⟩
          cases h
          have := (unhide HM).set 2 (.bool true)
          simpa [rv, mk_bl] using this
        · have HR : Hid (rlT ps (bl n, bl c, false, bl p) (bl key) (bl val) = none) := by show _ = _; unfold rlT; rw [k2]; simp [kCommand, kDeps, kPool, h3]
          have g2 : (val.toList == [49]) = false := no_key h3
          clear k1 k2 h3
          go_enter Tryz.func66, Tryz.ntmps66
          go_wp2_with fail
          go_ret
          exact TkSays.none HR.out (Q.refl _)
    · have e2 : (key.toList == [100, 101, 112, 115]) = false := no_key k2
      by_cases k3 : bl key = kPool
      · have e3 : (key.toList == [112, 111, 111, 108]) = true := is_key k3
        by_cases h2 : bl p = []
        · have g1 := is_emp h2
          have HC := hide (hasPool_any ps val po pc w hp hs)
          cases h3 : plHas ps (bl val)
          · have HR : Hid (rlT ps (bl n, bl c, d, bl p) (bl key) (bl val) = none) := by show _ = _; unfold rlT; rw [k3]; simp [kCommand, kDeps, kPool, h3]
            rw [h3] at HC
            clear k1 k2 k3 h2 h3
            go_enter Tryz.func66, Tryz.ntmps66
            go_wp2_with fail
            refine (unhide HC).mono ?_
            rintro e w2 ⟨rfl, q2⟩
            go_wp2_with fail
            go_ret
            exact TkSays.none HR.out q2
          · have HR : Hid (rlT ps (bl n, bl c, d, bl p) (bl key) (bl val) = some (bl n, bl c, d, bl val)) := by show _ = _; unfold rlT; rw [if_neg (fun h => k1 h.1), if_neg (fun h => k2 h.1), if_pos ⟨k3, h2, h3⟩]
            rw [h3] at HC
            clear k1 k2 k3 h2 h3
            go_enter Tryz.func66, Tryz.ntmps66
            go_wp2_with fail
            refine (unhide HC).mono ?_
            rintro e w2 ⟨rfl, q2⟩
            have hM2 := (unhide HM).q q2
            have c3' : w2.cell? ⟨M, 3, none⟩ = some (.string p) := hM2.cell 3 rfl
            have f3' := hM2.frz 3
            have HM2 := hide hM2
            clear hM2
            go_wp2_with fail
            go_ret
            rw [HR.out]
            refine ⟨rfl, fun r h => ?_, (Fr.of_q q2).trans (Fr.set _ _ _ _)⟩
            cases h
            have := (unhide HM2).set 3 (.string val)
            simpa [rv, mk_bl] using this
        · have HR : Hid (rlT ps (bl n, bl c, d, bl p) (bl key) (bl val) = none) := by show _ = _; unfold rlT; rw [k3]; simp [kCommand, kDeps, kPool, h2]
          have g1 := no_emp h2
          clear k1 k2 k3 h2
          go_enter Tryz.func66, Tryz.ntmps66
          go_wp2_with fail
          go_ret
          exact TkSays.none HR.out (Q.refl _)
      · have e3 : (key.toList == [112, 111, 111, 108]) = false := no_key k3
        have HR : Hid (rlT ps (bl n, bl c, d, bl p) (bl key) (bl val) = none) := by show _ = _; unfold rlT; rw [if_neg (fun h => k1 h.1), if_neg (fun h => k2 h.1), if_neg (fun h => k3 h.1)]
        clear k1 k2 k3
        go_enter Tryz.func66, Tryz.ntmps66
        go_wp2_with fail
        go_ret
        exact TkSays.none HR.out (Q.refl _)

end Go.Proofs.YtpddckgkaopnlaaGreatDoor
