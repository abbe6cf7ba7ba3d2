/- What the two functions of a pool under way answer; the conditions: it lies in memory. -/
import Derived.Test.YtpddckgkaopnlaaGreatDoorMfOver
namespace Go.Proofs.YtpddckgkaopnlaaGreatDoor
open Go.RowKit

/-- What a bind line below a pool tells. -/
def poT (p : Pl) (k v : Tx) : Option Pl := if k = kDepth ∧ p.2 = 0 ∧ dpth v ≠ 0 then some (p.1, dpth v) else none
def poN (x : Option Pl) : Int := match x with | none => 800 | some _ => 0

def PkSays (M : Nat) (x : Option Pl) (w : World) (e : Ending) (w' : World) : Prop :=
  e = .returned (.int .i64 (poN x)) ∧ (∀ r, x = some r → Blk w' M (plv r).toArray 73) ∧ Fr (fun k => k = M) w w'

set_option maxHeartbeats 2000000 in
theorem pool1_any (M : Nat) (p : Pl) (key val : ByteArray) (w : World) (hM : Blk w M (plv p).toArray 73) :
    Calls Tryz.prog 76 #[.string key, .string val, .pointer (some ⟨M, 0, none⟩)] w (PkSays M (poT p (bl key) (bl val)) w) := by
  have m1 : w.cell? ⟨M, 1, none⟩ = some (.int .i64 p.2) := hM.cell 1 rfl
  have f1 := hM.frz 1
  have HM := hide hM
  have HD := hide (fun w => depthOf_any val w)
  have hno : ∀ w', Q w w' → poT p (bl key) (bl val) = none → PkSays M (poT p (bl key) (bl val)) w (.returned (.int .i64 800)) w' := by
    intro w' q h; rw [h]; exact ⟨rfl, (fun r h => by cases h), Fr.of_q q⟩
  have HNO := hide hno
  clear hM hno
  by_cases k1 : bl key = kDepth
  · have e1 : (key.toList == [100, 101, 112, 116, 104]) = true := is_key k1
    have e2 : (key.toList != [100, 101, 112, 116, 104]) = false := is_keyn k1
    by_cases h2 : p.2 = 0
    · have g1 : ((p.2 : Int) == 0) = true := by simp; omega
      have g2 : ((p.2 : Int) != 0) = false := by simp; omega
      by_cases h3 : dpth (bl val) = 0
      · have HR : Hid (poT p (bl key) (bl val) = none) := by show _ = _; unfold poT; rw [if_neg (fun h => h.2.2 h3)]
        rw [h3] at HD
        generalize hd : (p.2 : Int) = x1 at *
        clear k1 h2 h3 hd
        go_enter Tryz.func76, Tryz.ntmps76
        go_wp2_with fail
        refine (unhide HD _).mono ?_
        rintro e w2 ⟨rfl, rfl⟩
        go_wp2_with fail
        go_ret
        exact unhide HNO _ (Q.refl _) HR.out
      · have HR : Hid (poT p (bl key) (bl val) = some (p.1, dpth (bl val))) := by show _ = _; unfold poT; rw [if_pos ⟨k1, h2, h3⟩]
        have g3 : ((dpth (bl val) : Int) == 0) = false := by simp; omega
        generalize hdv : dpth (bl val) = dv at *
        generalize hd : (p.2 : Int) = x1 at *
        have HDV := hide hdv
        clear k1 h2 h3 hd hdv
        go_enter Tryz.func76, Tryz.ntmps76
        go_wp2_with fail
        refine (unhide HD _).mono ?_
        rintro e w2 ⟨rfl, rfl⟩
        go_wp2_with fail
        go_ret
        rw [HR.out]
        refine ⟨rfl, fun r h => ?_, Fr.set _ _ _ _⟩
        cases h
        have := (unhide HM).set 1 (.int .i64 dv)
        simpa [plv] using this
    · have g1 : ((p.2 : Int) == 0) = false := by simp; omega
      have g2 : ((p.2 : Int) != 0) = true := by simp; omega
      have HR : Hid (poT p (bl key) (bl val) = none) := by show _ = _; unfold poT; rw [if_neg (fun h => h2 h.2.1)]
      generalize hd : (p.2 : Int) = x1 at *
      clear k1 h2 hd
      go_enter Tryz.func76, Tryz.ntmps76
      go_wp2_with fail
      refine (unhide HD _).mono ?_
      rintro e w2 ⟨rfl, rfl⟩
      go_wp2_with fail
      go_ret
      exact unhide HNO _ (Q.refl _) HR.out
  · have e1 : (key.toList == [100, 101, 112, 116, 104]) = false := no_key k1
    have e2 : (key.toList != [100, 101, 112, 116, 104]) = true := no_keyn k1
    have HR : Hid (poT p (bl key) (bl val) = none) := by show _ = _; unfold poT; rw [if_neg (fun h => k1 h.1)]
    clear k1
    go_enter Tryz.func76, Tryz.ntmps76
    go_wp2_with fail
    refine (unhide HD _).mono ?_
    rintro e w2 ⟨rfl, rfl⟩
    go_wp2_with fail
    go_ret
    exact unhide HNO _ (Q.refl _) HR.out

set_option maxHeartbeats 2000000 in
theorem pool2_no (M RB : Nat) (r : Pl) (w : World) (hM : Blk w M (plv r).toArray 73) (h0 : r.2 = 0) :
    Calls Tryz.prog 78 #[.pointer (some ⟨M, 0, none⟩), .pointer (some ⟨RB, 0, none⟩)] w fun e w' => e = .returned (.int .i64 800) ∧ w' = w := by
  have m1 : w.cell? ⟨M, 1, none⟩ = some (.int .i64 r.2) := hM.cell 1 rfl
  have g1 : ((r.2 : Int) == 0) = true := by simp; omega
  generalize hd : (r.2 : Int) = x1 at *
  clear h0 hM hd
  go_enter Tryz.func78, Tryz.ntmps78
  go_wp2_with fail
  go_ret
  exact ⟨rfl, rfl⟩

set_option maxHeartbeats 4000000 in
theorem pool2_yes (B R M RB : Nat) (r : Pl) (rs : List Pl) (ro : Option Addr) (rc : Nat) (cs : Array Value) (w : World) (hM : Blk w M (plv r).toArray 73) (hRB : Blk w RB #[.pointer (some ⟨R, 0, none⟩)] 40) (hR : Blk w R cs 49) (hc : cs[1]? = some (.slice ro rs.length rc)) (hown : OwnPl w B ro rc rs) (hB : B ≤ w.heap.size) (hs : rs.length ≤ 4096) (h0 : r.2 ≠ 0) :
    Calls Tryz.prog 78 #[.pointer (some ⟨M, 0, none⟩), .pointer (some ⟨RB, 0, none⟩)] w fun e w' =>
        ∃ (ao : Option Addr) (cap : Nat), e = .returned (.int .i64 0) ∧ OwnPl w' B ao cap (rs ++ [r]) ∧ Blk w' R (cs.setIfInBounds 1 (.slice ao (rs ++ [r]).length cap)) 49 ∧ Fr (fun k => k = R ∨ (Value.slice ro rs.length rc).ownBlock = some k) w w' := by
  obtain ⟨i0, hi, hz0, hz1, hz2⟩ := info_parts Tryz.infoPl
  have c1 : w.cell? ⟨R, 1, none⟩ = some (.slice ro rs.length rc) := hR.cell 1 hc
  have c2 : w.cell? ⟨RB, 0, none⟩ = some (.pointer (some ⟨R, 0, none⟩)) := hRB.cell 0 rfl
  have m0 : w.cell? ⟨M, 0, none⟩ = some (.string ⟨r.1.toArray⟩) := hM.cell 0 rfl
  have m1 : w.cell? ⟨M, 1, none⟩ = some (.int .i64 r.2) := hM.cell 1 rfl
  have hnr : ∀ k, (Value.slice ro rs.length rc).ownBlock = some k → k ≠ R := hR.row hown (by decide)
  have a1 : ∀ ob, (w.alloc ob).cell? ⟨R, 1, none⟩ = some (.slice ro rs.length rc) := fun ob => (hR.q ((Q.refl w).alloc ob)).cell 1 hc
  have a2 : ∀ ob, (w.alloc ob).cell? ⟨RB, 0, none⟩ = some (.pointer (some ⟨R, 0, none⟩)) := fun ob => (hRB.q ((Q.refl w).alloc ob)).cell 0 rfl
  have HNB : Hid (∀ k, (Value.slice ro rs.length rc).ownBlock = some k → k ≠ RB) := hRB.row hown (by decide)
  have HR := hide hR
  have HRB := hide hRB
  have HC := hide hc
  have HNR := hide hnr
  have HO := hide hown
  have g1 : ((r.2 : Int) == 0) = false := by simp; omega
  clear hM hRB hR hc hown hnr h0
  have HE : Hid ([Value.string ⟨r.1.toArray⟩, .int .i64 r.2] = plv r) := rfl
  generalize (⟨r.1.toArray⟩ : ByteArray) = x0 at *
  generalize hd : (r.2 : Int) = x1 at *
  clear hd
  go_enter Tryz.func78, Tryz.ntmps78
  go_wp2_with fail
  go_region_law (refine step_row rfl (.tmp 11) (.tmp 13) 23 rfl B 73 i0 _ 2 24 Tryz.underlying23 hi hz0 hz1 hz2 rfl (by decide) ro rs.length rc (lay plv rs) (by rfl) (own_q (unhide HO) ((Q.refl w).drew.alloc _)) (some ⟨w.drew.heap.size, 0, none⟩) 1 1 [.string x0, .int .i64 x1] (by rfl) (SrcRow.new w.drew #[.string x0, .int .i64 x1] _ 2 rfl) (by intro u hu; simp at hu; rcases hu with rfl | rfl <;> rfl) (by unfold maxLen; omega) (by omega) (le_alloc hB _) ?_; intro ao' cap' w5 ho5 hg5; have hB5 := hide ((unhide HR).grown ((Q.refl w).drew.alloc _) hg5 (unhide HNR)); have b5 : w5.cell? ⟨R, 1, none⟩ = some (.slice ro rs.length rc) := (unhide hB5).cell 1 (unhide HC); have f5 := (unhide hB5).frz 1; have r5 : w5.cell? ⟨RB, 0, none⟩ = some (.pointer (some ⟨R, 0, none⟩)) := ((unhide HRB).grown ((Q.refl w).drew.alloc _) hg5 (unhide HNB)).cell 0 rfl)
  all_goals
    have HO5 := hide ho5
    have HF5 : Hid (Fr (fun k => k = R ∨ (Value.slice ro rs.length rc).ownBlock = some k) w (w5.setCell ⟨R, 1, none⟩ (.slice ao' (rs.length + 1) cap'))) :=
      ((Fr.of_q ((Q.refl w).drew.alloc _)).trans ((Fr.grown hg5).mono (fun k h => Or.inr h))).trans ((Fr.set _ _ _ _).mono (fun k h => Or.inl h))
    clear ho5 hg5 b5 f5 r5
    go_wp2_with fail
    go_ret
    refine ⟨ao', cap', rfl, ?_, ?_, unhide HF5⟩
    · have h1 := own_fr (unhide HO5) (Fr.set w5 R 1 (.slice ao' (rs.length + 1) cap')) (own_new_ne (unhide HO5) (unhide hB5))
      rw [HE.out] at h1
      show World.ownsRow _ _ _ _ (.slice _ (rs ++ [r]).length _) (rs ++ [r]).length (lay plv (rs ++ [r]))
      rw [lay_snoc, List.length_append]; exact h1
    · have h1 := (unhide hB5).set 1 (.slice ao' (rs.length + 1) cap')
      rw [List.length_append]; exact h1

end Go.Proofs.YtpddckgkaopnlaaGreatDoor
