/- What the two functions of a rule under way, and of a pool, answer; the conditions: they lie in memory. -/
import Derived.Test.YtpddckgkaopnlaaGreatDoorMfTake
import Derived.Test.YtpddckgkaopnlaaGreatDoorWk1
import Derived.Deep.RegionLaw
namespace Go.Proofs.YtpddckgkaopnlaaGreatDoor
open Go.RowKit

theorem Tryz.infoR : (Tryz.prog.info? 109).map (fun i => (i.zero, i.size, i.bytes)) = some (some (.agg #[.string ByteArray.empty, .string ByteArray.empty, .bool false, .string ByteArray.empty]), 4, 56) := by kernel_rfl
theorem Tryz.infoPl : (Tryz.prog.info? 73).map (fun i => (i.zero, i.size, i.bytes)) = some (some (.agg #[.string ByteArray.empty, .int .i64 0]), 2, 24) := by kernel_rfl

set_option maxHeartbeats 2000000 in
theorem rule1_any (R M RB : Nat) (r : Rl) (key val : ByteArray) (ps : List Pl) (po : Option Addr) (pc : Nat) (cs : Array Value) (w : World) (hM : Blk w M (rv r).toArray 109) (hRB : Blk w RB #[.pointer (some ⟨R, 0, none⟩)] 40) (hR : Blk w R cs 49) (hc : cs[1]? = some (.slice po ps.length pc)) (hp : RowP w po ps) (hs : ps.length ≤ 4096) :
    Calls Tryz.prog 65 #[.string key, .string val, .pointer (some ⟨M, 0, none⟩), .pointer (some ⟨RB, 0, none⟩)] w (TkSays M (rlT ps r (bl key) (bl val)) w) := by
  have HT := hide (take_any M ⟨r.1.toArray⟩ ⟨r.2.1.toArray⟩ r.2.2.1 ⟨r.2.2.2.toArray⟩ key val ps po pc w hM hp hs)
  have c1 : w.cell? ⟨R, 1, none⟩ = some (.slice po ps.length pc) := hR.cell 1 hc
  have c2 : w.cell? ⟨RB, 0, none⟩ = some (.pointer (some ⟨R, 0, none⟩)) := hRB.cell 0 rfl
  clear hM hRB hR hc
  have e : rlT ps (bl ⟨r.1.toArray⟩, bl ⟨r.2.1.toArray⟩, r.2.2.1, bl ⟨r.2.2.2.toArray⟩) (bl key) (bl val) = rlT ps r (bl key) (bl val) := rfl
  rw [e] at HT
  generalize rlT ps r (bl key) (bl val) = x at HT ⊢
  clear e
  go_enter Tryz.func65, Tryz.ntmps65
  go_wp2_with fail
  refine (unhide HT).mono ?_
  rintro e w2 ⟨rfl, h1, h2⟩
  have H1 := hide h1
  clear h1
  go_wp2_with fail
  go_ret
  exact ⟨rfl, unhide H1, h2⟩

set_option maxHeartbeats 2000000 in
theorem rule2_no (M RB : Nat) (r : Rl) (w : World) (hM : Blk w M (rv r).toArray 109) (h0 : r.2.1 = []) :
    Calls Tryz.prog 67 #[.pointer (some ⟨M, 0, none⟩), .pointer (some ⟨RB, 0, none⟩)] w fun e w' => e = .returned (.int .i64 800) ∧ w' = w := by
  have m1 : w.cell? ⟨M, 1, none⟩ = some (.string ⟨r.2.1.toArray⟩) := hM.cell 1 rfl
  have g1 : (⟨r.2.1.toArray⟩ : ByteArray).toList.isEmpty = true := is_emp h0
  clear h0 hM
  generalize (⟨r.2.1.toArray⟩ : ByteArray) = x1 at *
  go_enter Tryz.func67, Tryz.ntmps67
  go_wp2_with fail
  go_ret
  exact ⟨rfl, rfl⟩

set_option maxHeartbeats 4000000 in
theorem rule2_yes (B R M RB : Nat) (r : Rl) (rs : List Rl) (ro : Option Addr) (rc : Nat) (cs : Array Value) (w : World) (hM : Blk w M (rv r).toArray 109) (hRB : Blk w RB #[.pointer (some ⟨R, 0, none⟩)] 40) (hR : Blk w R cs 49) (hc : cs[3]? = some (.slice ro rs.length rc)) (hown : OwnR w B ro rc rs) (hB : B ≤ w.heap.size) (hs : rs.length ≤ 4096) (h0 : r.2.1 ≠ []) :
    Calls Tryz.prog 67 #[.pointer (some ⟨M, 0, none⟩), .pointer (some ⟨RB, 0, none⟩)] w fun e w' =>
        ∃ (ao : Option Addr) (cap : Nat), e = .returned (.int .i64 0) ∧ OwnR w' B ao cap (rs ++ [r]) ∧ Blk w' R (cs.setIfInBounds 3 (.slice ao (rs ++ [r]).length cap)) 49 ∧ Fr (fun k => k = R ∨ (Value.slice ro rs.length rc).ownBlock = some k) w w' := by
  obtain ⟨i0, hi, hz0, hz1, hz2⟩ := info_parts Tryz.infoR
  have c1 : w.cell? ⟨R, 3, none⟩ = some (.slice ro rs.length rc) := hR.cell 3 hc
  have c2 : w.cell? ⟨RB, 0, none⟩ = some (.pointer (some ⟨R, 0, none⟩)) := hRB.cell 0 rfl
  have m0 : w.cell? ⟨M, 0, none⟩ = some (.string ⟨r.1.toArray⟩) := hM.cell 0 rfl
  have m1 : w.cell? ⟨M, 1, none⟩ = some (.string ⟨r.2.1.toArray⟩) := hM.cell 1 rfl
  have m2 : w.cell? ⟨M, 2, none⟩ = some (.bool r.2.2.1) := hM.cell 2 rfl
  have m3 : w.cell? ⟨M, 3, none⟩ = some (.string ⟨r.2.2.2.toArray⟩) := hM.cell 3 rfl
  have hnr : ∀ k, (Value.slice ro rs.length rc).ownBlock = some k → k ≠ R := hR.row hown (by decide)
  have a1 : ∀ ob, (w.alloc ob).cell? ⟨R, 3, none⟩ = some (.slice ro rs.length rc) := fun ob => (hR.q ((Q.refl w).alloc ob)).cell 3 hc
  have a2 : ∀ ob, (w.alloc ob).cell? ⟨RB, 0, none⟩ = some (.pointer (some ⟨R, 0, none⟩)) := fun ob => (hRB.q ((Q.refl w).alloc ob)).cell 0 rfl
  have HNB : Hid (∀ k, (Value.slice ro rs.length rc).ownBlock = some k → k ≠ RB) := hRB.row hown (by decide)
  have HR := hide hR
  have HRB := hide hRB
  have HC := hide hc
  have HNR := hide hnr
  have HO := hide hown
  have g1 : (⟨r.2.1.toArray⟩ : ByteArray).toList.isEmpty = false := no_emp h0
  clear hM hRB hR hc hown hnr h0
  have HE : Hid ([Value.string ⟨r.1.toArray⟩, .string ⟨r.2.1.toArray⟩, .bool r.2.2.1, .string ⟨r.2.2.2.toArray⟩] = rv r) := rfl
  generalize (⟨r.1.toArray⟩ : ByteArray) = x0 at *
  generalize (⟨r.2.1.toArray⟩ : ByteArray) = x1 at *
  generalize (⟨r.2.2.2.toArray⟩ : ByteArray) = x3 at *
  generalize hd : r.2.2.1 = x2 at *
  clear hd
  go_enter Tryz.func67, Tryz.ntmps67
  go_wp2_with fail
  go_region_law (refine step_row rfl (.tmp 10) (.tmp 12) 46 rfl B 109 i0 _ 4 56 Tryz.underlying46 hi hz0 hz1 hz2 rfl (by decide) ro rs.length rc (lay rv rs) (by rfl) (own_q (unhide HO) ((Q.refl w).drew.alloc _)) (some ⟨w.drew.heap.size, 0, none⟩) 1 1 [.string x0, .string x1, .bool x2, .string x3] (by rfl) (SrcRow.new w.drew #[.string x0, .string x1, .bool x2, .string x3] _ 4 rfl) (by intro u hu; simp at hu; rcases hu with rfl | rfl | rfl | rfl <;> rfl) (by unfold maxLen; omega) (by omega) (le_alloc hB _) ?_; intro ao' cap' w5 ho5 hg5; have hB5 := hide ((unhide HR).grown ((Q.refl w).drew.alloc _) hg5 (unhide HNR)); have b5 : w5.cell? ⟨R, 3, none⟩ = some (.slice ro rs.length rc) := (unhide hB5).cell 3 (unhide HC); have f5 := (unhide hB5).frz 3; have r5 : w5.cell? ⟨RB, 0, none⟩ = some (.pointer (some ⟨R, 0, none⟩)) := ((unhide HRB).grown ((Q.refl w).drew.alloc _) hg5 (unhide HNB)).cell 0 rfl)
  all_goals
    have HO5 := hide ho5
    have HF5 : Hid (Fr (fun k => k = R ∨ (Value.slice ro rs.length rc).ownBlock = some k) w (w5.setCell ⟨R, 3, none⟩ (.slice ao' (rs.length + 1) cap'))) :=
      ((Fr.of_q ((Q.refl w).drew.alloc _)).trans ((Fr.grown hg5).mono (fun k h => Or.inr h))).trans ((Fr.set _ _ _ _).mono (fun k h => Or.inl h))
    clear ho5 hg5 b5 f5 r5
    go_wp2_with fail
    go_ret
    refine ⟨ao', cap', rfl, ?_, ?_, unhide HF5⟩
    · have h1 := own_fr (unhide HO5) (Fr.set w5 R 3 (.slice ao' (rs.length + 1) cap')) (own_new_ne (unhide HO5) (unhide hB5))
      rw [HE.out] at h1
      show World.ownsRow _ _ _ _ (.slice _ (rs ++ [r]).length _) (rs ++ [r]).length (lay rv (rs ++ [r]))
      rw [lay_snoc, List.length_append]; exact h1
    · have h1 := (unhide hB5).set 3 (.slice ao' (rs.length + 1) cap')
      rw [List.length_append]; exact h1

end Go.Proofs.YtpddckgkaopnlaaGreatDoor
