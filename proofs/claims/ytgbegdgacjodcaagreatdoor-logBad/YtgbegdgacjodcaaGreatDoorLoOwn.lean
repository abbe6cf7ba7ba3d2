/- The same record in memory of its own, as package log's own answers; the conditions: its texts are at most 2^47 bytes. -/
import Derived.Test.YtgbegdgacjodcaaGreatDoorLoState
import Derived.Test.YtgbegdgacjodcaaGreatDoorLgGet
namespace Go.Proofs.YtgbegdgacjodcaaGreatDoor
open Go.RowKit

set_option maxRecDepth 20000 in
set_option maxHeartbeats 4000000 in
theorem loown_any (r : Rc) (w : World) (hz1 : r.1.length ≤ 140737488355328) (hz2 : r.2.2.length ≤ 140737488355328) :
    Calls Tryz.prog 30 #[rcV r] w fun e w' => e = .returned (rcV r) ∧ Q w w' := by
  have HC1 := hide (fun w => clone_any ⟨r.1.toArray⟩ w (by rw [mk_size']; omega))
  have HC3 := hide (fun w => clone_any ⟨r.2.2.toArray⟩ w (by rw [mk_size']; omega))
  clear hz1 hz2
  unfold rcV
  obtain ⟨r1, r2, r3⟩ := r
  dsimp only at HC1 HC3 ⊢
  generalize (⟨r1.toArray⟩ : ByteArray) = x1 at *
  generalize (⟨r3.toArray⟩ : ByteArray) = x3 at *
  have HCC : Hid (∀ x, x = x1 ∨ x = x3 → ∀ w, Calls Tryz.prog 41 #[.string x] w fun e w' => e = .returned (.string x) ∧ Q w w') := fun x hx w => by
    rcases hx with rfl | rfl
    · exact unhide HC1 w
    · exact unhide HC3 w
  clear HC1 HC3
  have q1 := bxR_q w x1 r2 x3
  have b1 := bxR_b w x1 r2 x3
  have q2 := bxR_q (bxR w x1 r2 x3) ⟨#[]⟩ 0 ⟨#[]⟩
  have b2 := bxR_b (bxR w x1 r2 x3) ⟨#[]⟩ 0 ⟨#[]⟩
  have hsz : (bxR w x1 r2 x3).heap.size = w.heap.size + 1 := size_alloc _ _
  rw [hsz] at b2
  have HALL : Hid (∀ u, Q (bxR (bxR w x1 r2 x3) ⟨#[]⟩ 0 ⟨#[]⟩) u → u.cell? ⟨w.heap.size, 0, none⟩ = some (.string x1) ∧ u.cell? ⟨w.heap.size, 1, none⟩ = some (.int .i64 r2) ∧ u.cell? ⟨w.heap.size, 2, none⟩ = some (.string x3) ∧ Blk u (w.heap.size + 1) #[.string ⟨#[]⟩, .int .i64 0, .string ⟨#[]⟩] 31 ∧ Q w u) := fun u q => by
    have h := (b1.q q2).q q
    exact ⟨h.cell 0 rfl, h.cell 1 rfl, h.cell 2 rfl, b2.q q, (q1.trans q2).trans q⟩
  unfold bxR at HALL
  clear q1 b1 q2 b2 hsz
  go_enter Tryz.func30, Tryz.ntmps30
  go_wp2_with fail
  generalize (w.alloc (.cells #[.string x1, .int .i64 r2, .string x3] 31)).alloc (.cells #[.string ⟨#[]⟩, .int .i64 0, .string ⟨#[]⟩] 31) = w2 at *
  obtain ⟨p0, p1, p2, _⟩ := unhide HALL w2 (Q.refl _)
  have QU := hide ((Q.refl w2).drew)
  generalize hN : w.heap.size = N4 at *
  go_region_with (go_at_call 41; refine (unhide HCC _ (by first | exact Or.inl rfl | exact Or.inr rfl) _).mono ?_; rintro e u ⟨rfl, qu⟩; replace QU := hide ((unhide QU).trans qu); obtain ⟨a0, a1, a2, hbb, _⟩ := unhide HALL u (unhide QU); have d0 := hbb.cell 0 rfl; have d1 := hbb.cell 1 rfl; have d2 := hbb.cell 2 rfl; have f0 := hbb.frz 0; have f1 := hbb.frz 1; have f2 := hbb.frz 2; clear qu hbb)
  all_goals
    clear a0 a1 a2 d0 d1 d2 f0 f1 f2
    obtain ⟨_, _, _, hbb, hqw⟩ := unhide HALL u (unhide QU)
    have e0 := hbb.cell 0 rfl
    have e1 := hbb.cell 1 rfl
    have e2 := hbb.cell 2 rfl
    have f0 := hbb.frz 0
    have f1 := hbb.frz 1
    have f2 := hbb.frz 2
    obtain ⟨hb, fr⟩ := put3 hbb (.string x1) (.int .i64 r2) (.string x3)
    have HQ3 := hide (Below.trans hqw (fr.below hqw.size (fun k hk => by omega)))
    have k0 := hb.cell 0 rfl
    have k1 := hb.cell 1 rfl
    have k2 := hb.cell 2 rfl
    clear fr hb hbb hqw
    generalize ((u.setCell ⟨N4 + 1, 0, none⟩ (.string x1)).setCell ⟨N4 + 1, 1, none⟩ (.int .i64 r2)).setCell ⟨N4 + 1, 2, none⟩ (.string x3) = w3 at *
    go_wp2_with fail
    exact bodyPost_ret (v := .agg #[.string x1, .int .i64 r2, .string x3]) (by simp [results, Tryz.results30, go_sem, k0, k1, k2]) rfl ⟨rfl, unhide HQ3⟩

end Go.Proofs.YtgbegdgacjodcaaGreatDoor
