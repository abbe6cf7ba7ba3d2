/- What the statements' own CopyDisk does: another disk in memory of its own; the conditions: the files lie in memory; how many there are. -/
import Derived.Test.YtjalklmgdkhekaaDoorDkRWo
namespace Go.Proofs.YtjalklmgdkhekaaDoor
open Go.RowKit

set_option maxRecDepth 20000 in
set_option maxHeartbeats 8000000 in
theorem cpd_any (c : Int) (fs : List Fl) (ao : Option Addr) (cap : Nat) (w : World) (hr : RowK w ao fs) (hb : fs.length * 32 ≤ 140737488355328) :
    Calls Tryd.prog 4 #[dkV c ao fs.length cap] w fun e w' => ∃ so sc, e = .returned (dkV c so fs.length sc) ∧ OwnK w' w.heap.size so sc fs ∧ Q w w' := by
  obtain ⟨i0, hi, hz0, hz1, hz2⟩ := info_parts Tryd.infoK
  have b1 : Blk (w.alloc (.cells #[.int .i64 c, .slice ao fs.length cap] 24)) w.heap.size #[.int .i64 c, .slice ao fs.length cap] 24 := Blk.new w _ _
  have q1 := (Q.refl w).alloc (.cells #[.int .i64 c, .slice ao fs.length cap] 24)
  have b2 := Blk.new (w.alloc (.cells #[.int .i64 c, .slice ao fs.length cap] 24)) #[.int .i64 0, .slice none 0 0] 24
  rw [size_alloc] at b2
  have q2 := (Q.refl (w.alloc (.cells #[.int .i64 c, .slice ao fs.length cap] 24))).alloc (.cells #[.int .i64 0, .slice none 0 0] 24)
  have b3 := Blk.new ((w.alloc (.cells #[.int .i64 c, .slice ao fs.length cap] 24)).alloc (.cells #[.int .i64 0, .slice none 0 0] 24)) #[] 34
  rw [size_alloc, size_alloc] at b3
  have q3 := (Q.refl ((w.alloc (.cells #[.int .i64 c, .slice ao fs.length cap] 24)).alloc (.cells #[.int .i64 0, .slice none 0 0] 24))).alloc (.cells #[] 34)
  have HB1 := hide (b1.q (q2.trans q3))
  have HB2 := hide (b2.q q3)
  have HB3 := hide b3
  have HQ := hide (q1.trans (q2.trans q3))
  clear b1 b2 b3 q1 q2 q3
  have HE : Hid (OwnK (((w.alloc (.cells #[.int .i64 c, .slice ao fs.length cap] 24)).alloc (.cells #[.int .i64 0, .slice none 0 0] 24)).alloc (.cells #[] 34)) (w.heap.size + 1 + 1) (some ⟨w.heap.size + 1 + 1, 0, none⟩) 0 []) := own_ofK (unhide HB3) (Nat.le_refl _) (Nat.le_refl _) (by decide) rfl rfl
  have HS := hide (SrcRow.row fv_len (by decide) (hr.q (unhide HQ)))
  have x1 := (unhide HB1).cell 1 rfl
  clear hr
  unfold dkV
  go_enter Tryd.func4, Tryd.ntmps4
  go_wp2_with (at_builtin; refine wpList_append_row rfl _ _ 22 rfl (w.heap.size + 1 + 1) 34 i0 _ 3 32 Tryd.underlying22 hi hz0 hz1 hz2 rfl (by decide) (some ⟨w.heap.size + 1 + 1, 0, none⟩) 0 0 (lay fv []) rfl (unhide HE) ao fs.length cap (lay fv fs) rfl (unhide HS) (one_layK fs) (by unfold maxLen; omega) (by omega) (by simp) ?_)
  intro so sc w5 own5 grow5
  have hne : ∀ g, g < w.heap.size + 1 + 1 → ¬ ((Value.slice (some ⟨w.heap.size + 1 + 1, 0, none⟩) 0 0).ownBlock = some g) := fun g hg e => by have e' : w.heap.size + 1 + 1 = g := Option.some.inj e; omega
  have d5 := (unhide HB1).fr (Fr.grown grow5) (hne _ (by omega))
  have r5 := (unhide HB2).fr (Fr.grown grow5) (hne _ (by omega))
  have HF5 := hide (Below.trans (unhide HQ) ((Fr.grown grow5).below (unhide HQ).size (fun k hk => by have e' : w.heap.size + 1 + 1 = k := Option.some.inj hk; omega)))
  have HW5 : Hid (OwnK w5 (w.heap.size + 1 + 1) so sc fs) := own5
  have y1 := d5.cell 1 rfl
  have y2 := d5.frz 1
  have frD := Fr.set w5 w.heap.size 1 (.slice so fs.length sc)
  have d6 : Blk (w5.setCell ⟨w.heap.size, 1, none⟩ (.slice so fs.length sc)) w.heap.size #[.int .i64 c, .slice so fs.length sc] 24 := d5.set 1 _
  have r6 := r5.fr frD (fun e => by omega)
  have z0 := d6.cell 0 rfl
  have z1 := d6.cell 1 rfl
  have e0 := r6.cell 0 rfl
  have e1 := r6.cell 1 rfl
  have f0 := r6.frz 0
  have f1 := r6.frz 1
  have H6 := hide r6
  have HW6 := hide (own_fr (unhide HW5) frD (fun k hk => by have := ((unhide HW5).lt k hk).1; omega))
  have HF6 := hide (Below.trans (unhide HF5) (frD.below (unhide HF5).size (fun k hk => by omega)))
  clear hne d5 r5 own5 grow5 frD d6 r6 HE HS x1 HB1 HB2 HB3 HQ
  go_wp2_with fail
  obtain ⟨hb6, fr⟩ := put2 (unhide H6) (.int .i64 c) (.slice so fs.length sc)
  have HZ := hide (Below.trans (unhide HF6) (fr.below (unhide HF6).size (fun k hk => by omega)))
  have HWZ := hide (own_low (own_fr (unhide HW6) fr (fun k hk => by have := ((unhide HW6).lt k hk).1; omega)) (show w.heap.size ≤ w.heap.size + 1 + 1 by omega))
  have g0 := hb6.cell 0 rfl
  have g1 := hb6.cell 1 rfl
  generalize (World.setCell (World.setCell _ ⟨w.heap.size + 1, 0, none⟩ (.int .i64 c)) ⟨w.heap.size + 1, 1, none⟩ (.slice so fs.length sc)) = wf at *
  exact bodyPost_ret (v := .agg #[.int .i64 c, .slice so fs.length sc]) (by simp [results, Tryd.results4, go_sem, g0, g1]) rfl ⟨so, sc, rfl, unhide HWZ, unhide HZ⟩
end Go.Proofs.YtjalklmgdkhekaaDoor
