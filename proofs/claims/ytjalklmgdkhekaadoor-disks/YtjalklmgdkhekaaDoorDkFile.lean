/- May a file stand behind others, a copy of a file, of a disk, may a disk be, as package disk answers; the conditions: the files lie in memory, no name is longer than a string can be. -/
import Derived.Test.YtjalklmgdkhekaaDoorDkSmall
import Derived.Test.YtjalklmgdkhekaaDoorPut3
import Derived.Deep.RegionHeld3
namespace Go.Proofs.YtjalklmgdkhekaaDoor
open Go.RowKit

theorem geq_str (t : TypeId) (a b : ByteArray) (w : World) : (binOp .geq t (.string a) (.string b)).run Tryd.prog w = .ok (.bool (!Op.bytesLess a.toList b.toList)) w := by simp [binOp, Op.stringOp]
theorem lt_txt (a b : Tx) : Op.bytesLess (⟨a.toArray⟩ : ByteArray).toList (⟨b.toArray⟩ : ByteArray).toList = ltT a b := by rw [bl_toList, bl_toList]; rfl

set_option maxRecDepth 20000 in
set_option maxHeartbeats 4000000 in
theorem fol_any (gs : List Fl) (f : Fl) (ao : Option Addr) (cap : Nat) (w : World) (hr : RowK w ao gs) (hs : gs.length ≤ 4096) (hcap : gs.length ≤ cap) :
    Calls Tryd.prog 30 #[.slice ao gs.length cap, flV f] w fun e w' => e = .returned (.bool (prOk gs f gs.length && !tmB gs f)) ∧ Q w w' := by
  have hb : Blk (w.alloc (.cells #[.string ⟨f.1.toArray⟩, .int .i64 f.2.1, .int .i64 f.2.2] 34)) w.heap.size (fv f).toArray 34 := Blk.new w _ _
  have q0 := (Q.refl w).alloc (.cells #[.string ⟨f.1.toArray⟩, .int .i64 f.2.1, .int .i64 f.2.2] 34)
  have hcx := hide (fun (w' : World) (q : Q (w.alloc (.cells #[.string ⟨f.1.toArray⟩, .int .i64 f.2.1, .int .i64 f.2.2] 34)) w') =>
    fw_cx gs (fun g => g.2.2 == f.2.2) ao cap ⟨w.heap.size, 0, none⟩ w' (hr.q (q0.trans q)) (by omega) (fun wr q2 b _ => fw1_any b f.2.2 w.heap.size wr ((hb.q (q.trans q2)).cell 2 rfl) ((hb.q (q.trans q2)).hi)))
  have HQ0 := hide q0
  have HO : Hid (tmB gs f = gs.any (fun g => g.2.2 == f.2.2)) := rfl
  rw [unhide HO]
  generalize gs.any (fun g => g.2.2 == f.2.2) = tv at hcx ⊢
  clear q0 HO
  have c0 : ∀ n, ((w.alloc (.cells #[.string ⟨f.1.toArray⟩, .int .i64 f.2.1, .int .i64 f.2.2] 34)).drewN n).cell? ⟨w.heap.size, 0, none⟩ = some (.string ⟨f.1.toArray⟩) := fun n => hb.cell 0 rfl
  cases gs with
  | nil =>
    have HP : Hid (prOk [] f ([] : List Fl).length = true) := rfl
    rw [unhide HP]
    unfold flV
    clear HP hb
    go_enter Tryd.func30, Tryd.ntmps30
    go_wp2_with fail
    go_quiet (fail)
    go_wp2_with fail
    refine (unhide hcx _ ((Q.refl _).drewN _)).mono ?_
    rintro e w1 ⟨rfl, q1⟩
    go_wp2_with fail
    go_ret
    exact ⟨rfl, (unhide HQ0).trans (((Q.refl _).drewN _).trans q1)⟩
  | cons g0 r0 =>
    obtain ⟨j, hj⟩ : ∃ j, (g0 :: r0).length = j + 1 := ⟨_, rfl⟩
    generalize g0 :: r0 = gs at *
    have hjl : j < gs.length := by omega
    obtain ⟨b, hgb⟩ : ∃ b, gs[j]? = some b := ⟨gs[j], List.getElem?_eq_getElem hjl⟩
    have HP : Hid (prOk gs f gs.length = ltT b.1 f.1) := by
      show _ = _
      rw [hj]
      show (match gs[j]? with | some g => ltT g.1 f.1 | none => true) = _
      rw [hgb]
    rw [unhide HP]
    rcases (hr.q (unhide HQ0)) with he | ⟨g, o, rfl, hg, hcell⟩
    · rw [he] at hjl; simp at hjl
    have d0 : ∀ n, ((w.alloc (.cells #[.string ⟨f.1.toArray⟩, .int .i64 f.2.1, .int .i64 f.2.2] 34)).drewN n).cell? ⟨g, o + j * 3, none⟩ = some (.string ⟨b.1.toArray⟩) := fun n => hcell j 0 b _ hgb (by decide) rfl
    have hv := lt_txt b.1 f.1
    unfold flV
    obtain ⟨f1, f2, f3⟩ := f
    dsimp only at c0 d0 hv hcx HQ0 ⊢
    have hge := geq_str
    generalize (⟨f1.toArray⟩ : ByteArray) = x1 at c0 d0 hv hcx HQ0 ⊢
    generalize (⟨b.1.toArray⟩ : ByteArray) = x2 at d0 hv
    generalize ltT b.1 f1 = v at hv ⊢
    have k0 : ((gs.length : Int) > 0) := by omega
    have k1 : decide ((0 : Int) < (gs.length : Int)) = true := decide_eq_true (by omega)
    have kn : decide (0 < gs.length) = true := decide_eq_true (by omega)
    have k2 : IntKind.i64.wrap ((gs.length : Int) - 1) = (j : Int) := by rw [IntKind.wrap_i64]; omega
    have k3 : (0 : Int) ≤ (j : Int) := by omega
    have k4 : (j : Int) < (gs.length : Int) := by omega
    have hlen : (gs.length : Int) - 1 = (j : Int) := by omega
    have HJ := hide hj
    clear hcell hgb hr hb hj HP
    cases v
    · go_enter Tryd.func30, Tryd.ntmps30
      go_wp2_with fail
      go_quiet (fail)
      go_wp2_with fail
      go_ret
      exact ⟨rfl, (unhide HQ0).trans ((Q.refl _).drewN _)⟩
    · go_enter Tryd.func30, Tryd.ntmps30
      go_wp2_with fail
      go_quiet (fail)
      go_wp2_with fail
      refine (unhide hcx _ ((Q.refl _).drewN _)).mono ?_
      rintro e w1 ⟨rfl, q1⟩
      go_wp2_with fail
      go_ret
      exact ⟨rfl, (unhide HQ0).trans (((Q.refl _).drewN _).trans q1)⟩

set_option maxRecDepth 20000 in
set_option maxHeartbeats 4000000 in
theorem dkown_any (f : Fl) (w : World) (hz : f.1.length ≤ 4096) :
    Calls Tryd.prog 27 #[flV f] w fun e w' => e = .returned (flV f) ∧ Q w w' := by
  have HC := hide (fun w => clone_any ⟨f.1.toArray⟩ w (by rw [mk_size']; omega))
  unfold flV
  obtain ⟨f1, f2, f3⟩ := f
  dsimp only at HC ⊢
  generalize (⟨f1.toArray⟩ : ByteArray) = x1 at HC ⊢
  go_enter Tryd.func27, Tryd.ntmps27
  have HB : Hid (∀ (w' : World), Q ((w.alloc (.cells #[.string x1, .int .i64 f2, .int .i64 f3] 34)).alloc (.cells #[.string ⟨#[]⟩, .int .i64 0, .int .i64 0] 34)) w' →
      Blk w' w.heap.size #[.string x1, .int .i64 f2, .int .i64 f3] 34 ∧ Blk w' (w.heap.size + 1) #[.string ⟨#[]⟩, .int .i64 0, .int .i64 0] 34 ∧ Q w w') := fun w' q => by
    have q1 := (Q.refl w).alloc (.cells #[.string x1, .int .i64 f2, .int .i64 f3] 34)
    have b1 : Blk (w.alloc (.cells #[.string x1, .int .i64 f2, .int .i64 f3] 34)) w.heap.size #[.string x1, .int .i64 f2, .int .i64 f3] 34 := Blk.new w _ _
    have b2 := Blk.new (w.alloc (.cells #[.string x1, .int .i64 f2, .int .i64 f3] 34)) #[.string ⟨#[]⟩, .int .i64 0, .int .i64 0] 34
    rw [size_alloc] at b2
    have q2 := (Q.refl (w.alloc (.cells #[.string x1, .int .i64 f2, .int .i64 f3] 34))).alloc (.cells #[.string ⟨#[]⟩, .int .i64 0, .int .i64 0] 34)
    exact ⟨(b1.q q2).q q, b2.q q, (q1.trans q2).trans q⟩
  go_wp2_with fail
  go_region_with (go_at_call 22; refine (unhide HC _).mono ?_; rintro e w1 ⟨rfl, q1⟩; obtain ⟨h1, h2, h3⟩ := unhide HB w1 ((Q.refl _).drew.trans q1); have a1 : w1.cell? ⟨w.heap.size, 1, none⟩ = some (.int .i64 f2) := h1.cell 1 rfl; have a2 : w1.cell? ⟨w.heap.size, 2, none⟩ = some (.int .i64 f3) := h1.cell 2 rfl; have d0 : w1.cell? ⟨w.heap.size + 1, 0, none⟩ = some (.string ⟨#[]⟩) := h2.cell 0 rfl; have d1 : w1.cell? ⟨w.heap.size + 1, 1, none⟩ = some (.int .i64 0) := h2.cell 1 rfl; have d2 : w1.cell? ⟨w.heap.size + 1, 2, none⟩ = some (.int .i64 0) := h2.cell 2 rfl; have e0 := h2.frz 0; have e1 := h2.frz 1; have e2 := h2.frz 2; have H2 := hide h2; have H3 := hide h3; clear h1 h2 h3 q1)
  all_goals
    obtain ⟨hb, fr⟩ := put3 (unhide H2) (.string x1) (.int .i64 f2) (.int .i64 f3)
    have HQ := hide (Below.trans (unhide H3) (fr.below (unhide H3).size (fun k hk => by omega)))
    have g0 := hb.cell 0 rfl
    have g1 := hb.cell 1 rfl
    have g2 := hb.cell 2 rfl
    generalize ((w1.setCell ⟨w.heap.size + 1, 0, none⟩ (.string x1)).setCell ⟨w.heap.size + 1, 1, none⟩ (.int .i64 f2)).setCell ⟨w.heap.size + 1, 2, none⟩ (.int .i64 f3) = w3 at *
    clear a1 a2 d0 d1 d2 e0 e1 e2 H2 H3 fr hb
    go_wp2_with fail
    exact bodyPost_ret (v := .agg #[.string x1, .int .i64 f2, .int .i64 f3]) (by simp [results, Tryd.results27, go_sem, g0, g1, g2]) rfl ⟨rfl, unhide HQ⟩

end Go.Proofs.YtjalklmgdkhekaaDoor
