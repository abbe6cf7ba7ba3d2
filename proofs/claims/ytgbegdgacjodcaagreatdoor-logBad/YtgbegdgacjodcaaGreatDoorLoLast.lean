/- What package log's Last answers; the conditions: the records lie in memory, texts are no longer than a string can be. -/
import Derived.Test.YtgbegdgacjodcaaGreatDoorLoMay
import Derived.Test.YtgbegdgacjodcaaGreatDoorLoOwn
import Derived.Test.YtgbegdgacjodcaaGreatDoorLoPlAt
namespace Go.Proofs.YtgbegdgacjodcaaGreatDoor
open Go.RowKit

theorem rc_small {r : Rc} (h : rcOk r = true) : r.1.length ≤ 140737488355328 ∧ r.2.2.length ≤ 140737488355328 := by
  have := rc_sizes h
  omega

set_option maxRecDepth 20000 in
set_option maxHeartbeats 4000000 in
theorem loLast_any (rs : Rs) (n : ByteArray) (ao : Option Addr) (cap : Nat) (w : World) (hr : RowR w ao rs) (hz : RsZ rs) (hs : rs.length ≤ 140737488355328) :
    Calls Tryz.prog 10 #[.slice ao rs.length cap, .string n] w fun e w' => e = .returned (.tuple #[rcV (laV rs (bl n)), .bool (laB rs (bl n))]) ∧ Q w w' := by
  have HM := hide (fun u (q : Q w u) => loMay_any rs ao cap u (RowG.q hr q) hz hs)
  have HP := hide (fun u (q : Q w u) => place_any rs n ao cap u (RowG.q hr q) hs)
  have HB0 : Hid (Blk (w.alloc (.cells #[.string ⟨#[]⟩, .int .i64 0, .string ⟨#[]⟩] 31)) w.heap.size #[.string ⟨#[]⟩, .int .i64 0, .string ⟨#[]⟩] 31) := Blk.new w _ _
  have HQ0 := hide ((Q.refl w).alloc (.cells #[.string ⟨#[]⟩, .int .i64 0, .string ⟨#[]⟩] 31))
  cases hok : loOk rs
  · rw [hok] at HM
    have HL := hide (lav_no (la_no (n := bl n) hok))
    rw [(unhide HL).1, (unhide HL).2]
    clear hok hr hz HP
    unfold rcV
    dsimp only
    go_enter Tryz.func10, Tryz.ntmps10
    go_wp2_with fail
    refine (unhide HM _ (unhide HQ0)).mono ?_
    rintro e w2 ⟨rfl, q2⟩
    have hb := (unhide HB0).q q2
    have HQ2 := hide ((unhide HQ0).trans q2)
    have c0 := hb.cell 0 rfl
    have c1 := hb.cell 1 rfl
    have c2 := hb.cell 2 rfl
    have g0 := hb.frz 0
    have g1 := hb.frz 1
    have g2 := hb.frz 2
    have HB2 := hide hb
    clear hb q2
    go_wp2_with fail
    obtain ⟨hb, fr⟩ := put3 (unhide HB2) (.string ⟨#[]⟩) (.int .i64 0) (.string ⟨#[]⟩)
    have HQ3 := hide (Below.trans (unhide HQ2) (fr.below (unhide HQ2).size (fun k hk => by omega)))
    have k0 := hb.cell 0 rfl
    have k1 := hb.cell 1 rfl
    have k2 := hb.cell 2 rfl
    clear c0 c1 c2 g0 g1 g2 fr hb
    generalize ((w2.setCell ⟨w.heap.size, 0, none⟩ (.string ⟨#[]⟩)).setCell ⟨w.heap.size, 1, none⟩ (.int .i64 0)).setCell ⟨w.heap.size, 2, none⟩ (.string ⟨#[]⟩) = w3 at *
    exact bodyPost_ret (v := .tuple #[.agg #[.string ⟨#[]⟩, .int .i64 0, .string ⟨#[]⟩], .bool false]) (by simp [results, Tryz.results10, go_sem, k0, k1, k2]) rfl ⟨rfl, unhide HQ3⟩
  · rw [hok] at HM
    have HR := hide hr
    have HOK := hide hok
    clear hok hr hz
    go_enter Tryz.func10, Tryz.ntmps10
    go_wp2_with fail
    refine (unhide HM _ (unhide HQ0)).mono ?_
    rintro e w1 ⟨rfl, q1⟩
    have HQ1 := hide ((unhide HQ0).trans q1)
    have HX1 := hide q1
    clear q1
    go_wp2_with fail
    refine (unhide HP _ (unhide HQ1)).mono ?_
    rintro e w2 ⟨⟨i, b, rfl, hps⟩, q2⟩
    have HQ2 := hide ((unhide HQ1).trans q2)
    have hb := (unhide HB0).q ((unhide HX1).trans q2)
    clear q2 HP HM
    rcases hps with ⟨rfl, r, hx, hxe, hd⟩ | ⟨rfl, rfl, hno⟩
    · have HL := hide (lav_yes (la_at (unhide HOK) hx hxe hd))
      have hokr := (lo_parts (unhide HOK)).2 r (List.mem_of_getElem? hx)
      have hlt := (List.getElem?_eq_some_iff.1 hx).1
      have HO := hide (fun u => loown_any r u (rc_small hokr).1 (rc_small hokr).2)
      rcases (unhide HR).q (unhide HQ2) with he | ⟨g, o, rfl, hg, hcell⟩
      · rw [he] at hlt; simp at hlt
      have p0 : w2.cell? ⟨g, o + i * 3, none⟩ = some (.string ⟨r.1.toArray⟩) := hcell i 0 r _ hx (by decide) rfl
      have p1 : w2.cell? ⟨g, o + i * 3 + 1, none⟩ = some (.int .i64 r.2.1) := hcell i 1 r _ hx (by decide) rfl
      have p2 : w2.cell? ⟨g, o + i * 3 + 2, none⟩ = some (.string ⟨r.2.2.toArray⟩) := hcell i 2 r _ hx (by decide) rfl
      have i0 : (0 : Int) ≤ (i : Int) := Int.natCast_nonneg _
      have i1 : (i : Int) < (rs.length : Int) := by omega
      have HB2 := hide hb
      clear hcell hx hxe hd hokr hb
      have HV : Hid (Value.tuple #[rcV (laV rs (bl n)), .bool (laB rs (bl n))] = .tuple #[.agg #[.string ⟨r.1.toArray⟩, .int .i64 r.2.1, .string ⟨r.2.2.toArray⟩], .bool true]) := by
        show _ = _
        rw [(unhide HL).1, (unhide HL).2]
      clear HL
      unfold rcV at HO
      obtain ⟨r1, r2, r3⟩ := r
      dsimp only at HO p0 p1 p2 HV
      generalize (⟨r1.toArray⟩ : ByteArray) = x1 at *
      generalize (⟨r3.toArray⟩ : ByteArray) = x3 at *
      go_wp2_with fail
      refine (unhide HO _).mono ?_
      rintro e w3 ⟨rfl, q3⟩
      have hb := (unhide HB2).q q3
      have HQ3 := hide ((unhide HQ2).trans q3)
      have c0 := hb.cell 0 rfl
      have c1 := hb.cell 1 rfl
      have c2 := hb.cell 2 rfl
      have g0 := hb.frz 0
      have g1 := hb.frz 1
      have g2 := hb.frz 2
      have HB3 := hide hb
      clear hb q3 p0 p1 p2
      go_wp2_with fail
      obtain ⟨hb, fr⟩ := put3 (unhide HB3) (.string x1) (.int .i64 r2) (.string x3)
      have HQ4 := hide (Below.trans (unhide HQ3) (fr.below (unhide HQ3).size (fun k hk => by omega)))
      have k0 := hb.cell 0 rfl
      have k1 := hb.cell 1 rfl
      have k2 := hb.cell 2 rfl
      clear c0 c1 c2 g0 g1 g2 fr hb
      generalize ((w3.setCell ⟨w.heap.size, 0, none⟩ (.string x1)).setCell ⟨w.heap.size, 1, none⟩ (.int .i64 r2)).setCell ⟨w.heap.size, 2, none⟩ (.string x3) = w4 at *
      exact bodyPost_ret (v := .tuple #[.agg #[.string x1, .int .i64 r2, .string x3], .bool true]) (by simp [results, Tryz.results10, go_sem, k0, k1, k2]) rfl ⟨by rw [unhide HV], unhide HQ4⟩
    · have HV : Hid (Value.tuple #[rcV (laV rs (bl n)), .bool (laB rs (bl n))] = .tuple #[.agg #[.string ⟨#[]⟩, .int .i64 0, .string ⟨#[]⟩], .bool false]) := by
        show _ = _
        rw [(lav_no (la_off hno)).1, (lav_no (la_off hno)).2]
      clear hno
      have c0 := hb.cell 0 rfl
      have c1 := hb.cell 1 rfl
      have c2 := hb.cell 2 rfl
      have g0 := hb.frz 0
      have g1 := hb.frz 1
      have g2 := hb.frz 2
      have HB2 := hide hb
      clear hb
      go_wp2_with fail
      obtain ⟨hb, fr⟩ := put3 (unhide HB2) (.string ⟨#[]⟩) (.int .i64 0) (.string ⟨#[]⟩)
      have HQ3 := hide (Below.trans (unhide HQ2) (fr.below (unhide HQ2).size (fun k hk => by omega)))
      have k0 := hb.cell 0 rfl
      have k1 := hb.cell 1 rfl
      have k2 := hb.cell 2 rfl
      clear c0 c1 c2 g0 g1 g2 fr hb
      generalize ((w2.setCell ⟨w.heap.size, 0, none⟩ (.string ⟨#[]⟩)).setCell ⟨w.heap.size, 1, none⟩ (.int .i64 0)).setCell ⟨w.heap.size, 2, none⟩ (.string ⟨#[]⟩) = w3 at *
      exact bodyPost_ret (v := .tuple #[.agg #[.string ⟨#[]⟩, .int .i64 0, .string ⟨#[]⟩], .bool false]) (by simp [results, Tryz.results10, go_sem, k0, k1, k2]) rfl ⟨by rw [unhide HV], unhide HQ3⟩

end Go.Proofs.YtgbegdgacjodcaaGreatDoor
