/- What the document's own LastRecord and CompactLog answer; the conditions: the records lie in memory; lengths. -/
import Derived.Test.YtgbegdgacjodcaaGreatDoorLoRef
import Derived.Test.YtgbegdgacjodcaaGreatDoorBdPlain
namespace Go.Proofs.YtgbegdgacjodcaaGreatDoor
open Go.RowKit

set_option maxRecDepth 20000 in
set_option maxHeartbeats 4000000 in
theorem rloLast_any (rs : Rs) (n : ByteArray) (ao : Option Addr) (cap : Nat) (w : World) (hr : RowR w ao rs) (hz : RsZ rs) (hs : rs.length ≤ cap) (hcap : cap ≤ maxLen) :
    Calls Tryz.prog 11 #[.slice ao rs.length cap, .string n] w fun e w' => e = .returned (.tuple #[rcV (laV rs (bl n)), .bool (laB rs (bl n))]) ∧ Q w w' := by
  have hsm : rs.length ≤ maxLen := Nat.le_trans hs hcap
  unfold maxLen at hsm
  have HM := hide (fun u (q : Q w u) => rloMay_any rs ao cap u (RowG.q hr q) hz hs hcap)
  have HB0 : Hid (Blk (w.alloc (.cells #[.string ⟨#[]⟩, .int .i64 0, .string ⟨#[]⟩] 31)) w.heap.size #[.string ⟨#[]⟩, .int .i64 0, .string ⟨#[]⟩] 31) := Blk.new w _ _
  have HQ0 := hide ((Q.refl w).alloc (.cells #[.string ⟨#[]⟩, .int .i64 0, .string ⟨#[]⟩] 31))
  have HR := hide hr
  have HNO : Hid (∀ wf, Blk wf w.heap.size #[.string ⟨#[]⟩, .int .i64 0, .string ⟨#[]⟩] 31 → Q w wf → laR rs (bl n) = none → ∃ w3, w3 = ((wf.setCell ⟨w.heap.size, 0, none⟩ (.string ⟨#[]⟩)).setCell ⟨w.heap.size, 1, none⟩ (.int .i64 0)).setCell ⟨w.heap.size, 2, none⟩ (.string ⟨#[]⟩) ∧ w3.cell? ⟨w.heap.size, 0, none⟩ = some (.string ⟨#[]⟩) ∧ w3.cell? ⟨w.heap.size, 1, none⟩ = some (.int .i64 0) ∧ w3.cell? ⟨w.heap.size, 2, none⟩ = some (.string ⟨#[]⟩) ∧ Q w w3 ∧ Value.tuple #[rcV (laV rs (bl n)), .bool (laB rs (bl n))] = .tuple #[.agg #[.string ⟨#[]⟩, .int .i64 0, .string ⟨#[]⟩], .bool false]) := fun wf hbf qf hl => by
    obtain ⟨hb, fr⟩ := put3 hbf (.string ⟨#[]⟩) (.int .i64 0) (.string ⟨#[]⟩)
    exact ⟨_, rfl, hb.cell 0 rfl, hb.cell 1 rfl, hb.cell 2 rfl, Below.trans qf (fr.below qf.size (fun k hk => by omega)), by rw [(lav_no hl).1, (lav_no hl).2]⟩
  have e0 : IntKind.i64.wrap ((rs.length : Int) - 1) = (rs.length : Int) - 1 := by rw [IntKind.wrap_i64]; omega
  go_enter Tryz.func11, Tryz.ntmps11
  go_wp2_with fail
  go_loopw [6] (fun i wr => ∃ m : Nat, m ≤ rs.length ∧ i = .int .i64 ((m : Int) - 1) ∧ Hid (∀ x ∈ rs.drop m, x.1 ≠ bl n) ∧ Hid (Blk wr w.heap.size #[.string ⟨#[]⟩, .int .i64 0, .string ⟨#[]⟩] 31) ∧ Q w wr) (fun i _ => (intOf i + 1).toNat)
  case atStart => exact ⟨rs.length, Nat.le_refl _, rfl, by show ∀ x ∈ _, _; simp, unhide HB0, unhide HQ0⟩
  case round =>
    obtain ⟨m, hm, rfl, HD, HB, hq⟩ := hrel
    have hb := unhide HB
    have c0 := hb.cell 0 rfl
    have c1 := hb.cell 1 rfl
    have c2 := hb.cell 2 rfl
    have g0 := hb.frz 0
    have g1 := hb.frz 1
    have g2 := hb.frz 2
    clear hb
    rcases m with _ | m
    · have e1 : (((0 : Nat) : Int) - 1) = -1 := rfl
      rw [e1]
      have HL := hide (la_off (rs := rs) (n := bl n) (by simpa using HD.out))
      obtain ⟨w3, HW3, k0, k1, k2, q3, hv⟩ := unhide HNO _ HB.out hq HL.out
      have HV := hide hv
      clear hv HD HM
      go_wp2_with fail
      rw [← HW3]
      exact bodyPost_ret (v := .tuple #[.agg #[.string ⟨#[]⟩, .int .i64 0, .string ⟨#[]⟩], .bool false]) (by simp [results, Tryz.results11, go_sem, k0, k1, k2]) rfl ⟨by rw [unhide HV], q3⟩
    · have e1 : (((m + 1 : Nat) : Int) - 1) = (m : Int) := by omega
      rw [e1]
      have hm0 : (0 : Int) ≤ (m : Int) := Int.natCast_nonneg _
      have hm1 : (m : Int) < (rs.length : Int) := by omega
      have e2 : IntKind.i64.wrap ((m : Int) - 1) = (m : Int) - 1 := by rw [IntKind.wrap_i64]; omega
      have HMM := hide (unhide HM wr hq)
      cases hok : loOk rs
      · rw [hok] at HMM
        have HL := hide (la_no (n := bl n) hok)
        clear hok HD c0 c1 c2 g0 g1 g2 e1
        go_wp2_with fail
        refine (unhide HMM).mono ?_
        rintro e w2 ⟨rfl, q2⟩
        have hb := HB.out.q q2
        have c0 := hb.cell 0 rfl
        have c1 := hb.cell 1 rfl
        have c2 := hb.cell 2 rfl
        have g0 := hb.frz 0
        have g1 := hb.frz 1
        have g2 := hb.frz 2
        obtain ⟨w3, HW3, k0, k1, k2, q3, hv⟩ := unhide HNO _ hb (hq.trans q2) HL.out
        have HV := hide hv
        clear hv hb HMM
        go_wp2_with fail
        rw [← HW3]
        exact bodyPost_ret (v := .tuple #[.agg #[.string ⟨#[]⟩, .int .i64 0, .string ⟨#[]⟩], .bool false]) (by simp [results, Tryz.results11, go_sem, k0, k1, k2]) rfl ⟨by rw [unhide HV], q3⟩
      · rw [hok] at HMM
        have HOK := hide hok
        obtain ⟨r, hx⟩ : ∃ r, rs[m]? = some r := ⟨rs[m], List.getElem?_eq_getElem (by omega)⟩
        clear hok c0 c1 c2 g0 g1 g2 e1
        go_wp2_with fail
        refine (unhide HMM).mono ?_
        rintro e w2 ⟨rfl, q2⟩
        have hb := HB.out.q q2
        have hqw : Q w w2 := hq.trans q2
        rcases (unhide HR).q hqw with he | ⟨g, o, rfl, hg, hcell⟩
        · rw [he] at hm; simp at hm
        have p0 : w2.cell? ⟨g, o + m * 3, none⟩ = some (.string ⟨r.1.toArray⟩) := hcell m 0 r _ hx (by decide) rfl
        have p1 : w2.cell? ⟨g, o + m * 3 + 1, none⟩ = some (.int .i64 r.2.1) := hcell m 1 r _ hx (by decide) rfl
        have p2 : w2.cell? ⟨g, o + m * 3 + 2, none⟩ = some (.string ⟨r.2.2.toArray⟩) := hcell m 2 r _ hx (by decide) rfl
        have HX := txt_beq r.1 n
        have c0 := hb.cell 0 rfl
        have c1 := hb.cell 1 rfl
        have c2 := hb.cell 2 rfl
        have g0 := hb.frz 0
        have g1 := hb.frz 1
        have g2 := hb.frz 2
        have HB2 := hide hb
        have HXE := hide hx
        clear hcell hx hb q2 HMM
        cases hxe : (r.1 == bl n)
        · rw [hxe] at HX
          have HD2 : Hid (∀ x ∈ rs.drop m, x.1 ≠ bl n) := by
            intro x hxm
            obtain ⟨hlt, hge⟩ := List.getElem?_eq_some_iff.1 HXE.out
            rw [List.drop_eq_getElem_cons hlt, hge] at hxm
            rcases List.mem_cons.1 hxm with h | h
            · rw [h]; simpa using hxe
            · exact HD.out x h
          clear hxe HD HXE
          generalize (⟨r.1.toArray⟩ : ByteArray) = x1 at *
          go_wp2_with fail
          go_roundw
          case rel => exact ⟨m, by omega, by go_num, HD2, HB2, hqw⟩
          case measure => simp [intOf]
        · rw [hxe] at HX
          have HV : Hid (Value.tuple #[rcV (laV rs (bl n)), .bool (laB rs (bl n))] = .tuple #[.agg #[.string ⟨r.1.toArray⟩, .int .i64 r.2.1, .string ⟨r.2.2.toArray⟩], .bool true]) := by
            have hl := lav_yes (la_at HOK.out HXE.out (by simpa using hxe) HD.out)
            show _ = _
            rw [hl.1, hl.2]
          clear hxe HD HXE
          obtain ⟨r1, r2, r3⟩ := r
          dsimp only at p0 p1 p2 HV HX
          generalize (⟨r1.toArray⟩ : ByteArray) = x1 at *
          generalize (⟨r3.toArray⟩ : ByteArray) = x3 at *
          obtain ⟨hb, fr⟩ := put3 (unhide HB2) (.string x1) (.int .i64 r2) (.string x3)
          have HQ4 := hide (Below.trans hqw (fr.below hqw.size (fun k hk => by omega)))
          have k0 := hide (hb.cell 0 rfl)
          have k1 := hide (hb.cell 1 rfl)
          have k2 := hide (hb.cell 2 rfl)
          clear fr hb
          go_wp2_with fail
          have k0 := unhide k0
          have k1 := unhide k1
          have k2 := unhide k2
          clear c0 c1 c2 g0 g1 g2
          generalize ((w2.setCell ⟨w.heap.size, 0, none⟩ (.string x1)).setCell ⟨w.heap.size, 1, none⟩ (.int .i64 r2)).setCell ⟨w.heap.size, 2, none⟩ (.string x3) = w4 at *
          exact bodyPost_ret (v := .tuple #[.agg #[.string x1, .int .i64 r2, .string x3], .bool true]) (by simp [results, Tryz.results11, go_sem, k0, k1, k2]) rfl ⟨by rw [unhide HV], unhide HQ4⟩

end Go.Proofs.YtgbegdgacjodcaaGreatDoor
