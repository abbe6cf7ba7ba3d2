/- What package log's Text answers; the conditions: the library's tables lie as they were laid, the records lie in memory, texts are no longer than a string can be. -/
import Derived.Test.YtgbegdgacjodcaaGreatDoorLoMay
import Derived.Test.YtgbegdgacjodcaaGreatDoorBdrAt
namespace Go.Proofs.YtgbegdgacjodcaaGreatDoor
open Go.RowKit

theorem loL_snoc (a : Rs) (r : Rc) : loL (a ++ [r]) = loL a ++ rcT r := by rw [loL_app, loL_cons]; simp [loL]
theorem loL_take {rs : Rs} {k : Nat} {r : Rc} (h : rs[k]? = some r) : loL (rs.take (k + 1)) = loL (rs.take k) ++ rcT r := by
  rw [List.take_add_one, h]; exact loL_snoc _ _
theorem loL_tk {rs : Rs} (h : ∀ r ∈ rs, rcOk r = true) (hl : rs.length ≤ 256) (k : Nat) : (loL (rs.take k)).length ≤ 537600 := by
  have h1 := loL_len (rs := rs.take k) (fun y hy => h y (List.mem_of_mem_take hy))
  rw [List.length_take] at h1
  omega

set_option maxRecDepth 20000 in
set_option maxHeartbeats 4000000 in
theorem loText_any (rs : Rs) (ao : Option Addr) (cap : Nat) (w : World) (hv : Vs w) (hr : RowR w ao rs) (hz : RsZ rs) (hs : rs.length ≤ 140737488355328) :
    Calls Tryz.prog 7 #[.slice ao rs.length cap] w fun e w' => e = .returned (.tuple #[.string ⟨(loT rs).toArray⟩, .int .i64 (loE rs)]) ∧ Q w w' := by
  have HM := hide (loMay_any rs ao cap w hr hz hs)
  cases hok : loOk rs
  · rw [hok] at HM
    obtain ⟨e1, e2⟩ := lo_no hok
    rw [e1, e2]
    clear hok e1 e2 hr hz hv
    go_enter Tryz.func7, Tryz.ntmps7
    go_wp2_with fail
    refine (unhide HM).mono ?_
    rintro e w1 ⟨rfl, q1⟩
    go_wp2_with fail
    go_ret2
    exact ⟨rfl, q1⟩
  · rw [hok] at HM
    obtain ⟨e1, e2⟩ := lo_yes hok
    obtain ⟨h256, hall⟩ := lo_parts hok
    rw [e1, e2]
    have HALL := hide hall
    have HTK := hide (loL_tk hall h256)
    have HV := hide hv
    clear hok e1 e2 hall hv
    go_enter Tryz.func7, Tryz.ntmps7
    go_wp2_with fail
    refine (unhide HM).mono ?_
    rintro e w1 ⟨rfl, q1⟩
    have HR1 := hide (RowG.q hr q1)
    have HV1 := hide ((unhide HV).q q1)
    have HB0 := hide (Lib.fresh_isBuilder 51 5 w1)
    have hb0 : Q w1 (w1.alloc (.cells #[.pointer none, .slice none 0 0] 51)) := (Q.refl _).alloc _
    clear HM HV hr
    go_wp2_with fail
    go_loopw [14] (fun i wr => ∃ k : Nat, k ≤ rs.length ∧ i = .int .i64 k ∧ Hid (Lib.IsBuilder 51 5 w1.heap.size w1.heap.size (Lib.byteCells (loL (rs.take k))) wr) ∧ Q w1 wr) (fun i _ => rs.length - (intOf i).toNat)
    case atStart => exact ⟨0, Nat.zero_le _, rfl, unhide HB0, hb0⟩
    case round =>
      obtain ⟨k, hk, rfl, HB, hq⟩ := hrel
      by_cases hlt : k < rs.length
      · rcases (unhide HR1).q hq with he | ⟨g, o, rfl, hg, hc⟩
        · rw [he] at hlt; simp at hlt
        obtain ⟨r, hx⟩ : ∃ r, rs[k]? = some r := ⟨rs[k], List.getElem?_eq_getElem hlt⟩
        have c0 : wr.cell? ⟨g, o + k * 3, none⟩ = some (.string ⟨r.1.toArray⟩) := hc k 0 r _ hx (by decide) rfl
        have c1 : wr.cell? ⟨g, o + k * 3 + 1, none⟩ = some (.int .i64 r.2.1) := hc k 1 r _ hx (by decide) rfl
        have c2 : wr.cell? ⟨g, o + k * 3 + 2, none⟩ = some (.string ⟨r.2.2.toArray⟩) := hc k 2 r _ hx (by decide) rfl
        have hzr := hz r (List.mem_of_getElem? hx)
        have hokr := HALL.out r (List.mem_of_getElem? hx)
        have HP := hide (fun w (hv : Vs w) => lgPut_any r w hv hzr.1 hzr.2)
        rw [(lg_yes hokr).1, (lg_yes hokr).2] at HP
        have HLT := hide (loL_take hx)
        have HL1 := hide (unhide HTK k)
        have HL2 := hide (rcT_len hokr)
        have k0 : (0 : Int) ≤ (k : Int) := Int.natCast_nonneg _
        have k1 : (k : Int) < (rs.length : Int) := by omega
        clear hc hx hzr hokr
        unfold rcV at HP
        generalize rcT r = tx at HP HLT HL2
        obtain ⟨r1, r2, r3⟩ := r
        dsimp only at HP c0 c1 c2
        generalize (⟨r1.toArray⟩ : ByteArray) = x1 at *
        generalize (⟨r3.toArray⟩ : ByteArray) = x3 at *
        have HQB := hide (bxR_q wr x1 r2 x3)
        obtain ⟨b0, b1, b2⟩ := bxR_at (x := x1) (t := r2) (y := x3) (Q.refl (bxR wr x1 r2 x3))
        unfold bxR at b0 b1 b2 HQB
        go_wp2_with fail
        clear b0 b1 b2 c0 c1 c2
        refine (unhide HP _ ((unhide HV1).q (hq.trans (unhide HQB)))).mono ?_
        rintro e w2 ⟨rfl, q2⟩
        have HQ2 := hide ((unhide HQB).trans q2)
        have hqs := (hq.trans (unhide HQ2)).size
        have HW := hide (wstr_any w1.heap.size w1.heap.size _ tx w2 (builder_q HB.out (unhide HQ2)) (by have := HL1.out; have := HL2.out; omega) hqs)
        rw [← unhide HLT] at HW
        clear HB HLT HL1 HL2 HP q2
        go_wp2_with fail
        refine (unhide HW).mono ?_
        rintro e w3 ⟨rfl, hb3, b3⟩
        have q3 : Q w1 w3 := Below.trans (hq.trans (unhide HQ2)) b3
        have HB3 := hide hb3
        clear hb3 b3 HW
        go_wp2_with fail
        go_roundw
        case rel => exact ⟨k + 1, by omega, by go_num, unhide HB3, q3⟩
        case measure => simp [intOf]; omega
      · have hkl : rs.take k = rs := List.take_of_length_le (by omega)
        rw [hkl] at HB
        have hqs := hq.size
        clear hkl
        go_wp2_with fail
        refine (wend_any _ _ _ _ HB.out hqs).mono ?_
        rintro e w5 ⟨rfl, b5⟩
        go_wp2_with fail
        go_ret2
        exact ⟨rfl, q1.trans (Below.trans hq b5)⟩

end Go.Proofs.YtgbegdgacjodcaaGreatDoor
