/- What the document's own LogMay, LogText, LastRecord answer; the conditions: the records lie in memory; lengths. -/
import Derived.Test.YtgbegdgacjodcaaGreatDoorLoState
import Derived.Test.YtgbegdgacjodcaaGreatDoorLgRGet
import Derived.Test.YtgbegdgacjodcaaGreatDoorLoText
namespace Go.Proofs.YtgbegdgacjodcaaGreatDoor
open Go.RowKit

theorem lo_bad {rs : Rs} {k : Nat} {r : Rc} (h : rs[k]? = some r) (hb : rcOk r = false) : loOk rs = false := by
  unfold loOk
  have : rs.all rcOk = false := List.all_eq_false.2 ⟨r, List.mem_of_getElem? h, by simp [hb]⟩
  rw [this, Bool.and_false]
theorem lo_end {rs : Rs} (h : ∀ r ∈ rs, rcOk r = true) : loOk rs = decide (rs.length ≤ 256) := by
  unfold loOk
  rw [List.all_eq_true.2 h, Bool.and_true]

set_option maxRecDepth 20000 in
set_option maxHeartbeats 4000000 in
theorem rloMay_any (rs : Rs) (ao : Option Addr) (cap : Nat) (w : World) (hr : RowR w ao rs) (hz : RsZ rs) (hs : rs.length ≤ cap) (hcap : cap ≤ maxLen) :
    Calls Tryz.prog 18 #[.slice ao rs.length cap] w fun e w' => e = .returned (.bool (loOk rs)) ∧ Q w w' := by
  have hsm : rs.length ≤ maxLen := Nat.le_trans hs hcap
  unfold maxLen at hsm hcap
  go_enter Tryz.func18, Tryz.ntmps18
  go_wp2_with fail
  go_loopw [3] (fun i wr => ∃ k : Nat, k ≤ rs.length ∧ i = .int .i64 k ∧ Hid (∀ r ∈ rs.take k, rcOk r = true) ∧ Q w wr) (fun i _ => rs.length - (intOf i).toNat)
  case atStart => exact ⟨0, Nat.zero_le _, rfl, fun r h => by simp at h, Q.refl _⟩
  case round =>
    obtain ⟨k, hk, rfl, HA, hq⟩ := hrel
    by_cases hlt : k < rs.length
    · rcases hr.q hq with he | ⟨g, o, rfl, hg, hc⟩
      · rw [he] at hlt; simp at hlt
      obtain ⟨r, hx⟩ : ∃ r, rs[k]? = some r := ⟨rs[k], List.getElem?_eq_getElem hlt⟩
      have c0 : wr.cell? ⟨g, o + k * 3, none⟩ = some (.string ⟨r.1.toArray⟩) := hc k 0 r _ hx (by decide) rfl
      have c1 : wr.cell? ⟨g, o + k * 3 + 1, none⟩ = some (.int .i64 r.2.1) := hc k 1 r _ hx (by decide) rfl
      have c2 : wr.cell? ⟨g, o + k * 3 + 2, none⟩ = some (.string ⟨r.2.2.toArray⟩) := hc k 2 r _ hx (by decide) rfl
      have hzr := hz r (List.mem_of_getElem? hx)
      have HM := hide (fun w => rrmay_any r w hzr.1 hzr.2)
      have HBAD := hide (fun h => lo_bad hx h)
      have HSUC : Hid (rcOk r = true → ∀ x ∈ rs.take (k + 1), rcOk x = true) := fun h x hm => by
        rw [List.take_add_one, hx] at hm
        rcases List.mem_append.1 hm with hm | hm
        · exact HA.out x hm
        · simp at hm; rw [hm]; exact h
      have k0 : (0 : Int) ≤ (k : Int) := Int.natCast_nonneg _
      have k1 : (k : Int) < (rs.length : Int) := by omega
      clear hc hx hr hz hzr HA
      unfold rcV at HM
      generalize hv : rcOk r = v at HM HBAD HSUC
      obtain ⟨r1, r2, r3⟩ := r
      dsimp only at HM c0 c1 c2
      generalize (⟨r1.toArray⟩ : ByteArray) = x1 at *
      generalize (⟨r3.toArray⟩ : ByteArray) = x3 at *
      clear hv
      cases v
      · have HF := hide (HBAD.out rfl)
        clear HBAD HSUC
        go_wp2_with fail
        refine (unhide HM _).mono ?_
        rintro e w2 ⟨rfl, q2⟩
        go_wp2_with fail
        go_ret
        exact ⟨ret_bool HF.out.symm, hq.trans q2⟩
      · have HN := hide (HSUC.out rfl)
        clear HBAD HSUC
        go_wp2_with fail
        refine (unhide HM _).mono ?_
        rintro e w2 ⟨rfl, q2⟩
        clear c0 c1 c2
        go_wp2_with fail
        go_roundw
        case rel => exact ⟨k + 1, by omega, by go_num, HN, hq.trans q2⟩
        case measure => simp [intOf]; omega
    · have HE : Hid (loOk rs = decide (rs.length ≤ 256)) := by
        show _ = _
        have h := HA.out
        rw [List.take_of_length_le (by omega)] at h
        exact lo_end h
      clear HA
      by_cases h2 : rs.length ≤ 256
      all_goals
        have h3 : ((rs.length : Int) ≤ 256) ∨ (256 < (rs.length : Int)) := by omega
        have hh : decide (rs.length ≤ 256) = decide ((rs.length : Int) ≤ 256) := by rw [decide_eq_decide]; omega
        have HH := hide hh
        clear hh h3
        go_wp2_with fail
        go_ret
        exact ⟨ret_bool (by rw [HE.out, HH.out]), hq⟩

set_option maxRecDepth 20000 in
set_option maxHeartbeats 4000000 in
theorem rloText_any (rs : Rs) (ao : Option Addr) (cap : Nat) (w : World) (hr : RowR w ao rs) (hz : RsZ rs) (hs : rs.length ≤ cap) (hcap : cap ≤ maxLen) :
    Calls Tryz.prog 8 #[.slice ao rs.length cap] w fun e w' => e = .returned (.tuple #[.string ⟨(loT rs).toArray⟩, .int .i64 (loE rs)]) ∧ Q w w' := by
  have HM := hide (rloMay_any rs ao cap w hr hz hs hcap)
  cases hok : loOk rs
  · rw [hok] at HM
    obtain ⟨e1, e2⟩ := lo_no hok
    rw [e1, e2]
    clear hok e1 e2
    go_enter Tryz.func8, Tryz.ntmps8
    go_wp2_with fail
    refine (unhide HM).mono ?_
    rintro e w1 ⟨rfl, q1⟩
    go_wp2_with fail
    go_ret2
    exact ⟨rfl, q1⟩
  · rw [hok] at HM
    obtain ⟨e1, e2⟩ := lo_yes hok
    obtain ⟨h256, hall⟩ := lo_parts hok
    rw [e1, e2]
    have HALL := hide hall
    clear hok e1 e2 hall
    go_enter Tryz.func8, Tryz.ntmps8
    go_wp2_with fail
    refine (unhide HM).mono ?_
    rintro e w1 ⟨rfl, q1⟩
    clear HM
    go_wp2_with fail
    go_loopw [4, 5] (fun t i wr => ∃ (k : Nat) (x : ByteArray), k ≤ rs.length ∧ i = .int .i64 k ∧ t = .string x ∧ Hid (bl x = loL (rs.take k)) ∧ Q w wr) (fun _ i _ => rs.length - (intOf i).toNat)
    case atStart => exact ⟨0, ⟨#[]⟩, Nat.zero_le _, rfl, rfl, rfl, q1⟩
    case round =>
      obtain ⟨k, x, hk, rfl, rfl, HX, hq⟩ := hrel
      by_cases hlt : k < rs.length
      · rcases hr.q hq with he | ⟨g, o, rfl, hg, hc⟩
        · rw [he] at hlt; simp at hlt
        obtain ⟨r, hx⟩ : ∃ r, rs[k]? = some r := ⟨rs[k], List.getElem?_eq_getElem hlt⟩
        have c0 : wr.cell? ⟨g, o + k * 3, none⟩ = some (.string ⟨r.1.toArray⟩) := hc k 0 r _ hx (by decide) rfl
        have c1 : wr.cell? ⟨g, o + k * 3 + 1, none⟩ = some (.int .i64 r.2.1) := hc k 1 r _ hx (by decide) rfl
        have c2 : wr.cell? ⟨g, o + k * 3 + 2, none⟩ = some (.string ⟨r.2.2.toArray⟩) := hc k 2 r _ hx (by decide) rfl
        have hzr := hz r (List.mem_of_getElem? hx)
        have hokr := HALL.out r (List.mem_of_getElem? hx)
        have HP := hide (fun w => rPut_any r w hzr.1 hzr.2)
        rw [(lg_yes hokr).1, (lg_yes hokr).2] at HP
        have hxz : x.size ≤ 540000 := by
          rw [← bl_size, HX.out]
          have h1 := loL_len (rs := rs.take k) (fun y hy => HALL.out y (List.mem_of_mem_take hy))
          rw [List.length_take] at h1
          omega
        have hyz : (⟨(rcT r).toArray⟩ : ByteArray).size ≤ 2100 := by rw [mk_size']; exact rcT_len hokr
        have HN : Hid (bl (x ++ ⟨(rcT r).toArray⟩) = loL (rs.take (k + 1))) := by
          show _ = _
          rw [bl_app, HX.out, List.take_add_one, hx]
          exact (loL_snoc _ _).symm
        have k0 : (0 : Int) ≤ (k : Int) := Int.natCast_nonneg _
        have k1 : (k : Int) < (rs.length : Int) := by omega
        clear hc hx hr hz hzr hokr HX
        unfold rcV at HP
        generalize (⟨(rcT r).toArray⟩ : ByteArray) = y at HP hyz HN
        obtain ⟨r1, r2, r3⟩ := r
        dsimp only at HP c0 c1 c2
        generalize (⟨r1.toArray⟩ : ByteArray) = x1 at *
        generalize (⟨r3.toArray⟩ : ByteArray) = x3 at *
        go_wp2_with fail
        refine (unhide HP _).mono ?_
        rintro e w2 ⟨rfl, q2⟩
        clear c0 c1 c2
        go_wp2_with fail
        go_roundw
        case rel => exact ⟨k + 1, x ++ y, by omega, by go_num, rfl, HN, hq.trans q2⟩
        case measure => simp [intOf]; omega
      · have HE : Hid (x = ⟨(loL rs).toArray⟩) := by
          show _ = _
          have h := HX.out
          rw [List.take_of_length_le (by omega)] at h
          exact of_bl h
        clear HX
        go_wp2_with fail
        go_ret2
        rw [← HE.out]
        exact ⟨rfl, hq⟩

end Go.Proofs.YtgbegdgacjodcaaGreatDoor
