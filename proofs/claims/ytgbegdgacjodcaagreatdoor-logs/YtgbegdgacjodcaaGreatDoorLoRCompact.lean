/- What the document's own CompactLog answers; the conditions: the records lie in memory; lengths. -/
import Derived.Test.YtgbegdgacjodcaaGreatDoorLoRef
import Derived.Test.YtgbegdgacjodcaaGreatDoorBdPlain
namespace Go.Proofs.YtgbegdgacjodcaaGreatDoor
open Go.RowKit

theorem rcp_len {rs gs t : Rs} (e : cmR rs = gs ++ t) : gs.length ≤ rs.length := by
  have h := cmR_len rs
  rw [e, List.length_append] at h; omega
theorem las_go {rs : Rs} {i k : Nat} {r x : Rc} {b v : Bool} (hik : i + 1 ≤ k) (hx : rs[k]? = some x) (hv : (x.1 == r.1) = v) (hb : lasT rs i k r = b) : lasT rs i (k + 1) r = (b && !v) := by
  rw [las_step hik hx, hb, hv]

set_option maxRecDepth 20000 in
set_option maxHeartbeats 8000000 in
theorem rloCompact_any (rs : Rs) (ao : Option Addr) (cap : Nat) (w : World) (hr : RowR w ao rs) (hz : RsZ rs) (hs : rs.length ≤ cap) (hcap : cap ≤ maxLen) :
    Calls Tryz.prog 13 #[.slice ao rs.length cap] w fun e w' => ∃ bo bcap, e = .returned (.tuple #[.slice bo (cpL rs).length bcap, .int .i64 (loE rs)]) ∧ OwnR w' w.heap.size bo bcap (cpL rs) ∧ Q w w' := by
  obtain ⟨i0, hi, hz0, hz1, hz2⟩ := info_parts Tryz.infoR
  have HM := hide (rloMay_any rs ao cap w hr hz hs hcap)
  cases hok : loOk rs
  · rw [hok] at HM
    have HE := hide (lo_no hok)
    have HC := hide (cpl_no hok)
    clear hok hr hz
    go_enter Tryz.func13, Tryz.ntmps13
    go_wp2_with fail
    refine (unhide HM).mono ?_
    rintro e w1 ⟨rfl, q1⟩
    go_wp2_with fail
    go_ret2
    rw [(unhide HE).2, unhide HC]
    exact ⟨none, 0, rfl, World.ownsRow_nil _ _ _ _, q1⟩
  · rw [hok] at HM
    obtain ⟨h256, hall⟩ := lo_parts hok
    have HE := hide (lo_yes hok)
    have HC := hide (cpl_yes hok)
    have HR := hide hr
    have HE0 : Hid (∀ gs k, rs.length ≤ k → cmR rs = gs ++ cmR (rs.drop k) → cmR rs = gs) := fun gs k h e => cp_end h e
    clear hok hr hz hall
    go_enter Tryz.func13, Tryz.ntmps13
    go_wp2_with fail
    refine (unhide HM).mono ?_
    rintro e w1 ⟨rfl, q1⟩
    clear HM
    go_wp2_with fail
    go_loopw [4, 5] (fun v i wr => ∃ (k : Nat) (gs : Rs) (bo : Option Addr) (bcap : Nat), k ≤ rs.length ∧ i = .int .i64 k ∧ v = .slice bo gs.length bcap ∧ Hid (cmR rs = gs ++ cmR (rs.drop k)) ∧ Hid (OwnR wr w.heap.size bo bcap gs) ∧ Q w wr) (fun _ i _ => rs.length - (intOf i).toNat)
    case atStart => exact ⟨0, [], none, 0, Nat.zero_le _, rfl, rfl, by show _ = _; simp, World.ownsRow_nil _ _ _ _, q1⟩
    case round =>
      obtain ⟨k, gs, bo, bcap, hk, rfl, rfl, HG, HO, hq⟩ := hrel
      rename World => wz
      by_cases hlt : k < rs.length
      · rcases (unhide HR).q hq with he | ⟨g, o, rfl, hg, hcell⟩
        · rw [he] at hlt; simp at hlt
        obtain ⟨r, hx⟩ : ∃ r, rs[k]? = some r := ⟨rs[k], List.getElem?_eq_getElem hlt⟩
        have HCELL := hide hcell
        have HXE := hide hx
        have HY := hide (fun h => cp_yes hx h HG.out)
        have HN := hide (fun h => cp_no hx h HG.out)
        have hgl := rcp_len HG.out
        have k0 : (0 : Int) ≤ (k : Int) := Int.natCast_nonneg _
        have k1 : (k : Int) < (rs.length : Int) := by omega
        clear hcell hx HG
        go_wp2_with fail
        go_loopw [6, 7] (fun b j wr => ∃ (v : Bool) (t : Nat), b = .bool v ∧ j = .int .i64 t ∧ k + 1 ≤ t ∧ t ≤ rs.length ∧ Hid (lasT rs k t r = v) ∧ Q wz wr) (fun _ j _ => rs.length - (intOf j).toNat)
        case atStart => exact ⟨true, k + 1, rfl, by go_num, Nat.le_refl _, by omega, las_new _ _ _, Q.refl _⟩
        case round =>
          obtain ⟨v, t, rfl, rfl, ht1, ht2, HL, hqi⟩ := hrel
          by_cases hti : t < rs.length
          · obtain ⟨x, hxt⟩ : ∃ x, rs[t]? = some x := ⟨rs[t], List.getElem?_eq_getElem hti⟩
            have p0 := (hqi.cell (p := ⟨g, o + k * 3, none⟩) hg).trans (HCELL.out k 0 r _ HXE.out (by decide) rfl)
            have p1 := (hqi.cell (p := ⟨g, o + t * 3, none⟩) hg).trans (HCELL.out t 0 x _ hxt (by decide) rfl)
            have HX := txt_beq x.1 ⟨r.1.toArray⟩
            rw [show bl (⟨r.1.toArray⟩ : ByteArray) = r.1 from rfl] at HX
            have t0 : (0 : Int) ≤ (t : Int) := Int.natCast_nonneg _
            have t1 : (t : Int) < (rs.length : Int) := by omega
            generalize hvx : (x.1 == r.1) = vx at HX
            have HGO := hide (las_go ht1 hxt hvx HL.out)
            clear hxt HL hvx
            generalize (⟨r.1.toArray⟩ : ByteArray) = y1 at *
            generalize (⟨x.1.toArray⟩ : ByteArray) = y2 at *
            have HX2 : (y2.toList != y1.toList) = !vx := by unfold bne; rw [HX]
            cases v <;> cases vx
            all_goals
              go_wp2_with fail
              go_quiet (fail)
              go_wp2_with fail
              go_roundw
              case rel => exact ⟨_, t + 1, rfl, by go_num, by omega, by omega, unhide HGO, hqi.drewN _⟩
              case measure => simp [intOf]; omega
          · have HLB : Hid (lasB rs k r = v) := by
              show _ = _
              rw [← HL.out]; exact (las_end (by omega)).symm
            clear HL
            have HO1 := hide (own_q HO.out hqi)
            have hq1 := hq.trans hqi
            cases v
            · have HG2 := hide (unhide HN HLB.out)
              go_wp2_with fail
              go_roundw
              case rel => exact ⟨k + 1, gs, bo, bcap, by omega, by go_num, rfl, unhide HG2, unhide HO1, hq1⟩
              case measure => simp [intOf]; omega
            · have HG2 := hide (unhide HY HLB.out)
              have p0 := (hqi.cell (p := ⟨g, o + k * 3, none⟩) hg).trans (HCELL.out k 0 r _ HXE.out (by decide) rfl)
              have p1 := (hqi.cell (p := ⟨g, o + k * 3 + 1, none⟩) hg).trans (HCELL.out k 1 r _ HXE.out (by decide) rfl)
              have p2 := (hqi.cell (p := ⟨g, o + k * 3 + 2, none⟩) hg).trans (HCELL.out k 2 r _ HXE.out (by decide) rfl)
              have HRV : Hid (rv r = [.string ⟨r.1.toArray⟩, .int .i64 r.2.1, .string ⟨r.2.2.toArray⟩]) := rfl
              have HONE := hide (one_rv r)
              rw [unhide HRV] at HONE
              have HR' : Hid (∀ (w3 : World) (g3 : Nat) (cp3 : Nat), w3.ownsRow w.heap.size 31 3 (.slice (some ⟨g3, 0, none⟩) (gs.length + 1) cp3) (gs.length + 1) (lay rv gs ++ rv r) → OwnR w3 w.heap.size (some ⟨g3, 0, none⟩) cp3 (gs ++ [r])) := fun w3 g3 cp3 h => OwnR.snoc h
              rw [unhide HRV] at HR'
              clear HRV HY HN HLB HCELL HXE HO
              have hB := hq1.size
              generalize (⟨r.1.toArray⟩ : ByteArray) = x1 at *
              generalize (⟨r.2.2.toArray⟩ : ByteArray) = x3 at *
              generalize r.2.1 = r2 at *
              rename World => w3
              go_wp2_with (at_builtin; refine wpList_append_lies _ rfl _ _ 22 rfl w.heap.size 31 i0 _ 3 40 Tryz.underlying22 hi hz0 hz1 hz2 rfl (by decide) _ gs.length (lay rv gs) rfl ((unhide HO1).alloc _) ⟨w3.heap.size, 0, none⟩ 1 1 [.string x1, .int .i64 r2, .string x3] rfl rfl (news_new w3 #[.string x1, .int .i64 r2, .string x3] _) (unhide HONE) (by decide) (by unfold maxLen; omega) (by omega) (le_alloc hB _) (w3.heap.size + 1) (size_alloc _ _) ?_)
              intro g4 cp4 w4 hown4 hgrow4 hor4 hlt4
              have hq4 : Q w w4 := Below.grown (Q.alloc hq1 _) hgrow4 (le_alloc hq1.size _) (fun r hr => ((unhide HO1).lt r hr).1)
              have HO4 := hide (unhide HR' _ _ _ hown4)
              clear hown4 hgrow4 hor4 HO1 HR' HONE
              go_wp2_with fail
              go_roundw
              case rel => exact ⟨k + 1, gs ++ [r], some ⟨g4, 0, none⟩, cp4, by omega, by go_num, by rw [List.length_append]; rfl, unhide HG2, unhide HO4, hq4⟩
              case measure => simp [intOf]; omega
      · have HF := hide (unhide HE0 gs k (by omega) HG.out)
        clear HG
        go_wp2_with fail
        go_ret2
        rw [(unhide HE).2, unhide HC, unhide HF]
        exact ⟨bo, bcap, rfl, HO.out, hq⟩

end Go.Proofs.YtgbegdgacjodcaaGreatDoor
