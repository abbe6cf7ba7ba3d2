/- What package log's Compact answers; the conditions: the records lie in memory, texts are no longer than a string can be. -/
import Derived.Test.YtgbegdgacjodcaaGreatDoorLoLast
namespace Go.Proofs.YtgbegdgacjodcaaGreatDoor
open Go.RowKit

theorem cp_len {rs gs t : Rs} (e : cmR rs = gs ++ t) : gs.length ≤ rs.length := by
  have h := cmR_len rs
  rw [e, List.length_append] at h; omega

set_option maxRecDepth 20000 in
set_option maxHeartbeats 4000000 in
theorem loCompact_any (rs : Rs) (ao : Option Addr) (cap : Nat) (w : World) (hr : RowR w ao rs) (hz : RsZ rs) (hs : rs.length ≤ 140737488355328) :
    Calls Tryz.prog 12 #[.slice ao rs.length cap] w fun e w' => ∃ bo bcap, e = .returned (.tuple #[.slice bo (cpL rs).length bcap, .int .i64 (loE rs)]) ∧ OwnR w' w.heap.size bo bcap (cpL rs) ∧ Q w w' := by
  obtain ⟨i0, hi, hz0, hz1, hz2⟩ := info_parts Tryz.infoR
  have HM := hide (loMay_any rs ao cap w hr hz hs)
  have HP := hide (fun n u (q : Q w u) => place_any rs n ao cap u (RowG.q hr q) hs)
  cases hok : loOk rs
  · rw [hok] at HM
    have HE := hide (lo_no hok)
    have HC := hide (cpl_no hok)
    clear hok hr hz HP
    go_enter Tryz.func12, Tryz.ntmps12
    go_wp2_with fail
    refine (unhide HM).mono ?_
    rintro e w1 ⟨rfl, q1⟩
    go_wp2_with fail
    go_ret2
    rw [(unhide HE).2, unhide HC]
    exact ⟨none, 0, rfl, World.ownsRow_nil _ _ _ _, q1⟩
  · rw [hok] at HM
    obtain ⟨h256, hall⟩ := lo_parts hok
    have HE := hide (lo_yes hok)
    have HC := hide (cpl_yes hok)
    have HALL := hide hall
    have HR := hide hr
    have HE0 : Hid (∀ gs k, rs.length ≤ k → cmR rs = gs ++ cmR (rs.drop k) → cmR rs = gs) := fun gs k h e => cp_end h e
    clear hok hr hz hall
    go_enter Tryz.func12, Tryz.ntmps12
    go_wp2_with fail
    refine (unhide HM).mono ?_
    rintro e w1 ⟨rfl, q1⟩
    clear HM
    go_wp2_with fail
    go_loopw [4, 14] (fun v i wr => ∃ (k : Nat) (gs : Rs) (bo : Option Addr) (bcap : Nat), k ≤ rs.length ∧ i = .int .i64 k ∧ v = .slice bo gs.length bcap ∧ Hid (cmR rs = gs ++ cmR (rs.drop k)) ∧ Hid (OwnR wr w.heap.size bo bcap gs) ∧ Q w wr) (fun _ i _ => rs.length - (intOf i).toNat)
    case atStart => exact ⟨0, [], none, 0, Nat.zero_le _, rfl, rfl, by show _ = _; simp, World.ownsRow_nil _ _ _ _, q1⟩
    case round =>
      obtain ⟨k, gs, bo, bcap, hk, rfl, rfl, HG, HO, hq⟩ := hrel
      by_cases hlt : k < rs.length
      · rcases (unhide HR).q hq with he | ⟨g, o, rfl, hg, hcell⟩
        · rw [he] at hlt; simp at hlt
        obtain ⟨r, hx⟩ : ∃ r, rs[k]? = some r := ⟨rs[k], List.getElem?_eq_getElem hlt⟩
        have p0 : wr.cell? ⟨g, o + k * 3, none⟩ = some (.string ⟨r.1.toArray⟩) := hcell k 0 r _ hx (by decide) rfl
        have p1 : wr.cell? ⟨g, o + k * 3 + 1, none⟩ = some (.int .i64 r.2.1) := hcell k 1 r _ hx (by decide) rfl
        have p2 : wr.cell? ⟨g, o + k * 3 + 2, none⟩ = some (.string ⟨r.2.2.toArray⟩) := hcell k 2 r _ hx (by decide) rfl
        have hokr := HALL.out r (List.mem_of_getElem? hx)
        have HOW := hide (fun u => loown_any r u (rc_small hokr).1 (rc_small hokr).2)
        have HPR := hide (fun u (q : Q w u) => unhide HP ⟨r.1.toArray⟩ u q)
        have HLAS : Hid (∀ (i : Nat) (b : Bool), PlSays rs r.1 i b → (i = k ∧ lasB rs k r = true) ∨ (i ≠ k ∧ lasB rs k r = false)) := fun i b h => pl_las hx h
        have HY := hide (fun h => cp_yes hx h HG.out)
        have HN := hide (fun h => cp_no hx h HG.out)
        have hgl := cp_len HG.out
        have k0 : (0 : Int) ≤ (k : Int) := Int.natCast_nonneg _
        have k1 : (k : Int) < (rs.length : Int) := by omega
        have HRV : Hid (rv r = [.string ⟨r.1.toArray⟩, .int .i64 r.2.1, .string ⟨r.2.2.toArray⟩]) := rfl
        have HONE := hide (one_rv r)
        rw [unhide HRV] at HONE
        clear hcell hx hokr HG
        unfold rcV at HOW
        rw [show bl (⟨r.1.toArray⟩ : ByteArray) = r.1 from rfl] at HPR
        have HR' : Hid (∀ (w3 : World) (g3 : Nat) (cp3 : Nat), w3.ownsRow w.heap.size 31 3 (.slice (some ⟨g3, 0, none⟩) (gs.length + 1) cp3) (gs.length + 1) (lay rv gs ++ rv r) → OwnR w3 w.heap.size (some ⟨g3, 0, none⟩) cp3 (gs ++ [r])) := fun w3 g3 cp3 h => OwnR.snoc h
        rw [unhide HRV] at HR'
        clear HRV
        generalize hx1 : (⟨r.1.toArray⟩ : ByteArray) = x1 at *
        generalize hx3 : (⟨r.2.2.toArray⟩ : ByteArray) = x3 at *
        generalize hr2 : r.2.1 = r2 at *
        clear hx1 hx3 hr2
        have HQB := hide (bxR_q wr x1 r2 x3)
        have HBB := hide (fun u q => bxR_at (w := wr) (x := x1) (t := r2) (y := x3) (w1 := u) q)
        obtain ⟨b0, b1, b2⟩ := unhide HBB _ (Q.refl _)
        unfold bxR at b0 b1 b2 HQB HBB
        go_wp2_with fail
        refine (unhide HPR _ (hq.trans (unhide HQB))).mono ?_
        rintro e w2 ⟨⟨i, b, rfl, hps⟩, q2⟩
        have HLI := hide (unhide HLAS i b hps)
        obtain ⟨b0, b1, b2⟩ := unhide HBB _ q2
        have HQ2 := hide ((unhide HQB).trans q2)
        clear hps q2 HLAS p0 p1 p2 HP
        rcases unhide HLI with ⟨rfl, hl⟩ | ⟨hne, hl⟩
        · have HG2 := hide (unhide HY hl)
          clear hl HLI HY HN HPR
          go_wp2_with fail
          refine (unhide HOW _).mono ?_
          rintro e w3 ⟨rfl, q3⟩
          have HQ3 := hide (hq.trans ((unhide HQ2).trans q3))
          have HO3 := hide (own_q HO.out ((unhide HQ2).trans q3))
          have hB := (unhide HQ3).size
          clear q3 HO b0 b1 b2
          go_wp2_with (at_builtin; refine wpList_append_lies _ rfl _ _ 22 rfl w.heap.size 31 i0 _ 3 40 Tryz.underlying22 hi hz0 hz1 hz2 rfl (by decide) _ gs.length (lay rv gs) rfl ((unhide HO3).alloc _) ⟨w3.heap.size, 0, none⟩ 1 1 [.string x1, .int .i64 r2, .string x3] rfl rfl (news_new w3 #[.string x1, .int .i64 r2, .string x3] _) (unhide HONE) (by decide) (by unfold maxLen; omega) (by omega) (le_alloc hB _) (w3.heap.size + 1) (size_alloc _ _) ?_)
          intro g4 cp4 w4 hown4 hgrow4 hor4 hlt4
          have hq4 : Q w w4 := Below.grown (Q.alloc (unhide HQ3) _) hgrow4 (le_alloc (unhide HQ3).size _) (fun r hr => ((unhide HO3).lt r hr).1)
          have HO4 := hide (unhide HR' _ _ _ hown4)
          clear hown4 hgrow4 hor4 HO3 HQ3 HR' HONE
          go_wp2_with fail
          go_roundw
          case rel => exact ⟨i + 1, gs ++ [r], some ⟨g4, 0, none⟩, cp4, by omega, by go_num, by rw [List.length_append]; rfl, unhide HG2, unhide HO4, hq4⟩
          case measure => simp [intOf]; omega
        · have HG2 := hide (unhide HN hl)
          have hne' : ((i : Int) == (k : Int)) = false := beq_eq_false_iff_ne.2 (by omega)
          clear hl HLI HY HN HPR hne
          go_wp2_with fail
          go_roundw
          case rel => exact ⟨k + 1, gs, bo, bcap, by omega, by go_num, rfl, unhide HG2, own_q HO.out (unhide HQ2), hq.trans (unhide HQ2)⟩
          case measure => simp [intOf]; omega
      · have HF := hide (unhide HE0 gs k (by omega) HG.out)
        clear HG
        go_wp2_with fail
        go_ret2
        rw [(unhide HE).2, unhide HC, unhide HF]
        exact ⟨bo, bcap, rfl, HO.out, hq⟩

end Go.Proofs.YtgbegdgacjodcaaGreatDoor
