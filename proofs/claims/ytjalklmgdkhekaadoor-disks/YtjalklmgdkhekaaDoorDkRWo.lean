/- What the document's own disk without a file is, and what writes its help over; the conditions: the lengths. -/
import Derived.Test.YtjalklmgdkhekaaDoorDkRFind
namespace Go.Proofs.YtjalklmgdkhekaaDoor
open Go.RowKit

theorem rem_succ {fs : List Fl} {k : Nat} {f : Fl} {n : Tx} (h : fs[k]? = some f) : remL (fs.take (k + 1)) n = remL (fs.take k) n ++ (if (f.1 == n) = true then [] else [f]) := by
  unfold remL
  rw [List.take_add_one, h, List.filter_append]
  congr 1
  cases hf : (f.1 == n)
  · simp [hf]
  · simp [hf]
theorem rem_le {fs : List Fl} {n : Tx} (k : Nat) : (remL (fs.take k) n).length ≤ k := by
  unfold remL
  exact Nat.le_trans (List.length_filter_le _ _) (by simp; omega)
theorem Fr.below' {w wb wr : World} {B : Nat} (q : Q w wb) (h : Fr (fun k => B < k) wb wr) (hB : w.heap.size ≤ B) : Q w wr :=
  Below.trans q (h.below q.size (fun k hk => by omega))
theorem Fr.grownP {P : Nat → Prop} {wb wr wx w' : World} {row : Option Nat} (h : Fr P wb wr) (q : Q wr wx) (hg : wx.grownBy w' row) (hp : ∀ k, row = some k → P k) : Fr P wb w' :=
  (h.q q).trans ((Fr.grown hg).mono hp)

set_option maxRecDepth 20000 in
set_option maxHeartbeats 8000000 in
theorem rwo_any (c : Int) (fs : List Fl) (ao : Option Addr) (cap : Nat) (n : ByteArray) (w : World) (hr : RowK w ao fs) (hs : fs.length ≤ 4096) :
    Calls Tryd.prog 26 #[dkV c ao fs.length cap, .string n] w fun e w' => ∃ so sc, e = .returned (dkV c so (remL fs (bl n)).length sc) ∧ OwnK w' w.heap.size so sc (remL fs (bl n)) ∧ Q w w' := by
  obtain ⟨i0, hi, hz0, hz1, hz2⟩ := info_parts Tryd.infoK
  have b1 : Blk (w.alloc (.cells #[.int .i64 c, .slice ao fs.length cap] 24)) w.heap.size #[.int .i64 c, .slice ao fs.length cap] 24 := Blk.new w _ _
  have q1 := (Q.refl w).alloc (.cells #[.int .i64 c, .slice ao fs.length cap] 24)
  have b2 := Blk.new (w.alloc (.cells #[.int .i64 c, .slice ao fs.length cap] 24)) #[.int .i64 0, .slice none 0 0] 24
  rw [size_alloc] at b2
  have q2 := (Q.refl (w.alloc (.cells #[.int .i64 c, .slice ao fs.length cap] 24))).alloc (.cells #[.int .i64 0, .slice none 0 0] 24)
  have b3 := Blk.new ((w.alloc (.cells #[.int .i64 c, .slice ao fs.length cap] 24)).alloc (.cells #[.int .i64 0, .slice none 0 0] 24)) #[.int .i64 c, .slice none 0 0] 24
  rw [size_alloc, size_alloc] at b3
  have q3 := (Q.refl ((w.alloc (.cells #[.int .i64 c, .slice ao fs.length cap] 24)).alloc (.cells #[.int .i64 0, .slice none 0 0] 24))).alloc (.cells #[.int .i64 c, .slice none 0 0] 24)
  have HB1 := hide (b1.q (q2.trans q3))
  have HB2 := hide (b2.q q3)
  have HB3 := hide b3
  have HQ := hide (q1.trans (q2.trans q3))
  clear b1 b2 b3 q1 q2 q3
  unfold dkV
  go_enter Tryd.func26, Tryd.ntmps26
  go_wp2_with fail
  generalize ((w.alloc (.cells #[.int .i64 c, .slice ao fs.length cap] 24)).alloc (.cells #[.int .i64 0, .slice none 0 0] 24)).alloc (.cells #[.int .i64 c, .slice none 0 0] 24) = wb at *
  go_loopw [6] (fun i wr => ∃ (k : Nat) (so : Option Addr) (sc : Nat), k ≤ fs.length ∧ i = .int .i64 k ∧ Hid (Blk wr (w.heap.size + 1 + 1) #[.int .i64 c, .slice so (remL (fs.take k) (bl n)).length sc] 24) ∧ Hid (OwnK wr (w.heap.size + 1 + 1) so sc (remL (fs.take k) (bl n))) ∧ Hid (Fr (fun k => w.heap.size + 1 < k) wb wr)) (fun i _ => fs.length - (intOf i).toNat)
  case atStart => exact ⟨0, none, 0, Nat.zero_le _, rfl, HB3, World.ownsRow_nil _ _ _ _, Fr.refl _ _⟩
  case round =>
    obtain ⟨k, so, sc, hk, rfl, HO, HW, HF⟩ := hrel
    have hqw := hide (Fr.below' (unhide HQ) (unhide HF) (by omega))
    have hbx := (unhide HB1).fr (unhide HF) (by omega)
    have x1c := hbx.cell 1 rfl
    have HX := hide hbx
    have HRL := hide (rem_le (fs := fs) (n := bl n) k)
    clear hbx
    by_cases hlt : k < fs.length
    · rcases hr.q (unhide hqw) with he | ⟨g, o, rfl, hg, hcell⟩
      · rw [he] at hlt; simp at hlt
      obtain ⟨⟨f1, f2, f3⟩, hf⟩ : ∃ f, fs[k]? = some f := ⟨fs[k], List.getElem?_eq_getElem hlt⟩
      have HS := hide (rem_succ (n := bl n) hf)
      have htx := txt_beq f1 n
      have c0 : wr.cell? ⟨g, o + k * 3, none⟩ = some (.string ⟨f1.toArray⟩) := hcell k 0 _ _ hf (by decide) rfl
      have c1 : wr.cell? ⟨g, o + k * 3 + 1, none⟩ = some (.int .i64 f2) := hcell k 1 _ _ hf (by decide) rfl
      have c2 : wr.cell? ⟨g, o + k * 3 + 2, none⟩ = some (.int .i64 f3) := hcell k 2 _ _ hf (by decide) rfl
      have k0 : (0 : Int) ≤ (k : Int) := Int.natCast_nonneg _
      have k1 : (k : Int) < (fs.length : Int) := by omega
      have HV : Hid (fv (f1, f2, f3) = [.string ⟨f1.toArray⟩, .int .i64 f2, .int .i64 f3]) := rfl
      clear hcell hf
      cases hnm : (f1 == bl n)
      · rw [hnm] at htx
        have HS1 : Hid (remL (fs.take (k + 1)) (bl n) = remL (fs.take k) (bl n) ++ [(f1, f2, f3)]) := by show _ = _; rw [unhide HS, if_neg (by simp [hnm])]
        clear HS
        generalize hrj : remL (fs.take k) (bl n) = rj at *
        generalize (⟨f1.toArray⟩ : ByteArray) = x1 at *
        have o1 := (unhide HO).cell 1 rfl
        have ofz := (unhide HO).frz 1
        have oA : ∀ ob, (wr.alloc ob).cell? ⟨w.heap.size + 1 + 1, 1, none⟩ = some (.slice so rj.length sc) := fun ob => ((unhide HO).q ((Q.refl wr).alloc ob)).cell 1 rfl
        have xA : ∀ ob, (wr.alloc ob).cell? ⟨w.heap.size, 1, none⟩ = some (.slice (some ⟨g, o, none⟩) fs.length cap) := fun ob => ((unhide HX).q ((Q.refl wr).alloc ob)).cell 1 rfl
        have HH1 : Hid (∀ u ∈ [Value.string x1, .int .i64 f2, .int .i64 f3], u.oneCell' = true) := by intro u hu; simp at hu; rcases hu with rfl | rfl | rfl <;> rfl
        clear hnm hg
        go_wp2_with fail
        go_region_law (refine step_append_lies _ rfl (.tmp 26) (.tmp 32) 22 rfl (w.heap.size + 1 + 1) 34 i0 _ 3 32 Tryd.underlying22 hi hz0 hz1 hz2 rfl (by decide) (.slice so rj.length sc) rj.length (lay fv rj) (by simp [Act.eval]) (own_q (unhide HW) ((Q.refl wr).alloc (.cells #[.string x1, .int .i64 f2, .int .i64 f3] 34)).drew) ⟨wr.heap.size, 0, none⟩ 1 1 [.string x1, .int .i64 f2, .int .i64 f3] (by simp [Act.eval]) rfl (fun jj u hjj => news_at (w := wr) rfl #[.string x1, .int .i64 f2, .int .i64 f3] 34 jj u hjj) (unhide HH1) (by decide) (by have := unhide HRL; unfold maxLen; omega) (by have := unhide HRL; omega) (by have := (unhide HO).hi; simp; omega) (wr.heap.size + 1) (by simp) ?_; intro g5 cp5 w5 hown5 hgrow5 hor5 hlt5; have hO5 := ((unhide HO).q ((Q.refl wr).alloc (.cells #[.string x1, .int .i64 f2, .int .i64 f3] 34)).drew).fr (Fr.grown hgrow5) (fun e => (unhide HO).row (unhide HW) (by decide) _ e rfl); have y1 := hO5.cell 1 rfl; have y2 := hO5.frz 1; have HO5 := hide hO5)
        all_goals
          have HW6 : Hid (OwnK (w5.setCell ⟨w.heap.size + 1 + 1, 1, none⟩ (.slice (some ⟨g5, 0, none⟩) (rj.length + 1) cp5)) (w.heap.size + 1 + 1) (some ⟨g5, 0, none⟩) cp5 (remL (fs.take (k + 1)) (bl n))) := by
            show OwnK _ _ _ _ _
            rw [unhide HS1]
            refine OwnK.snoc ?_
            rw [unhide HV]
            exact own_fr hown5 (Fr.set w5 _ 1 _) (fun k hk => (unhide HO5).row hown5 (by decide) k hk)
          have HB6 : Hid (Blk (w5.setCell ⟨w.heap.size + 1 + 1, 1, none⟩ (.slice (some ⟨g5, 0, none⟩) (rj.length + 1) cp5)) (w.heap.size + 1 + 1) #[.int .i64 c, .slice (some ⟨g5, 0, none⟩) (remL (fs.take (k + 1)) (bl n)).length cp5] 24) := by
            show Blk _ _ _ _
            rw [unhide HS1, List.length_append]
            exact (unhide HO5).set 1 _
          have HF6 : Hid (Fr (fun k => w.heap.size + 1 < k) wb (w5.setCell ⟨w.heap.size + 1 + 1, 1, none⟩ (.slice (some ⟨g5, 0, none⟩) (rj.length + 1) cp5))) :=
            ((unhide HF).grownP ((Q.refl wr).alloc (.cells #[.string x1, .int .i64 f2, .int .i64 f3] 34)).drew hgrow5 (fun k hk => by have := ((unhide HW).lt k hk).1; omega)).trans ((Fr.set w5 _ 1 _).mono (fun k hk => by omega))
          clear hown5 hgrow5 hor5 y1 y2 o1 ofz oA xA c0 c1 c2 x1c HO5 hO5 htx
          generalize w5.setCell ⟨w.heap.size + 1 + 1, 1, none⟩ (.slice (some ⟨g5, 0, none⟩) (rj.length + 1) cp5) = w6 at *
          go_wp2_with fail
          go_roundw
          case rel => exact ⟨k + 1, some ⟨g5, 0, none⟩, cp5, by omega, by go_num, HB6, HW6, HF6⟩
          case measure => simp [intOf]; omega
      · rw [hnm] at htx
        have HS1 : Hid (remL (fs.take (k + 1)) (bl n) = remL (fs.take k) (bl n)) := by show _ = _; rw [unhide HS, if_pos (by simp [hnm]), List.append_nil]
        generalize (⟨f1.toArray⟩ : ByteArray) = x1 at *
        clear HS hnm hg
        go_wp2_with fail
        go_roundw
        case rel => exact ⟨k + 1, so, sc, by omega, by go_num, by show Blk _ _ _ _; rw [unhide HS1]; exact unhide HO, by show OwnK _ _ _ _ _; rw [unhide HS1]; exact unhide HW, HF⟩
        case measure => simp [intOf]; omega
    · have hkl : k = fs.length := by omega
      subst hkl
      have HT : Hid (fs.take fs.length = fs) := List.take_length
      rw [unhide HT] at HO HW
      have k1 : ¬ ((fs.length : Int) < (fs.length : Int)) := by omega
      have o0 := (unhide HO).cell 0 rfl
      have o1 := (unhide HO).cell 1 rfl
      have h2 := (unhide HB2).fr (unhide HF) (by omega)
      have d0 := h2.cell 0 rfl
      have d1 := h2.cell 1 rfl
      have e0 := h2.frz 0
      have e1 := h2.frz 1
      have H2 := hide h2
      clear h2 HT
      generalize hrl : remL fs (bl n) = rl at *
      go_wp2_with fail
      obtain ⟨hb, fr⟩ := put2 (unhide H2) (.int .i64 c) (.slice so rl.length sc)
      have HZ := hide (Below.trans (unhide hqw) (fr.below (unhide hqw).size (fun k hk => by omega)))
      have HWZ := hide (own_low (own_fr (unhide HW) fr (fun k hk => by have := ((unhide HW).lt k hk).1; omega)) (show w.heap.size ≤ w.heap.size + 1 + 1 by omega))
      have g0 := hb.cell 0 rfl
      have g1 := hb.cell 1 rfl
      generalize (World.setCell (World.setCell _ ⟨w.heap.size + 1, 0, none⟩ (.int .i64 c)) ⟨w.heap.size + 1, 1, none⟩ (.slice so rl.length sc)) = wf at *
      exact bodyPost_ret (v := .agg #[.int .i64 c, .slice so rl.length sc]) (by simp [results, Tryd.results26, go_sem, g0, g1]) rfl (by subst hrl; exact ⟨so, sc, rfl, unhide HWZ, unhide HZ⟩)
set_option maxHeartbeats 4000000 in
theorem spoilF_any (ao : Option Addr) (cap B : Nat) (ps : List Fl) (w : World) (hown : OwnK w B ao cap ps) (hn : ps.length ≤ 4096) :
    Calls Tryd.prog 15 #[.slice ao ps.length cap] w fun e w' => e = .returned (.tuple #[]) ∧ Below B w w' := by
  go_enter Tryd.func15, Tryd.ntmps15
  go_wp2_with fail
  go_loopw [2] (fun i wr => ∃ (k : Nat) (qs : List Fl), k ≤ ps.length ∧ i = .int .i64 k ∧ Hid (qs.length = ps.length ∧ ∀ j, k ≤ j → qs[j]? = ps[j]?) ∧ Hid (OwnK wr B ao cap qs) ∧ Below B w wr) (fun i _ => ps.length - (intOf i).toNat)
  case atStart => exact ⟨0, ps, Nat.zero_le _, rfl, ⟨rfl, fun _ _ => rfl⟩, hown, Below.refl _ _⟩
  case round =>
    obtain ⟨k, qs, hk, rfl, HL, HO, hq⟩ := hrel
    by_cases hlt : k < ps.length
    · obtain ⟨⟨p1, p2, p3⟩, hp⟩ : ∃ p, ps[k]? = some p := ⟨ps[k], List.getElem?_eq_getElem hlt⟩
      have hqp : qs[k]? = some (p1, p2, p3) := (HL.out.2 k (Nat.le_refl _)).trans hp
      have hql := HL.out.1
      obtain ⟨g, rfl, hgB, hg, hf, hc⟩ := own_some fv_len (by decide) (by omega) HO.out
      have c2 : wr.cell? ⟨g, k * 3 + 2, none⟩ = some (.int .i64 p3) := hc k 2 _ _ hqp (by decide) rfl
      have hfr := hf (k * 3 + 2)
      clear hf hc hp
      go_wp2_with fail
      generalize bits BinOp.xor IntKind.i64 p3 90 = y3
      have HX := hide (own_set fv_len HO.out k 2 (p1, p2, p3) (p1, p2, y3) (.int .i64 y3) hqp (by decide) rfl)
      have HL2 : Hid ((qs.set k (p1, p2, y3)).length = ps.length ∧ ∀ j, k + 1 ≤ j → (qs.set k (p1, p2, y3))[j]? = ps[j]?) :=
        ⟨by rw [List.length_set]; exact hql, fun j hj => by rw [List.getElem?_set_ne (by omega)]; exact HL.out.2 j (by omega)⟩
      have HO2 : Hid (OwnK (wr.setCell ⟨g, k * 3 + 2, none⟩ (.int .i64 y3)) B (some ⟨g, 0, none⟩) cap (qs.set k (p1, p2, y3))) := by
        show World.ownsRow _ _ _ _ (.slice _ (qs.set _ _).length _) (qs.set _ _).length _
        rw [List.length_set]; exact unhide HX
      go_roundw
      case rel => exact ⟨k + 1, qs.set k (p1, p2, y3), by omega, by go_num, HL2, HO2, hq.setCell hgB _⟩
      case measure => simp [intOf]; omega
    · go_wp2_with fail
      go_end0
      exact ⟨rfl, hq⟩

end Go.Proofs.YtjalklmgdkhekaaDoor
