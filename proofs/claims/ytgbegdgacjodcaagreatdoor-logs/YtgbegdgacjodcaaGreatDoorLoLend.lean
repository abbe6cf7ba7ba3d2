/- What the statements' own CopyRecords, LendRecords, KeptRecords and SpoilRecords do: a row is copied, lent with marked room behind it, found kept, written over; the conditions: the records lie in memory; lengths. -/
import Derived.Test.YtgbegdgacjodcaaGreatDoorLoSame
import Derived.Deep.OwnRows
namespace Go.Proofs.YtgbegdgacjodcaaGreatDoor
open Go.RowKit

/-- The mark behind what is lent. -/
def xR : Rc := ([], 77777, [])

set_option maxHeartbeats 2000000 in
theorem copyR_any (bs : Rs) (ao : Option Addr) (cap : Nat) (w : World) (hr : RowR w ao bs) (hb : bs.length * 40 ≤ 140737488355328) :
    Calls Tryz.prog 22 #[.slice ao bs.length cap] w fun e w' => ∃ ao' cap', e = .returned (.slice ao' bs.length cap') ∧ OwnR w' w.heap.size ao' cap' bs ∧ Q w w' := by
  obtain ⟨i0, hi, hz0, hz1, hz2⟩ := info_parts Tryz.infoR
  go_enter Tryz.func22, Tryz.ntmps22
  go_wp2_with (at_builtin; refine wpList_append_row rfl _ _ 22 rfl w.heap.size 31 i0 (.agg #[.string ByteArray.empty, .int .i64 0, .string ByteArray.empty]) 3 40 Tryz.underlying22 hi hz0 hz1 hz2 rfl (by decide) (some ⟨w.heap.size, 0, none⟩) 0 0 [] rfl (World.ownsRow_made w #[] 0 (Nat.le_refl _) (by unfold maxLen; omega) rfl) ao bs.length cap (lay rv bs) rfl (SrcRow.row rv_len (by decide) (hr.q ((Q.refl _).alloc _))) (one_layR bs) (by unfold maxLen; omega) (by omega) (le_alloc (Nat.le_refl _) _) ?_)
  intro ao4 cap4 w4 hown4 hgrow4
  have hq4 : Q w w4 := Below.grown ((Q.refl w).alloc _) hgrow4 (le_alloc (Nat.le_refl _) _) (fun r hr => by cases hr; exact Nat.le_refl _)
  have own4 : OwnR w4 w.heap.size ao4 cap4 bs := by simpa using hown4
  clear hown4 hgrow4
  go_wp2_with fail
  go_ret
  exact ⟨ao4, cap4, by first | rfl | simp, own4, hq4⟩

theorem news_twoR (w : World) (t : TypeId) : ∀ j u, [Value.string ⟨#[]⟩, .int .i64 77777, .string ⟨#[]⟩, .string ⟨#[]⟩, .int .i64 77777, .string ⟨#[]⟩][j]? = some u → (w.alloc (.cells #[.string ⟨#[]⟩, .int .i64 77777, .string ⟨#[]⟩, .string ⟨#[]⟩, .int .i64 77777, .string ⟨#[]⟩] t)).cell? ((⟨w.heap.size, 0, none⟩ : Addr).add j) = some u :=
  news_new w #[.string ⟨#[]⟩, .int .i64 77777, .string ⟨#[]⟩, .string ⟨#[]⟩, .int .i64 77777, .string ⟨#[]⟩] t
theorem one_twoR : ∀ u ∈ [Value.string ⟨#[]⟩, .int .i64 77777, .string ⟨#[]⟩, .string ⟨#[]⟩, .int .i64 77777, .string ⟨#[]⟩], u.oneCell' = true := by
  intro u hu; simp at hu; rcases hu with rfl | rfl | rfl | rfl | rfl | rfl <;> rfl

set_option maxHeartbeats 2000000 in
theorem lendR_any (bs : Rs) (ao : Option Addr) (cap : Nat) (w : World) (hr : RowR w ao bs) (hb : (bs.length + 2) * 40 ≤ 140737488355328) :
    Calls Tryz.prog 6 #[.slice ao bs.length cap] w fun e w' => ∃ g cap', e = .returned (.slice (some ⟨g, 0, none⟩) bs.length cap') ∧ bs.length + 2 ≤ cap' ∧ cap' ≤ maxLen ∧ OwnR w' w.heap.size (some ⟨g, 0, none⟩) cap' (bs ++ [xR, xR]) ∧ Q w w' := by
  obtain ⟨i0, hi, hz0, hz1, hz2⟩ := info_parts Tryz.infoR
  have HC := hide (copyR_any bs ao cap w hr (by omega))
  go_enter Tryz.func6, Tryz.ntmps6
  go_wp2_with fail
  refine (unhide HC).mono ?_
  rintro e w1 ⟨co, ccap, rfl, own1, q1⟩
  have hB := q1.size
  go_wp2_with (at_builtin; refine wpList_append_lies _ rfl _ _ 22 rfl w.heap.size 31 i0 (.agg #[.string ByteArray.empty, .int .i64 0, .string ByteArray.empty]) 3 40 Tryz.underlying22 hi hz0 hz1 hz2 rfl (by decide) _ _ _ rfl (own1.alloc _) ⟨w1.heap.size, 0, none⟩ 2 2 [.string ⟨#[]⟩, .int .i64 77777, .string ⟨#[]⟩, .string ⟨#[]⟩, .int .i64 77777, .string ⟨#[]⟩] rfl rfl (news_twoR _ _) one_twoR (by decide) (by unfold maxLen; omega) (by omega) (le_alloc hB _) (w1.heap.size + 1) (size_alloc _ _) ?_)
  intro g cp w2 hown2 hgrow hor hglt
  have hq2 : Q w w2 := Below.grown (q1.alloc _) hgrow (le_alloc q1.size _) (fun r hr => (own1.lt r hr).1)
  have HO : Hid (OwnR w2 w.heap.size (some ⟨g, 0, none⟩) cp (bs ++ [xR, xR])) := by
    show World.ownsRow _ _ _ _ (.slice _ (bs ++ [xR, xR]).length _) (bs ++ [xR, xR]).length (lay rv (bs ++ [xR, xR]))
    rw [lay_app, List.length_append]; exact hown2
  have hle := own_le hown2
  obtain ⟨hle1, hle2, _⟩ := hle
  have hle3 : (bs.length : Int) ≤ (cp : Int) := by omega
  clear hown2 hgrow hor own1
  go_wp2_with fail
  go_ret
  exact ⟨g, cp, rfl, hle1, hle2, HO.out, hq2⟩

set_option maxHeartbeats 4000000 in
theorem keptR_any (bs : Rs) (g cap B : Nat) (ao : Option Addr) (acap : Nat) (w : World) (ho : OwnR w B (some ⟨g, 0, none⟩) cap (bs ++ [xR, xR])) (hr : RowR w ao bs) (hb : (bs.length + 2) * 40 ≤ 140737488355328) (hc : bs.length + 2 ≤ cap) :
    Calls Tryz.prog 20 #[.slice (some ⟨g, 0, none⟩) bs.length cap, .slice ao bs.length acap] w fun e w' => e = .returned (.bool true) ∧ Q w w' := by
  have heq := eqR
  have hgd := Tryz.guardR
  have HS := hide (sameR_any (some ⟨g, 0, none⟩) ao cap acap bs bs w (OwnR.row ho).front hr (by unfold maxLen; omega))
  rw [decide_eq_true (rfl : bs = bs)] at HS
  obtain ⟨g', e, hgB, hg, hfz, hcell⟩ := own_some rv_len (by decide) (by simp) ho
  cases e
  have x1 : (bs ++ [xR, xR])[bs.length]? = some xR := by rw [List.getElem?_append_right (Nat.le_refl _)]; simp
  have x2 : (bs ++ [xR, xR])[bs.length + 1]? = some xR := by rw [List.getElem?_append_right (by omega)]; simp
  have c1 : w.cell? ⟨g, bs.length * 3, none⟩ = some (.string ⟨#[]⟩) := hcell _ 0 xR _ x1 (by decide) rfl
  have c2 : w.cell? ⟨g, bs.length * 3 + 1, none⟩ = some (.int .i64 77777) := hcell _ 1 xR _ x1 (by decide) rfl
  have c3 : w.cell? ⟨g, bs.length * 3 + 2, none⟩ = some (.string ⟨#[]⟩) := hcell _ 2 xR _ x1 (by decide) rfl
  have c4 : w.cell? ⟨g, (bs.length + 1) * 3, none⟩ = some (.string ⟨#[]⟩) := hcell _ 0 xR _ x2 (by decide) rfl
  have c5 : w.cell? ⟨g, (bs.length + 1) * 3 + 1, none⟩ = some (.int .i64 77777) := hcell _ 1 xR _ x2 (by decide) rfl
  have c6 : w.cell? ⟨g, (bs.length + 1) * 3 + 2, none⟩ = some (.string ⟨#[]⟩) := hcell _ 2 xR _ x2 (by decide) rfl
  clear hcell x1 x2 ho hfz hr
  go_enter Tryz.func20, Tryz.ntmps20
  go_wp2_with fail
  refine (unhide HS).mono ?_
  rintro e w1 ⟨rfl, q1⟩
  have d1 := (q1.cell (p := ⟨g, bs.length * 3, none⟩) hg).trans c1
  have d2 := (q1.cell (p := ⟨g, bs.length * 3 + 1, none⟩) hg).trans c2
  have d3 := (q1.cell (p := ⟨g, bs.length * 3 + 2, none⟩) hg).trans c3
  have d4 := (q1.cell (p := ⟨g, (bs.length + 1) * 3, none⟩) hg).trans c4
  have d5 := (q1.cell (p := ⟨g, (bs.length + 1) * 3 + 1, none⟩) hg).trans c5
  have d6 := (q1.cell (p := ⟨g, (bs.length + 1) * 3 + 2, none⟩) hg).trans c6
  have n0 : (0 : Int) ≤ (bs.length : Int) := Int.natCast_nonneg _
  clear c1 c2 c3 c4 c5 c6
  go_wp2_with fail
  go_ret
  exact ⟨rfl, q1⟩

set_option maxHeartbeats 4000000 in
theorem spoilR_any (ao : Option Addr) (cap B : Nat) (ps : Rs) (w : World) (hown : OwnR w B ao cap ps) (hn : ps.length ≤ 4096) :
    Calls Tryz.prog 19 #[.slice ao ps.length cap] w fun e w' => e = .returned (.tuple #[]) ∧ Fr (fun k => (Value.slice ao ps.length cap).ownBlock = some k) w w' := by
  go_enter Tryz.func19, Tryz.ntmps19
  go_wp2_with fail
  go_loopw [2] (fun i wr => ∃ (k : Nat) (qs : Rs), k ≤ ps.length ∧ i = .int .i64 k ∧ Hid (qs.length = ps.length ∧ ∀ j, k ≤ j → qs[j]? = ps[j]?) ∧ Hid (OwnR wr B ao cap qs) ∧ Hid (Fr (fun k => (Value.slice ao ps.length cap).ownBlock = some k) w wr)) (fun i _ => ps.length - (intOf i).toNat)
  case atStart => exact ⟨0, ps, Nat.zero_le _, rfl, ⟨rfl, fun _ _ => rfl⟩, hown, Fr.refl _ _⟩
  case round =>
    obtain ⟨k, qs, hk, rfl, HL, HO, HF⟩ := hrel
    by_cases hlt : k < ps.length
    · obtain ⟨⟨p1, p2, p3⟩, hp⟩ : ∃ p, ps[k]? = some p := ⟨ps[k], List.getElem?_eq_getElem hlt⟩
      have hqp : qs[k]? = some (p1, p2, p3) := (HL.out.2 k (Nat.le_refl _)).trans hp
      have hql := HL.out.1
      obtain ⟨g, rfl, hgB, hg, hf, hc⟩ := own_some rv_len (by decide) (by omega) HO.out
      have c2 : wr.cell? ⟨g, k * 3 + 1, none⟩ = some (.int .i64 p2) := hc k 1 _ _ hqp (by decide) rfl
      have hfr := hf (k * 3 + 1)
      clear hf hc hp
      go_wp2_with fail
      generalize bits BinOp.xor IntKind.i64 p2 90 = y3
      have HX := hide (own_set rv_len HO.out k 1 (p1, p2, p3) (p1, y3, p3) (.int .i64 y3) hqp (by decide) rfl)
      have HL2 : Hid ((qs.set k (p1, y3, p3)).length = ps.length ∧ ∀ j, k + 1 ≤ j → (qs.set k (p1, y3, p3))[j]? = ps[j]?) :=
        ⟨by rw [List.length_set]; exact hql, fun j hj => by rw [List.getElem?_set_ne (by omega)]; exact HL.out.2 j (by omega)⟩
      have HO2 : Hid (OwnR (wr.setCell ⟨g, k * 3 + 1, none⟩ (.int .i64 y3)) B (some ⟨g, 0, none⟩) cap (qs.set k (p1, y3, p3))) := by
        show World.ownsRow _ _ _ _ (.slice _ (qs.set _ _).length _) (qs.set _ _).length _
        rw [List.length_set]; exact unhide HX
      have HF2 : Hid (Fr (fun k => (Value.slice (some ⟨g, 0, none⟩) ps.length cap).ownBlock = some k) w (wr.setCell ⟨g, k * 3 + 1, none⟩ (.int .i64 y3))) :=
        HF.out.trans ((Fr.set wr g (k * 3 + 1) (.int .i64 y3)).mono (fun j e => by rw [e]; rfl))
      go_roundw
      case rel => exact ⟨k + 1, qs.set k (p1, y3, p3), by omega, by go_num, HL2, HO2, HF2⟩
      case measure => simp [intOf]; omega
    · go_wp2_with fail
      go_end0
      exact ⟨rfl, HF.out⟩

end Go.Proofs.YtgbegdgacjodcaaGreatDoor
