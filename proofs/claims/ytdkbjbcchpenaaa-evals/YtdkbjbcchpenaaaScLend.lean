/- What the statements' own CopyBinds, LendBinds and KeptBinds do: a row is copied, lent with marked room behind it, found kept; the conditions: the binds lie in memory; lengths. -/
import Derived.Test.YtdkbjbcchpenaaaScSame
namespace Go.Proofs.Ytdkbjbcchpenaaa
open Go.RowKit

/-- The mark behind what is lent. -/
def xx : Bd := (ByteArray.empty, ⟨#[120]⟩)

theorem RowD.front {w : World} {ao : Option Addr} {bs cs : List Bd} (h : RowD w ao (bs ++ cs)) : RowD w ao bs := by
  rcases h with h | ⟨g, o, e, hg, hc⟩
  · left; exact (List.append_eq_nil_iff.1 h).1
  · refine Or.inr ⟨g, o, e, hg, ?_⟩
    intro j i x v hx hi hv
    refine hc j i x v ?_ hi hv
    rw [List.getElem?_append_left (List.getElem?_eq_some_iff.1 hx).1]; exact hx

set_option maxHeartbeats 2000000 in
theorem copyD_any (bs : List Bd) (ao : Option Addr) (cap : Nat) (w : World) (hr : RowD w ao bs) (hb : bs.length * 32 ≤ 140737488355328) :
    Calls Try.prog 17 #[.slice ao bs.length cap] w fun e w' => ∃ ao' cap', e = .returned (.slice ao' bs.length cap') ∧ OwnD w' w.heap.size ao' cap' bs ∧ Q w w' := by
  obtain ⟨i0, hi, hz0, hz1, hz2⟩ := info_parts Try.infoD
  go_enter Try.func17, Try.ntmps17
  go_wp2_with (at_builtin; refine wpList_append_row rfl _ _ 22 rfl w.heap.size 34 i0 (.agg #[.string ByteArray.empty, .string ByteArray.empty]) 2 32 Try.underlying22 hi hz0 hz1 hz2 rfl (by decide) (some ⟨w.heap.size, 0, none⟩) 0 0 [] rfl (World.ownsRow_made w #[] 0 (Nat.le_refl _) (by unfold maxLen; omega) rfl) ao bs.length cap (lay dv bs) rfl (SrcRow.row dv_len (by decide) (hr.q ((Q.refl _).alloc _))) (one_layD bs) (by unfold maxLen; omega) (by omega) (le_alloc (Nat.le_refl _) _) ?_)
  intro ao4 cap4 w4 hown4 hgrow4
  have hq4 : Q w w4 := Below.grown ((Q.refl w).alloc _) hgrow4 (le_alloc (Nat.le_refl _) _) (fun r hr => by cases hr; exact Nat.le_refl _)
  have own4 : OwnD w4 w.heap.size ao4 cap4 bs := by simpa using hown4
  clear hown4 hgrow4
  go_wp2_with fail
  go_ret
  exact ⟨ao4, cap4, by first | rfl | simp, own4, hq4⟩

theorem news_two (w : World) (t : TypeId) : ∀ j u, [Value.string ByteArray.empty, .string ⟨#[120]⟩, .string ByteArray.empty, .string ⟨#[120]⟩][j]? = some u → (w.alloc (.cells #[.string ByteArray.empty, .string ⟨#[120]⟩, .string ByteArray.empty, .string ⟨#[120]⟩] t)).cell? ((⟨w.heap.size, 0, none⟩ : Addr).add j) = some u :=
  news_new w #[.string ByteArray.empty, .string ⟨#[120]⟩, .string ByteArray.empty, .string ⟨#[120]⟩] t
theorem one_two : ∀ u ∈ [Value.string ByteArray.empty, .string ⟨#[120]⟩, .string ByteArray.empty, .string ⟨#[120]⟩], u.oneCell' = true := by
  intro u hu; simp at hu; rcases hu with rfl | rfl | rfl | rfl <;> rfl

set_option maxHeartbeats 2000000 in
theorem lendD_any (bs : List Bd) (ao : Option Addr) (cap : Nat) (w : World) (hr : RowD w ao bs) (hb : (bs.length + 2) * 32 ≤ 140737488355328) :
    Calls Try.prog 8 #[.slice ao bs.length cap] w fun e w' => ∃ g cap', e = .returned (.slice (some ⟨g, 0, none⟩) bs.length cap') ∧ bs.length + 2 ≤ cap' ∧ cap' ≤ maxLen ∧ OwnD w' w.heap.size (some ⟨g, 0, none⟩) cap' (bs ++ [xx, xx]) ∧ Q w w' := by
  obtain ⟨i0, hi, hz0, hz1, hz2⟩ := info_parts Try.infoD
  have HC := hide (copyD_any bs ao cap w hr (by omega))
  go_enter Try.func8, Try.ntmps8
  go_wp2_with fail
  refine (unhide HC).mono ?_
  rintro e w1 ⟨co, ccap, rfl, own1, q1⟩
  have hB := q1.size
  go_wp2_with (at_builtin; refine wpList_append_lies _ rfl _ _ 22 rfl w.heap.size 34 i0 (.agg #[.string ByteArray.empty, .string ByteArray.empty]) 2 32 Try.underlying22 hi hz0 hz1 hz2 rfl (by decide) _ _ _ rfl (own1.alloc _) ⟨w1.heap.size, 0, none⟩ 2 2 [.string ByteArray.empty, .string ⟨#[120]⟩, .string ByteArray.empty, .string ⟨#[120]⟩] rfl rfl (news_two _ _) one_two (by decide) (by unfold maxLen; omega) (by omega) (le_alloc hB _) (w1.heap.size + 1) (size_alloc _ _) ?_)
  intro g cp w2 hown2 hgrow hor hglt
  have hq2 : Q w w2 := Below.grown (q1.alloc _) hgrow (le_alloc q1.size _) (fun r hr => (own1.lt r hr).1)
  have HO : Hid (OwnD w2 w.heap.size (some ⟨g, 0, none⟩) cp (bs ++ [xx, xx])) := by
    show World.ownsRow _ _ _ _ (.slice _ (bs ++ [xx, xx]).length _) (bs ++ [xx, xx]).length (lay dv (bs ++ [xx, xx]))
    rw [lay_app, List.length_append]; exact hown2
  have hle := own_le hown2
  obtain ⟨hle1, hle2, _⟩ := hle
  have hle3 : (bs.length : Int) ≤ (cp : Int) := by omega
  clear hown2 hgrow hor own1
  go_wp2_with fail
  go_ret
  exact ⟨g, cp, rfl, hle1, hle2, HO.out, hq2⟩

set_option maxHeartbeats 4000000 in
theorem keptD_any (bs : List Bd) (g cap B : Nat) (ao : Option Addr) (acap : Nat) (w : World) (ho : OwnD w B (some ⟨g, 0, none⟩) cap (bs ++ [xx, xx])) (hr : RowD w ao bs) (hb : (bs.length + 2) * 32 ≤ 140737488355328) (hc : bs.length + 2 ≤ cap) :
    Calls Try.prog 12 #[.slice (some ⟨g, 0, none⟩) bs.length cap, .slice ao bs.length acap] w fun e w' => e = .returned (.bool true) ∧ Q w w' := by
  have heq := eqD
  have hgd := Try.guardD
  have HS := hide (sameD_any (some ⟨g, 0, none⟩) ao cap acap bs bs w (OwnD.row ho).front hr (by unfold maxLen; omega))
  rw [decide_eq_true (rfl : bs = bs)] at HS
  obtain ⟨g', e, hgB, hg, hfz, hcell⟩ := own_some dv_len (by decide) (by simp) ho
  cases e
  have x1 : (bs ++ [xx, xx])[bs.length]? = some xx := by rw [List.getElem?_append_right (Nat.le_refl _)]; simp
  have x2 : (bs ++ [xx, xx])[bs.length + 1]? = some xx := by rw [List.getElem?_append_right (by omega)]; simp
  have c1 : w.cell? ⟨g, bs.length * 2, none⟩ = some (.string ByteArray.empty) := hcell _ 0 xx _ x1 (by decide) rfl
  have c2 : w.cell? ⟨g, bs.length * 2 + 1, none⟩ = some (.string ⟨#[120]⟩) := hcell _ 1 xx _ x1 (by decide) rfl
  have c3 : w.cell? ⟨g, (bs.length + 1) * 2, none⟩ = some (.string ByteArray.empty) := hcell _ 0 xx _ x2 (by decide) rfl
  have c4 : w.cell? ⟨g, (bs.length + 1) * 2 + 1, none⟩ = some (.string ⟨#[120]⟩) := hcell _ 1 xx _ x2 (by decide) rfl
  clear hcell x1 x2 ho hfz hr
  go_enter Try.func12, Try.ntmps12
  go_wp2_with fail
  refine (unhide HS).mono ?_
  rintro e w1 ⟨rfl, q1⟩
  have d1 := (q1.cell (p := ⟨g, bs.length * 2, none⟩) hg).trans c1
  have d2 := (q1.cell (p := ⟨g, bs.length * 2 + 1, none⟩) hg).trans c2
  have d3 := (q1.cell (p := ⟨g, (bs.length + 1) * 2, none⟩) hg).trans c3
  have d4 := (q1.cell (p := ⟨g, (bs.length + 1) * 2 + 1, none⟩) hg).trans c4
  have n0 : (0 : Int) ≤ (bs.length : Int) := Int.natCast_nonneg _
  clear c1 c2 c3 c4
  go_wp2_with fail
  go_ret
  exact ⟨rfl, q1⟩

end Go.Proofs.Ytdkbjbcchpenaaa
