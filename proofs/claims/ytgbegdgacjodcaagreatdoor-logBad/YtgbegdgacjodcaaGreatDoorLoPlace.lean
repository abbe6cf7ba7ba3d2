/- Where the last record of an output stands, as package log's place answers: the library's slices.Backward over records, a range over it that returns out of its body; the conditions: the records lie in memory, lengths. -/
import Derived.RangeFuncNested
import Derived.RangeFuncBound
import Derived.RangeFuncBox
import Derived.RangeFuncLeaves
import Derived.Shelf.Abstract
import Derived.Shelf.RegionOpen
import Derived.WalkKit
import Derived.OwnWalkIn
import Derived.TacticsInMore
import Derived.LoopNIn
import Derived.LoopIn
import Derived.Test.YtgbegdgacjodcaaGreatDoorLoState
import Derived.Test.YtgbegdgacjodcaaGreatDoorBdPlain
namespace Go.Proofs.YtgbegdgacjodcaaGreatDoor
open Go.RowKit Go.Shelf
attribute [local go_sem] Oper.semAt_some

/-- What has come when k rounds are over, from the last one on. -/
def bwL (rs : Rs) (k : Nat) : List (Nat × Rc) := (List.range k).map fun j => (rs.length - 1 - j, rs[rs.length - 1 - j]?.getD ([], 0, []))
theorem bwL_succ (rs : Rs) (k : Nat) : bwL rs (k + 1) = bwL rs k ++ [(rs.length - 1 - k, rs[rs.length - 1 - k]?.getD ([], 0, []))] := by simp [bwL, List.range_succ]
theorem bwL_len (rs : Rs) (k : Nat) : (bwL rs k).length = k := by simp [bwL]
theorem bwL_next {rs : Rs} {m : Nat} {r : Rc} (h : rs[m]? = some r) : bwL rs (rs.length - m) = bwL rs (rs.length - (m + 1)) ++ [(m, r)] := by
  have hlt := (List.getElem?_eq_some_iff.1 h).1
  obtain ⟨k, hk⟩ : ∃ k, k = rs.length - (m + 1) := ⟨_, rfl⟩
  have e1 : rs.length - m = k + 1 := by omega
  have e2 : rs.length - 1 - k = m := by omega
  rw [e1, ← hk, bwL_succ, e2, h]; rfl

/-- What a round keeps: what lay below n₀, and the box in which the row stands. -/
def KpB (n₀ Bs : Nat) (A B : World) : Prop := Below n₀ A B ∧ ∀ v, Boxed A Bs 22 v → Boxed B Bs 22 v
theorem kpB_t {n₀ Bs : Nat} {A B C : World} (h : KpB n₀ Bs A B) (k : KpB n₀ Bs B C) : KpB n₀ Bs A C := ⟨h.1.trans k.1, fun v hv => k.2 v (h.2 v hv)⟩
theorem kpB_refl (n₀ Bs : Nat) (A : World) : KpB n₀ Bs A A := ⟨Below.refl _ _, fun _ h => h⟩
theorem kpB_b {n₀ Bs : Nat} {w : World} (hn : n₀ ≤ w.heap.size) (W : World) (l : Nat) (o o' : Obj) (hl : w.heap.size ≤ l) (h : W.heap[l]? = some o) (hc : o.isCells = false) (hk : o.isWalk = false) : KpB n₀ Bs W (W.putObj l o') :=
  ⟨belowK_b hn W l o o' hl h hc hk, fun v hv => hv.kept (grownBy_putObj' W l o') (fun e => by
    cases e
    rw [show W.heap[Bs]? = some (.cells #[v] 22 (0, 0)) from hv] at h
    cases h
    cases hc)⟩

set_option maxRecDepth 100000 in
set_option maxHeartbeats 2000000 in
theorem bw1_in (F : Fence) (n : Nat) (h8 : F.fn 56) (hro : F.round = none) (hn : 1 ≤ n) (l Bs n₀ b off cap : Nat) (rs : Rs) (hreach : rs.length ≤ 140737488355328) (hb : b < n₀) (J Jx : List (Nat × Rc) → World → Prop)
    (hY : ∀ pre x W, J pre W → pre.length < rs.length → YieldAt F (n - 1) Tryz.prog l #[.int .i64 (x.1 : Int), rcV x.2] W fun e W' =>
      (e = .returned (.bool true) ∧ J (pre ++ [x]) W' ∧ KpB n₀ Bs W W') ∨ (e = .returned (.bool false) ∧ Jx (pre ++ [x]) W'))
    (W : World) (hBs : Boxed W Bs 22 (.slice (some ⟨b, off, none⟩) rs.length cap))
    (hc : ∀ j i x v, rs[j]? = some x → i < 3 → (rv x)[i]? = some v → W.cell? ⟨b, off + j * 3 + i, none⟩ = some v) (h0 : J [] W) :
    CallsIn F n Tryz.prog 56 #[.func (.yield l) #[] #[], .pointer (some ⟨Bs, 0, none⟩)] W fun e W' => (∃ v, e = .returned v) ∧
      ((∃ ys, ys = bwL rs rs.length ∧ J ys W') ∨ (∃ pre, (∃ k, k ≤ rs.length ∧ pre = bwL rs k) ∧ Jx pre W')) := by
  refine callsIn_of_wp Tryz.func56 rfl h8 ?_ hro
  simp only [Tryz.ntmps56, List.size_toArray, List.length_cons, List.length_nil, Nat.reduceAdd, Nat.reduceSub, Array.replicate_succ, Array.replicate_zero, List.push_toArray, List.append_toArray, List.nil_append, List.cons_append]
  have e0 : IntKind.i64.wrap ((rs.length : Int) - 1) = (rs.length : Int) - 1 := by rw [IntKind.wrap_i64]; omega
  have hBc := hBs.cell
  gi_wp2
  clear hBc
  gi_loopw [3] (fun i wr => ∃ m : Nat, m ≤ rs.length ∧ i = .int .i64 ((m : Int) - 1) ∧ J (bwL rs (rs.length - m)) wr ∧ KpB n₀ Bs W wr)
    (fun i _ => (intOf i + 1).toNat)
  case atStart => exact ⟨rs.length, Nat.le_refl _, rfl, by rw [Nat.sub_self]; exact h0, kpB_refl _ _ _⟩
  case round =>
    obtain ⟨m, hm, rfl, hJs, hnx⟩ := hrel
    have hBs' := (hnx.2 _ hBs).cell
    rcases m with _ | m
    · have e1 : (((0 : Nat) : Int) - 1) = -1 := rfl
      rw [e1, Nat.sub_zero] at *
      gi_wp2
      go_end0
      exact ⟨⟨_, rfl⟩, .inl hJs⟩
    · have e1 : (((m + 1 : Nat) : Int) - 1) = (m : Int) := by omega
      rw [e1]
      obtain ⟨r, hr⟩ : ∃ r, rs[m]? = some r := ⟨rs[m], List.getElem?_eq_getElem (by omega)⟩
      have HN := hide (bwL_next hr)
      obtain ⟨fn, tmps, assign, body, hy, hR⟩ := hY _ (m, r) wr hJs (by rw [bwL_len]; omega)
      rw [← unhide HN] at hR
      dsimp only at hy
      have c0 : wr.cell? ⟨b, off + m * 3, none⟩ = some (.string ⟨r.1.toArray⟩) := (hnx.1.cell (p := ⟨b, off + m * 3, none⟩) hb).trans (hc m 0 r _ hr (by decide) rfl)
      have c1 : wr.cell? ⟨b, off + m * 3 + 1, none⟩ = some (.int .i64 r.2.1) := (hnx.1.cell (p := ⟨b, off + m * 3 + 1, none⟩) hb).trans (hc m 1 r _ hr (by decide) rfl)
      have c2 : wr.cell? ⟨b, off + m * 3 + 2, none⟩ = some (.string ⟨r.2.2.toArray⟩) := (hnx.1.cell (p := ⟨b, off + m * 3 + 2, none⟩) hb).trans (hc m 2 r _ hr (by decide) rfl)
      have hm0 : (0 : Int) ≤ (m : Int) := Int.natCast_nonneg _
      have hm1 : (m : Int) < (rs.length : Int) := by omega
      have e2 : IntKind.i64.wrap ((m : Int) - 1) = (m : Int) - 1 := by rw [IntKind.wrap_i64]; omega
      unfold rcV at hy
      clear hJs hr e1
      gi_wp2
      refine hR.mono ?_
      rintro e W3 (⟨rfl, hJ3, hk3⟩ | ⟨rfl, hJx3⟩)
      · clear c0 c1 c2
        gi_wp2
        go_roundw
        case rel => exact ⟨m, by omega, rfl, hJ3, kpB_t hnx hk3⟩
        case measure => simp [intOf]
      · gi_wp2
        refine bodyPost_ret (results_none rfl _ _ _) rfl ?_
        exact ⟨⟨_, rfl⟩, .inr ⟨_, ⟨rs.length - m, by omega, rfl⟩, hJx3⟩⟩

set_option maxRecDepth 100000 in
set_option maxHeartbeats 1000000 in
/-- Of an empty row: no round. -/
theorem bw1_nil_in (F : Fence) (n : Nat) (h8 : F.fn 56) (hro : F.round = none) (l Bs : Nat) (ao : Option Addr) (cap : Nat) (J : List (Nat × Rc) → World → Prop) (W : World) (hBs : W.cell? ⟨Bs, 0, none⟩ = some (.slice ao 0 cap)) (h0 : J [] W) :
    CallsIn F n Tryz.prog 56 #[.func (.yield l) #[] #[], .pointer (some ⟨Bs, 0, none⟩)] W fun e W' => (∃ v, e = .returned v) ∧ J [] W' := by
  refine callsIn_of_wp Tryz.func56 rfl h8 ?_ hro
  simp only [Tryz.ntmps56, List.size_toArray, List.length_cons, List.length_nil, Nat.reduceAdd, Nat.reduceSub, Array.replicate_succ, Array.replicate_zero, List.push_toArray, List.append_toArray, List.nil_append, List.cons_append]
  gi_wp2
  gi_loopw [3] (fun i wr => i = .int .i64 (-1) ∧ J [] wr) (fun _ _ => 0)
  case atStart => exact ⟨rfl, h0⟩
  case round =>
    obtain ⟨rfl, hJs⟩ := hrel
    gi_wp2
    go_end0
    exact ⟨⟨_, rfl⟩, hJs⟩

set_option maxHeartbeats 1000000 in
theorem bw_in (F : Fence) (n : Nat) (h6 : F.fn 42) (hro : F.round = none) (a : Option Addr) (len cap : Nat) (w : World) :
    CallsIn F n Tryz.prog 42 #[.slice a len cap] w fun e w' => e = .returned (.func (.func 56) #[] #[.pointer (some ⟨w.heap.size, 0, none⟩)]) ∧ w' = w.alloc (.cells #[.slice a len cap] 22) := by
  refine callsIn_of_wp Tryz.func42 rfl h6 ?_ hro
  simp only [Tryz.ntmps42, List.size_toArray, List.length_cons, List.length_nil, Nat.reduceAdd, Nat.reduceSub, Array.replicate_succ, Array.replicate_zero, List.push_toArray, List.append_toArray, List.nil_append, List.cons_append]
  gi_wp2
  go_ret
  exact ⟨rfl, rfl⟩

theorem bw_stops (F : Fence) (n : Nat) (h8 : F.fn 56) (hro : F.round = none) (hn : 1 ≤ n) (Bs : Nat) (ao : Option Addr) (cap : Nat) (rs : Rs) (hreach : rs.length ≤ 140737488355328) (w0 w : World) (hb0 : Below w0.heap.size w0 w)
    (hc : Boxed w Bs 22 (.slice ao rs.length cap)) (hr : RowR w0 ao rs) :
    SeqStopsK F n Tryz.prog 56 #[.pointer (some ⟨Bs, 0, none⟩)] (fun x : Nat × Rc => #[Value.int .i64 (x.1 : Int), rcV x.2]) (KpB w0.heap.size Bs) (fun ys => ys = bwL rs rs.length)
      (fun pre => ∃ k, k ≤ rs.length ∧ pre = bwL rs k) rs.length w := fun l J Jx W hW _ _ hY h0 => by
  have hc' : Boxed W Bs 22 (.slice ao rs.length cap) := (hW.block Bs hc.lt).trans hc
  have hbW : Below w0.heap.size w0 W := hb0.trans (hW.mono hb0.size)
  rcases hr with he | ⟨g, o, rfl, hg, hcell⟩
  · subst he
    exact (bw1_nil_in F n h8 hro l Bs ao cap J W hc'.cell h0).mono fun e W' ⟨he, hj⟩ => ⟨he, .inl ⟨_, rfl, hj⟩⟩
  · exact bw1_in F n h8 hro hn l Bs w0.heap.size g o cap rs hreach hg J Jx hY W hc' (fun j i x v h1 h2 h3 => (hbW.cell (p := ⟨g, o + j * 3 + i, none⟩) hg).trans (by rw [Nat.add_assoc]; exact hcell j i x v h1 h2 h3)) h0

end Go.Proofs.YtgbegdgacjodcaaGreatDoor
