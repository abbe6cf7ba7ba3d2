/- Where the last record of an output stands, as package log's place answers; the conditions: the records lie in memory, lengths. -/
import Derived.Test.YtgbegdgacjodcaaGreatDoorLoPlace
namespace Go.Proofs.YtgbegdgacjodcaaGreatDoor
open Go.RowKit Go.Shelf
attribute [local go_sem] Oper.semAt_some

theorem bwL_mem {rs : Rs} {k : Nat} (hk : k ≤ rs.length) {x : Rc} (h : x ∈ rs.drop (rs.length - k)) : ∃ p ∈ bwL rs k, p.2 = x := by
  obtain ⟨i, hi⟩ := List.mem_iff_getElem?.1 h
  rw [List.getElem?_drop] at hi
  have hlt := (List.getElem?_eq_some_iff.1 hi).1
  refine ⟨(rs.length - k + i, x), ?_, rfl⟩
  unfold bwL
  refine List.mem_map.2 ⟨rs.length - 1 - (rs.length - k + i), List.mem_range.2 (by omega), ?_⟩
  have e : rs.length - 1 - (rs.length - 1 - (rs.length - k + i)) = rs.length - k + i := by omega
  rw [e, hi]; rfl
theorem bw_done {rs : Rs} {n : Tx} (h : ∀ p ∈ bwL rs rs.length, p.2.1 ≠ n) : PlSays rs n 0 false := by
  refine Or.inr ⟨rfl, rfl, fun x hx => ?_⟩
  obtain ⟨p, hp, rfl⟩ := bwL_mem (Nat.le_refl _) (x := x) (by rw [Nat.sub_self]; exact hx)
  exact h p hp
theorem bw_stop {rs : Rs} {n : Tx} {k : Nat} {ini : List (Nat × Rc)} {last : Nat × Rc} (hk : k ≤ rs.length) (e : bwL rs k = ini ++ [last]) (hi : ∀ p ∈ ini, p.2.1 ≠ n) (hl : last.2.1 = n) : PlSays rs n last.1 true := by
  obtain ⟨j, rfl⟩ : ∃ j, k = j + 1 := by
    cases k with
    | zero => simp [bwL] at e
    | succ j => exact ⟨j, rfl⟩
  rw [bwL_succ] at e
  obtain ⟨rfl, e5⟩ := List.append_inj' e rfl
  obtain rfl : _ = last := by simpa using e5
  have hlt : rs.length - 1 - j < rs.length := by omega
  have hg : rs[rs.length - 1 - j]? = some rs[rs.length - 1 - j] := List.getElem?_eq_getElem hlt
  dsimp only at hl ⊢
  rw [hg] at hl
  refine Or.inl ⟨rfl, _, hg, hl, fun x hx => ?_⟩
  obtain ⟨p, hp, rfl⟩ := bwL_mem (rs := rs) (k := j) (by omega) (x := x) (by rw [show rs.length - j = rs.length - 1 - j + 1 by omega]; exact hx)
  exact hi p hp

/-- The box that a round lays for its record. -/
abbrev rbW (W : World) (r : Rc) : World := bxR W ⟨r.1.toArray⟩ r.2.1 ⟨r.2.2.toArray⟩
theorem rbW_q (W : World) (r : Rc) : Below W.heap.size W (rbW W r) := bxR_q _ _ _ _
theorem rbW_k (W : World) (r : Rc) : KeepsOthers W (rbW W r) := KeepsOthers.alloc W _
theorem rbW_c (W : World) (r : Rc) : (rbW W r).cell? ⟨W.heap.size, 0, none⟩ = some (.string ⟨r.1.toArray⟩) := (bxR_at (Q.refl _)).1

set_option maxRecDepth 100000 in
set_option maxHeartbeats 4000000 in
theorem place_in (F : Fence) (n : Nat) (h4 : F.fn 29) (h6 : F.fn 42) (h8 : F.fn 56) (hro : F.round = none) (hn : 3 ≤ n)
    (rs : Rs) (out : ByteArray) (ao : Option Addr) (cap : Nat) (w : World) (hr : RowR w ao rs) (hs : rs.length ≤ 140737488355328) :
    CallsIn F n Tryz.prog 29 #[.slice ao rs.length cap, .string out] w fun e W' => (∃ (i : Nat) (b : Bool), e = .returned (.tuple #[.int .i64 (i : Int), .bool b]) ∧ PlSays rs (bl out) i b) ∧ Below w.heap.size w W' := by
  have h1 : 1 ≤ n := by omega
  refine callsIn_of_wp_marks Tryz.func29 rfl h4 ?_ hro
  simp only [Tryz.ntmps29, List.size_toArray, List.length_cons, List.length_nil, Nat.reduceAdd, Nat.reduceSub, Array.replicate_succ, Array.replicate_zero, List.push_toArray, List.append_toArray, List.nil_append, List.cons_append]
  gi_wp2_with (gi_at_call 42; refine (bw_in F (n - 1) h6 hro _ _ _ _).mono ?_; rintro e w' ⟨rfl, rfl⟩)
  have bO := (((Boxed.new w 9 (.string out)).alloc (.cells #[.int .i64 0] 3)).alloc (.cells #[.bool false] 4)).alloc (.cells #[.slice ao rs.length cap] 22)
  have bI := ((Boxed.new (w.alloc (.cells #[.string out] 9)) 3 (.int .i64 0)).alloc (.cells #[.bool false] 4)).alloc (.cells #[.slice ao rs.length cap] 22)
  have bB := (Boxed.new ((w.alloc (.cells #[.string out] 9)).alloc (.cells #[.int .i64 0] 3)) 4 (.bool false)).alloc (.cells #[.slice ao rs.length cap] 22)
  have bS := Boxed.new (((w.alloc (.cells #[.string out] 9)).alloc (.cells #[.int .i64 0] 3)).alloc (.cells #[.bool false] 4)) 22 (.slice ao rs.length cap)
  simp only [World.size_alloc] at bI bB bS
  have hB0 : Below w.heap.size w ((((w.alloc (.cells #[.string out] 9)).alloc (.cells #[.int .i64 0] 3)).alloc (.cells #[.bool false] 4)).alloc (.cells #[.slice ao rs.length cap] 22)) := ((((Below.refl _ w).alloc (Nat.le_refl _) _).alloc (by simp) _).alloc (by simp; omega) _).alloc (by simp; omega) _
  have hsz : ((((w.alloc (.cells #[.string out] 9)).alloc (.cells #[.int .i64 0] 3)).alloc (.cells #[.bool false] 4)).alloc (.cells #[.slice ao rs.length cap] 22)).heap.size = w.heap.size + 4 := by simp
  obtain ⟨W0, hW0⟩ : ∃ W0, (((w.alloc (.cells #[.string out] 9)).alloc (.cells #[.int .i64 0] 3)).alloc (.cells #[.bool false] 4)).alloc (.cells #[.slice ao rs.length cap] 22) = W0 := ⟨_, rfl⟩
  rw [hW0] at bO bI bB bS hB0 hsz ⊢
  clear hW0
  refine wpIn_rangeFunc_ownH hro h1 (gf := 56) (lb := #[.pointer (some ⟨w.heap.size + 1 + 1 + 1, 0, none⟩)]) rfl h8 (enters_of Tryz.func56 (by kernel_rfl) rfl)
    (bw_stops F (n - 1) h8 hro (by omega) (w.heap.size + 1 + 1 + 1) ao cap rs hs w W0 hB0 bS hr) kpB_t (kpB_b (by omega)) (Below.refl _ _) (fun _ => rfl)
    (fun pre W => ((∀ p ∈ pre, p.2.1 ≠ bl out) ∧ Boxed W w.heap.size 9 (.string out) ∧ Boxed W (w.heap.size + 1) 3 (.int .i64 0) ∧ Boxed W (w.heap.size + 1 + 1) 4 (.bool false)) ∧ Below w.heap.size w W)
    (fun c pre W => (c = .ret ∧ ∃ ini last, pre = ini ++ [last] ∧ (∀ p ∈ ini, p.2.1 ≠ bl out) ∧ last.2.1 = bl out ∧ Boxed W (w.heap.size + 1) 3 (.int .i64 (last.1 : Int)) ∧ Boxed W (w.heap.size + 1 + 1) 4 (.bool true)) ∧ Below w.heap.size w W)
    (OwnFrom.and (Own.from (fun s A B row hs hg hr => ⟨hs.1, boxed_own _ _ (fun (_ : Unit) => Value.string out) () A B row hs.2.1 hg hr, boxed_own _ _ (fun (_ : Unit) => Value.int .i64 0) () A B row hs.2.2.1 hg hr, boxed_own _ _ (fun (_ : Unit) => Value.bool false) () A B row hs.2.2.2 hg hr⟩) _) (ownFrom_below (Nat.le_refl _) (by omega)))
    (fun c => OwnFrom.and (Own.from (fun s A B row hs hg hr => by
      obtain ⟨hc, ini, last, e1, e2, e3, e4, e5⟩ := hs
      exact ⟨hc, ini, last, e1, e2, e3, boxed_own _ _ (fun (_ : Unit) => Value.int .i64 (last.1 : Int)) () A B row e4 hg hr, boxed_own _ _ (fun (_ : Unit) => Value.bool true) () A B row e5 hg hr⟩) _) (ownFrom_below (Nat.le_refl _) (by omega)))
    ⟨⟨by simp, bO, bI, bB⟩, hB0⟩
    (fun x a' W => ∃ Bx, W.cell? ⟨Bx, 0, none⟩ = some (.string ⟨x.2.1.toArray⟩) ∧ a' = { tmps := #[.slice ao rs.length cap, .string out, undef, .pointer (some ⟨w.heap.size, 0, none⟩), .pointer (some ⟨w.heap.size + 1, 0, none⟩), .pointer (some ⟨w.heap.size + 1 + 1, 0, none⟩), .int .i64 (x.1 : Int), .pointer (some ⟨Bx, 0, none⟩), .slice ao rs.length cap, .func (.func 56) #[] #[.pointer (some ⟨w.heap.size + 1 + 1 + 1, 0, none⟩)], .int .i64 (x.1 : Int), rcV x.2, undef, undef, undef, undef, undef], defers := [] })
    (fun x a' _ X Y row hs hg hr => by obtain ⟨Bx, h2, h3⟩ := hs; exact ⟨Bx, cell_kept h2 hg (fun r e => (hr r e).2), h3⟩)
    ?assign ?body ?done ?stop
  case assign =>
    rintro l pre x W K ⟨⟨hp, bO1, bI1, bB1⟩, hB1⟩ hK
    have hK' := hide (hK _ _ ((rbW_k W x.2).from _) ⟨(rbW_q W x.2).mono hB1.size, fun v hv => ((rbW_q W x.2).block _ hv.lt).trans hv⟩ ⟨⟨hp, ((rbW_q W x.2).block _ bO1.lt).trans bO1, ((rbW_q W x.2).block _ bI1.lt).trans bI1, ((rbW_q W x.2).block _ bB1.lt).trans bB1⟩, hB1.trans ((rbW_q W x.2).mono hB1.size)⟩ ⟨W.heap.size, rbW_c W x.2, rfl⟩)
    clear hK
    gi_wp2
    exact unhide hK'
  case body =>
    rintro l pre x a' W hl ⟨r, hrr⟩ ⟨⟨hp, bO1, bI1, bB1⟩, hB1⟩ ⟨Bx, hBx, rfl⟩ hlt
    have cO := bO1.cell
    have cI := bI1.cell
    have fI := bI1.frozen
    have cB := bB1.cell
    have fB := bB1.frozen
    have HX := txt_beq x.2.1 out
    have HB1 := hide hB1
    generalize (⟨x.2.1.toArray⟩ : ByteArray) = y1 at hBx HX
    cases hx : (x.2.1 == bl out)
    · rw [hx] at HX
      have hne : x.2.1 ≠ bl out := by simpa using hx
      gi_wp2
      exact ⟨KeepsFrom.refl _ _, kpB_refl _ _ _, ⟨fun p hp' => (List.mem_append.1 hp').elim (hp p) (fun e => by simp at e; subst e; exact hne), bO1, bI1, bB1⟩, hB1⟩
    · rw [hx] at HX
      have heq : x.2.1 = bl out := by simpa using hx
      gi_wp2
      refine ⟨((KeepsOthers.setCell _ _ _).trans (KeepsOthers.setCell _ _ _)).from _, ⟨rfl, pre, x, rfl, hp, heq, (bI1.set _).other (by omega) _, (bB1.other (by omega) _).set _⟩, (hB1.setCell (p := ⟨w.heap.size + 1, 0, none⟩) (by simp) _).setCell (p := ⟨w.heap.size + 1 + 1, 0, none⟩) (by simp; omega) _⟩
  case done =>
    rintro D ys W hD rfl ⟨⟨hp, bO1, bI1, bB1⟩, hB1⟩ hK
    have cI := bI1.cell
    have fI := bI1.frozen
    have cB := bB1.cell
    have fB := bB1.frozen
    have HS := hide (bw_done hp)
    have bI2 := (bI1.set (.int .i64 0)).other (B' := w.heap.size + 1 + 1) (by omega) (.bool false)
    have bB2 := (bB1.other (B' := w.heap.size + 1) (by omega) (.int .i64 0)).set (.bool false)
    have hK' := ((KeepsOthers.setCell W ⟨w.heap.size + 1, 0, none⟩ (.int .i64 0)).trans (KeepsOthers.setCell _ ⟨w.heap.size + 1 + 1, 0, none⟩ (.bool false))).same D _ hK rfl
    have hB2 := (hB1.setCell (p := ⟨w.heap.size + 1, 0, none⟩) (by simp) (.int .i64 0)).setCell (p := ⟨w.heap.size + 1 + 1, 0, none⟩) (by simp; omega) (.bool false)
    have H2 := hide (And.intro bI2 (And.intro bB2 (And.intro hK' hB2)))
    clear bI2 bB2 hK' hB2 hp
    gi_wp2
    obtain ⟨bI2, bB2, hK', hB2⟩ := unhide H2
    refine ⟨by simp, .inl ⟨_, _, rfl, run_takeDeferred hK', ?_⟩⟩
    have hc5 := cell_kept bI2.cell (grownBy_putObj' _ D (.deferred none)) (fun r e => by cases e; exact ⟨_, hK', rfl⟩)
    have hc6 := cell_kept bB2.cell (grownBy_putObj' _ D (.deferred none)) (fun r e => by cases e; exact ⟨_, hK', rfl⟩)
    refine ⟨.tuple #[.int .i64 0, .bool false], ?_, ⟨0, false, rfl, unhide HS⟩, hB2.trans (belowK_b (w := w) (Nat.le_refl _) _ D _ _ (by omega) hK' rfl rfl)⟩
    simp [results, Tryz.f29, go_sem, hc5, hc6]
  case stop =>
    rintro D c pre W hD ⟨k, hk, e0⟩ ⟨⟨rfl, ini, last, e1, e2, e3, bI2, bB2⟩, hB2⟩ hK
    have HS := hide (bw_stop hk (e0.symm.trans e1) e2 e3)
    gi_wp2
    refine ⟨by simp, .inl ⟨_, _, rfl, run_takeDeferred hK, ?_⟩⟩
    have hc5 := cell_kept bI2.cell (grownBy_putObj' _ D (.deferred none)) (fun r e => by cases e; exact ⟨_, hK, rfl⟩)
    have hc6 := cell_kept bB2.cell (grownBy_putObj' _ D (.deferred none)) (fun r e => by cases e; exact ⟨_, hK, rfl⟩)
    refine ⟨.tuple #[.int .i64 (last.1 : Int), .bool true], ?_, ⟨last.1, true, rfl, unhide HS⟩, hB2.trans (belowK_b (w := w) (Nat.le_refl _) _ D _ _ (by omega) hK rfl rfl)⟩
    simp [results, Tryz.f29, go_sem, hc5, hc6]

theorem place_any (rs : Rs) (out : ByteArray) (ao : Option Addr) (cap : Nat) (w : World) (hr : RowR w ao rs) (hs : rs.length ≤ 140737488355328) :
    Calls Tryz.prog 29 #[.slice ao rs.length cap, .string out] w fun e w' => (∃ (i : Nat) (b : Bool), e = .returned (.tuple #[.int .i64 (i : Int), .bool b]) ∧ PlSays rs (bl out) i b) ∧ Q w w' :=
  callsIn_wide.1 (place_in Fence.wide 6 trivial trivial trivial rfl (by decide) rs out ao cap w hr hs)

end Go.Proofs.YtgbegdgacjodcaaGreatDoor
