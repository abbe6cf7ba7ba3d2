/- May an edge be, as package edges' May answers; the conditions: the edge lies in memory, no text is longer than a string can be. -/
import Derived.Test.YtbfhliocckkbmaaDoorGfList
import Derived.Test.YtbfhliocckkbmaaDoorNmMay
namespace Go.Proofs.YtbfhliocckkbmaaDoor
open Go.RowKit

/-- The four rows of an edge, and how they lie in a row of rows. -/
def foL (x : EdA) : List (Ws × Pa) := [(x.1.1, x.2.1), (x.1.2.1, x.2.2.1), (x.1.2.2.1, x.2.2.2.1), (x.1.2.2.2.1, x.2.2.2.2)]
def sv (y : Ws × Pa) : List Value := [.slice y.2.1 y.1.length y.2.2]
theorem sv_len (y : Ws × Pa) : (sv y).length = 1 := rfl
theorem fo_all {w : World} {x : EdA} (h : EdRd w x) (hz : EdZ x.1) : ∀ y ∈ foL x, RowT w y.2.1 y.1 ∧ WsZ y.1 := by
  intro y hy
  unfold foL at hy
  simp only [List.mem_cons, List.not_mem_nil, or_false] at hy
  rcases hy with rfl | rfl | rfl | rfl
  · exact ⟨h.a, hz.a⟩
  · exact ⟨h.b, hz.b⟩
  · exact ⟨h.c, hz.c⟩
  · exact ⟨h.d, hz.d⟩
theorem ed_four (x : EdA) (h0 : x.1.1 ≠ []) : edOk x.1 = ((foL x).all (fun y => ptsB y.1) && (cmB x.1.2.2.2.2.1 && plB x.1.2.2.2.2.2.2)) := by
  unfold edOk foL
  have : x.1.1.isEmpty = false := by cases h : x.1.1 with | nil => exact absurd h h0 | cons a b => rfl
  rw [this]
  simp only [List.all_cons, List.all_nil, Bool.not_false, Bool.true_and, Bool.and_true, Bool.and_assoc]
theorem ed_none {e : Ed} (h0 : e.1 = []) : edOk e = false := by unfold edOk; rw [h0]; rfl
theorem ed_nocm {e : Ed} (h0 : e.2.2.2.2.1 = []) : edOk e = false := by
  unfold edOk
  have : cmB e.2.2.2.2.1 = false := by unfold cmB; rw [h0]; rfl
  rw [this]; simp

def bx2' (w : World) (x : EdA) : World := (bx1' w x).alloc (.cells #[.slice x.2.1.1 x.1.1.length x.2.1.2, .slice x.2.2.1.1 x.1.2.1.length x.2.2.1.2, .slice x.2.2.2.1.1 x.1.2.2.1.length x.2.2.2.1.2, .slice x.2.2.2.2.1 x.1.2.2.2.1.length x.2.2.2.2.2] 22)
theorem bx2_facts (w : World) (x : EdA) : Blk (bx2' w x) w.heap.size (ev x).toArray 24 ∧ RowG sv 1 (bx2' w x) (some ⟨w.heap.size + 1, 0, none⟩) (foL x) ∧ Q w (bx2' w x) := by
  refine ⟨(Blk.new w _ _).q ((Q.refl _).alloc _), ?_, ((Q.refl w).alloc _).alloc _⟩
  have h : Blk (bx2' w x) (bx1' w x).heap.size _ 22 := Blk.new (bx1' w x) _ _
  rw [show (bx1' w x).heap.size = w.heap.size + 1 from size_alloc _ _] at h
  exact rowB sv_len h (foL x) rfl

set_option maxRecDepth 20000 in
set_option maxHeartbeats 4000000 in
theorem edMay_any (x : EdA) (w : World) (hx : EdRd w x) (hz : EdZ x.1) :
    Calls Tryd.prog 14 #[edV' x] w fun e w' => e = .returned (.bool (edOk x.1)) ∧ Q w w' := by
  have qb1 : Q w (bx1' w x) := (Q.refl w).alloc _
  by_cases h0 : x.1.1 = []
  · have HO : Hid (edOk x.1 = false) := ed_none h0
    have h0' : x.1.1.length = 0 := by rw [h0]; rfl
    have hl : ((x.1.1.length : Int) == 0) = true := by rw [h0']; rfl
    have b1 : Blk (bx1' w x) w.heap.size (ev x).toArray 24 := Blk.new w _ _
    clear h0 h0' hx hz
    go_enter Tryd.func14, Tryd.ntmps14
    go_wp2_with fail
    go_ret
    exact ⟨ret_bool HO.out.symm, qb1⟩
  have hl : ((x.1.1.length : Int) == 0) = false := beq_eq_false_iff_ne.2 (by have := List.length_pos_iff.2 h0; omega)
  by_cases hc : bl (⟨x.1.2.2.2.2.1.toArray⟩ : ByteArray) = []
  · have HO : Hid (edOk x.1 = false) := ed_nocm hc
    have g1 := is_emp hc
    clear h0 hc hx hz
    unfold edV'
    generalize (⟨x.1.2.2.2.2.1.toArray⟩ : ByteArray) = c1 at *
    go_enter Tryd.func14, Tryd.ntmps14
    go_wp2_with fail
    go_ret
    exact ⟨ret_bool HO.out.symm, (Q.refl w).alloc _⟩
  have g1 := no_emp hc
  have HF := hide (ed_four x h0)
  have HNC : Hid (x.1.2.2.2.2.1 ≠ []) := hc
  have HX := hide (fo_all hx hz)
  have HK := hide hz.k
  have HP := hide hz.p
  obtain ⟨b1, r1, qb⟩ := bx2_facts w x
  have HB1 := hide (fun w2 (q : Q (bx2' w x) w2) => b1.q q)
  have HR1 := hide r1
  have h4 : (foL x).length = 4 := rfl
  clear h0 hc hx hz b1 r1
  have hcmd : x.1.2.2.2.2.1.isEmpty = false := by rw [bl_toList] at g1; exact g1
  go_enter Tryd.func14, Tryd.ntmps14
  go_wp2_with fail
  change Code.wp _ _ _ _ (bx2' w x)
  generalize bx2' w x = wb at *
  generalize hX : w.heap.size = X at HB1 HR1 ⊢
  clear hX hl g1 hcmd
  go_loopw [24] (fun i wr => ∃ k : Nat, k ≤ 4 ∧ i = .int .i64 k ∧ Hid (((foL x).take k).all (fun y => ptsB y.1) = true) ∧ Q wb wr) (fun i _ => 4 - (intOf i).toNat)
  case atStart => exact ⟨0, Nat.zero_le _, rfl, rfl, Q.refl _⟩
  case round =>
    obtain ⟨k, hk, rfl, HA, hq⟩ := hrel
    by_cases hlt : k < 4
    · rcases (unhide HR1).q hq with he | ⟨g, o, e1, hg, hcell⟩
      · exact absurd he (by unfold foL; simp)
      · cases e1
        obtain ⟨b, hb⟩ : ∃ b, (foL x)[k]? = some b := ⟨(foL x)[k], List.getElem?_eq_getElem hlt⟩
        have c1 : wr.cell? ⟨X + 1, k, none⟩ = some (.slice b.2.1 b.1.length b.2.2) := by have := hcell k 0 b _ hb (by decide) rfl; simpa using this
        obtain ⟨r1, z1⟩ := unhide HX b (List.mem_of_getElem? hb)
        have HC := hide (list_any b.1 b.2.1 b.2.2 wr (r1.q (qb.trans hq)) z1)
        have HT := hide (all_succ (fun y : Ws × Pa => ptsB y.1) hb)
        have HN := hide (fun h => all_no (p := fun y : Ws × Pa => ptsB y.1) hb h)
        clear hcell hb r1 z1
        cases hok : ptsB b.1
        · have HO : Hid (edOk x.1 = false) := by show _ = false; rw [unhide HF, unhide HN hok]; rfl
          rw [hok] at HC
          clear hok HT HN HA
          go_wp2_with fail
          refine (unhide HC).mono ?_
          rintro e w1 ⟨rfl, q1⟩
          go_wp2_with fail
          go_ret
          exact ⟨ret_bool HO.out.symm, qb.trans (hq.trans q1)⟩
        · have HO : Hid (((foL x).take (k + 1)).all (fun y => ptsB y.1) = true) := by show _ = true; rw [unhide HT, HA.out, hok]; rfl
          rw [hok] at HC
          clear hok HT HN HA
          go_wp2_with fail
          refine (unhide HC).mono ?_
          rintro e w1 ⟨rfl, q1⟩
          go_wp2_with fail
          go_roundw
          case rel => exact ⟨k + 1, by omega, by go_num, HO, hq.trans q1⟩
          case measure => simp [intOf]; omega
    · have HO : Hid (edOk x.1 = (cmB x.1.2.2.2.2.1 && plB x.1.2.2.2.2.2.2)) := by
        show _ = _
        have h1 := HA.out
        rw [List.take_of_length_le (by show 4 ≤ k; omega)] at h1
        rw [unhide HF, h1]; rfl
      have c4 : ∀ w2, Q wr w2 → w2.cell? ⟨X, 4, none⟩ = some (.string ⟨x.1.2.2.2.2.1.toArray⟩) := fun w2 q => (unhide HB1 _ (hq.trans q)).cell 4 rfl
      have c6 : ∀ w2, Q wr w2 → w2.cell? ⟨X, 6, none⟩ = some (.string ⟨x.1.2.2.2.2.2.2.toArray⟩) := fun w2 q => (unhide HB1 _ (hq.trans q)).cell 6 rfl
      have HC4 := hide c4
      have HC6 := hide c6
      have c4' := c4 wr (Q.refl _)
      have hsz : (⟨x.1.2.2.2.2.1.toArray⟩ : ByteArray).size = x.1.2.2.2.2.1.length := mk_size' _
      have HM := hide (pmay_any ⟨x.1.2.2.2.2.1.toArray⟩ 256 wr (by rw [hsz]; exact unhide HK))
      have HCB : Hid ((decide (((⟨x.1.2.2.2.2.1.toArray⟩ : ByteArray).size : Int) ≤ 256) && plainL (bl ⟨x.1.2.2.2.2.1.toArray⟩)) = cmB x.1.2.2.2.2.1) := by
        show _ = _
        unfold cmB
        rw [hsz, show bl ⟨x.1.2.2.2.2.1.toArray⟩ = x.1.2.2.2.2.1 from rfl]
        have hne : 1 ≤ x.1.2.2.2.2.1.length := List.length_pos_iff.2 (unhide HNC)
        rw [decide_eq_true hne, Bool.and_true, Bool.and_comm]
        congr 1
        exact decide_eq_decide.2 (by omega)
      rw [HCB.out] at HM
      clear hsz HCB c4 c6 HA
      generalize (⟨x.1.2.2.2.2.1.toArray⟩ : ByteArray) = cm at *
      cases hcm : cmB x.1.2.2.2.2.1
      · rw [hcm] at HM HO
        clear hcm
        go_wp2_with fail
        refine (unhide HM).mono ?_
        rintro e w1 ⟨rfl, q1⟩
        go_wp2_with fail
        go_ret
        exact ⟨ret_bool HO.out.symm, qb.trans (hq.trans q1)⟩
      · rw [hcm] at HM HO
        clear hcm
        have hpz : (⟨x.1.2.2.2.2.2.2.toArray⟩ : ByteArray).size ≤ maxLen := by rw [mk_size']; exact unhide HP
        have HNM := hide (fun w2 => may_any ⟨x.1.2.2.2.2.2.2.toArray⟩ w2 hpz)
        have HPB : Hid (plB x.1.2.2.2.2.2.2 = ((bl (⟨x.1.2.2.2.2.2.2.toArray⟩ : ByteArray)).isEmpty || mayB ⟨x.1.2.2.2.2.2.2.toArray⟩)) := by
          show _ = _
          unfold plB; rw [mayB_mayL]; rfl
        clear hpz
        generalize (⟨x.1.2.2.2.2.2.2.toArray⟩ : ByteArray) = pl at *
        go_wp2_with fail
        refine (unhide HM).mono ?_
        rintro e w1 ⟨rfl, q1⟩
        have c6' := unhide HC6 w1 q1
        by_cases hp0 : bl pl = []
        · have g2 := is_emp hp0
          have HR : Hid (edOk x.1 = true) := by show _ = _; rw [HO.out, HPB.out, hp0]; rfl
          clear hp0
          go_wp2_with fail
          go_ret
          exact ⟨ret_bool HR.out.symm, qb.trans (hq.trans q1)⟩
        · have g2 := no_emp hp0
          have HR : Hid (edOk x.1 = mayB pl) := by
            show _ = _
            have : (bl pl).isEmpty = false := by cases h : bl pl with | nil => exact absurd h hp0 | cons a b => rfl
            rw [HO.out, HPB.out, this]; rfl
          clear hp0 HPB HO
          go_wp2_with fail
          refine (unhide HNM _).mono ?_
          rintro e w2 ⟨rfl, q2⟩
          go_wp2_with fail
          go_ret
          exact ⟨ret_bool HR.out.symm, qb.trans (hq.trans (q1.trans q2))⟩

end Go.Proofs.YtbfhliocckkbmaaDoor
