/- May a graph be, as the document's own GraphMay answers; the conditions: the graph lies in memory, no text is longer than a string can be. -/
import Derived.Test.YtbfhliocckkbmaaDoorGfRPth
namespace Go.Proofs.YtbfhliocckkbmaaDoor
open Go.RowKit

set_option maxHeartbeats 2000000 in
theorem rpts_any (ws : Ws) (ao : Option Addr) (cap : Nat) (w : World) (hr : RowT w ao ws) (hz : WsZ ws) :
    Calls Tryd.prog 26 #[.slice ao ws.length cap] w fun e w' => e = .returned (.bool (ptsB ws)) ∧ Q w w' := by
  have hn := hz.n
  have HZ := hide hz.t
  clear hz
  go_enter Tryd.func26, Tryd.ntmps26
  go_wp2_with fail
  go_loopw [3] (fun i wr => ∃ k : Nat, k ≤ ws.length ∧ i = .int .i64 k ∧ Q w wr ∧ Hid ((ws.take k).all pthB = true)) (fun i _ => ws.length - (intOf i).toNat)
  case atStart => exact ⟨0, Nat.zero_le _, rfl, Q.refl _, rfl⟩
  case round =>
    obtain ⟨k, hk, rfl, hq, HA⟩ := hrel
    by_cases hlt : k < ws.length
    · rcases hr.q hq with he | ⟨g, o, rfl, hg, hcell⟩
      · rw [he] at hlt; simp at hlt
      obtain ⟨b, hb⟩ : ∃ b, ws[k]? = some b := ⟨ws[k], List.getElem?_eq_getElem hlt⟩
      have c1 : wr.cell? ⟨g, o + k, none⟩ = some (.string ⟨b.toArray⟩) := by
        have := hcell k 0 b _ hb (by decide) rfl
        simpa using this
      have HC := hide (rpth_any ⟨b.toArray⟩ wr (by rw [mk_size']; exact unhide HZ b (List.mem_of_getElem? hb)))
      rw [show bl (⟨b.toArray⟩ : ByteArray) = b from rfl] at HC
      have HT := hide (all_succ pthB hb)
      have HN := hide (fun h => all_no (p := pthB) hb h)
      generalize (⟨b.toArray⟩ : ByteArray) = x1 at c1 HC
      clear hcell hb
      cases hok : pthB b
      · have HO : Hid (ptsB ws = false) := by show _ = false; unfold ptsB; rw [unhide HN hok]; simp
        rw [hok] at HC
        clear hok HT HN HA
        go_wp2_with fail
        refine (unhide HC).mono ?_
        rintro e w1 ⟨rfl, q1⟩
        go_wp2_with fail
        go_ret
        exact ⟨ret_bool HO.out.symm, hq.trans q1⟩
      · have HO : Hid ((ws.take (k + 1)).all pthB = true) := by show _ = true; rw [unhide HT, HA.out, hok]; rfl
        rw [hok] at HC
        clear hok HT HN HA
        go_wp2_with fail
        refine (unhide HC).mono ?_
        rintro e w1 ⟨rfl, q1⟩
        go_wp2_with fail
        go_roundw
        case rel => exact ⟨k + 1, by omega, by go_num, hq.trans q1, HO⟩
        case measure => simp [intOf]; omega
    · have HO : Hid (ptsB ws = decide ((ws.length : Int) ≤ 8)) := by
        show _ = _
        have h1 := HA.out
        rw [List.take_of_length_le (by omega)] at h1
        unfold ptsB
        rw [h1, Bool.and_true]
        exact decide_eq_decide.2 (by omega)
      clear HA
      go_wp2_with fail
      go_ret
      exact ⟨ret_bool HO.out.symm, hq⟩

def bxR (w : World) (x : EdA) : World := w.alloc (.cells (ev x).toArray 24)

set_option maxRecDepth 20000 in
set_option maxHeartbeats 8000000 in
theorem redge_any (x : EdA) (w : World) (hx : EdRd w x) (hz : EdZ x.1) :
    Calls Tryd.prog 18 #[.agg #[.slice x.2.1.1 x.1.1.length x.2.1.2, .slice x.2.2.1.1 x.1.2.1.length x.2.2.1.2, .slice x.2.2.2.1.1 x.1.2.2.1.length x.2.2.2.1.2, .slice x.2.2.2.2.1 x.1.2.2.2.1.length x.2.2.2.2.2, .string ⟨x.1.2.2.2.2.1.toArray⟩, .bool x.1.2.2.2.2.2.1, .string ⟨x.1.2.2.2.2.2.2.toArray⟩]] w fun e w' => e = .returned (.bool (edOk x.1)) ∧ Q w w' := by
  have S0 := hide (fun w2 (q : Q w w2) => rpts_any x.1.1 x.2.1.1 x.2.1.2 w2 (hx.a.q q) hz.a)
  have S1 := hide (fun w2 (q : Q w w2) => rpts_any x.1.2.1 x.2.2.1.1 x.2.2.1.2 w2 (hx.b.q q) hz.b)
  have S2 := hide (fun w2 (q : Q w w2) => rpts_any x.1.2.2.1 x.2.2.2.1.1 x.2.2.2.1.2 w2 (hx.c.q q) hz.c)
  have S3 := hide (fun w2 (q : Q w w2) => rpts_any x.1.2.2.2.1 x.2.2.2.2.1 x.2.2.2.2.2 w2 (hx.d.q q) hz.d)
  have hcs : (⟨x.1.2.2.2.2.1.toArray⟩ : ByteArray).size = x.1.2.2.2.2.1.length := mk_size' _
  have S4 : Hid (∀ w2, Calls Tryd.prog 27 #[.string ⟨x.1.2.2.2.2.1.toArray⟩, .int .i64 1, .int .i64 256] w2 fun e w' => e = .returned (.bool (cmB x.1.2.2.2.2.1)) ∧ w' = w2) := by
    show ∀ w2, _
    intro w2
    have h := rplain_any ⟨x.1.2.2.2.2.1.toArray⟩ 1 256 w2 (by rw [hcs]; exact hz.k)
    have e : (plainL (bl ⟨x.1.2.2.2.2.1.toArray⟩) && decide ((1 : Int) ≤ ((⟨x.1.2.2.2.2.1.toArray⟩ : ByteArray).size : Int)) && decide (((⟨x.1.2.2.2.2.1.toArray⟩ : ByteArray).size : Int) ≤ 256)) = cmB x.1.2.2.2.2.1 := by
      unfold cmB
      rw [hcs, show bl ⟨x.1.2.2.2.2.1.toArray⟩ = x.1.2.2.2.2.1 from rfl]
      rw [show decide ((1 : Int) ≤ (x.1.2.2.2.2.1.length : Int)) = decide (1 ≤ x.1.2.2.2.2.1.length) from decide_eq_decide.2 (by omega), show decide ((x.1.2.2.2.2.1.length : Int) ≤ 256) = decide (x.1.2.2.2.2.1.length ≤ 256) from decide_eq_decide.2 (by omega)]
    rwa [e] at h
  have S5 := hide (fun w2 => nameMay_any ⟨x.1.2.2.2.2.2.2.toArray⟩ w2 (by rw [mk_size']; exact hz.p))
  have HO : Hid (edOk x.1 = (!x.1.1.isEmpty && (ptsB x.1.1 && (ptsB x.1.2.1 && (ptsB x.1.2.2.1 && (ptsB x.1.2.2.2.1 && (cmB x.1.2.2.2.2.1 && ((bl (⟨x.1.2.2.2.2.2.2.toArray⟩ : ByteArray)).isEmpty || mayB ⟨x.1.2.2.2.2.2.2.toArray⟩)))))))) := by
    show _ = _
    unfold edOk plB; rw [mayB_mayL]; rfl
  have qb : Q w (bxR w x) := (Q.refl w).alloc _
  have b1 : Blk (bxR w x) w.heap.size (ev x).toArray 24 := Blk.new w _ _
  have HB1 := hide (fun w2 (q : Q (bxR w x) w2) => b1.q q)
  clear b1 hx hz hcs
  by_cases h0 : x.1.1 = []
  · have HR : Hid (edOk x.1 = false) := by show _ = _; rw [HO.out, h0]; rfl
    have hl : x.1.1.length = 0 := by rw [h0]; rfl
    have hl2 : ¬ ((0 : Int) < (x.1.1.length : Int)) := by omega
    have hl3 : decide ((0 : Int) < (x.1.1.length : Int)) = false := decide_eq_false hl2
    clear h0 hl S0 S1 S2 S3 S4 S5 HO
    go_enter Tryd.func18, Tryd.ntmps18
    go_wp2_with fail
    go_ret
    exact ⟨ret_bool HR.out.symm, qb⟩
  have hlen : 0 < x.1.1.length := List.length_pos_iff.2 h0
  have he0 : x.1.1.isEmpty = false := by cases h : x.1.1 with | nil => exact absurd h h0 | cons a b => rfl
  rw [he0] at HO
  clear he0 h0
  generalize ptsB x.1.1 = p0 at *
  generalize ptsB x.1.2.1 = p1 at *
  generalize ptsB x.1.2.2.1 = p2 at *
  generalize ptsB x.1.2.2.2.1 = p3 at *
  generalize cmB x.1.2.2.2.2.1 = p4 at *
  go_enter Tryd.func18, Tryd.ntmps18
  go_wp2_with fail
  change Calls _ _ _ (bxR w x) _
  generalize bxR w x = wb at *
  generalize hG : w.heap.size = G at HB1 ⊢
  clear hG
  refine (unhide S0 _ qb).mono ?_
  rintro e w1 ⟨rfl, q1⟩
  have qw1 : Q wb w1 := q1
  cases p0
  · go_wp2_with fail
    go_ret
    exact ⟨ret_bool HO.out.symm, qb.trans qw1⟩

  have c1 : w1.cell? ⟨G, 1, none⟩ = some (.slice x.2.2.1.1 x.1.2.1.length x.2.2.1.2) := (unhide HB1 _ qw1).cell 1 rfl
  go_wp2_with fail
  refine (unhide S1 _ (qb.trans qw1)).mono ?_
  rintro e w2 ⟨rfl, q2⟩
  have qw2 := qw1.trans q2
  clear c1
  cases p1
  · go_wp2_with fail
    go_ret
    exact ⟨ret_bool HO.out.symm, qb.trans qw2⟩

  have c2 : w2.cell? ⟨G, 2, none⟩ = some (.slice x.2.2.2.1.1 x.1.2.2.1.length x.2.2.2.1.2) := (unhide HB1 _ qw2).cell 2 rfl
  go_wp2_with fail
  refine (unhide S2 _ (qb.trans qw2)).mono ?_
  rintro e w3 ⟨rfl, q3⟩
  have qw3 := qw2.trans q3
  clear c2
  cases p2
  · go_wp2_with fail
    go_ret
    exact ⟨ret_bool HO.out.symm, qb.trans qw3⟩

  have c3 : w3.cell? ⟨G, 3, none⟩ = some (.slice x.2.2.2.2.1 x.1.2.2.2.1.length x.2.2.2.2.2) := (unhide HB1 _ qw3).cell 3 rfl
  go_wp2_with fail
  refine (unhide S3 _ (qb.trans qw3)).mono ?_
  rintro e w4 ⟨rfl, q4⟩
  have qw4 := qw3.trans q4
  clear c3
  cases p3
  · go_wp2_with fail
    go_ret
    exact ⟨ret_bool HO.out.symm, qb.trans qw4⟩

  have c4 : w4.cell? ⟨G, 4, none⟩ = some (.string ⟨x.1.2.2.2.2.1.toArray⟩) := (unhide HB1 _ qw4).cell 4 rfl
  have c6 : w4.cell? ⟨G, 6, none⟩ = some (.string ⟨x.1.2.2.2.2.2.2.toArray⟩) := (unhide HB1 _ qw4).cell 6 rfl
  generalize (⟨x.1.2.2.2.2.2.2.toArray⟩ : ByteArray) = pl at *
  go_wp2_with fail
  refine (unhide S4 _).mono ?_
  rintro e w5 ⟨rfl, rfl⟩
  cases p4
  · go_wp2_with fail
    go_ret
    exact ⟨ret_bool HO.out.symm, qb.trans qw4⟩
  by_cases h0 : bl pl = []
  · have g1 := is_emp h0
    rw [h0] at HO
    clear h0
    go_wp2_with fail
    go_ret
    exact ⟨ret_bool HO.out.symm, qb.trans qw4⟩
  · have g1 := no_emp h0
    have g2 : (bl pl).isEmpty = false := by cases h : bl pl with | nil => exact absurd h h0 | cons a b => rfl
    rw [g2] at HO
    clear h0 g2
    go_wp2_with fail
    refine (unhide S5 _).mono ?_
    rintro e w6 ⟨rfl, rfl⟩
    go_wp2_with fail
    go_ret
    exact ⟨ret_bool (by rw [HO.out]; cases mayB pl <;> rfl), qb.trans qw4⟩


end Go.Proofs.YtbfhliocckkbmaaDoor
