/- May a graph be, as the document's own GraphMay answers; the conditions: the graph lies in memory, no text is longer than a string can be. -/
import Derived.Test.YtfadjppokbolhaaGreatDoorGfRPth
namespace Go.Proofs.YtfadjppokbolhaaGreatDoor
open Go.RowKit

set_option maxHeartbeats 2000000 in
theorem rpts_any (ws : Ws) (ao : Option Addr) (cap : Nat) (w : World) (hr : RowT w ao ws) (hz : WsZ ws) :
    Calls Tryz.prog 38 #[.slice ao ws.length cap] w fun e w' => e = .returned (.bool (ptsB ws)) ∧ Q w w' := by
  have hn := hz.n
  have HZ := hide hz.t
  clear hz
  go_enter Tryz.func38, Tryz.ntmps38
  go_wp2_with fail
  go_loopw [3] (fun i wr => ∃ k : Nat, k ≤ ws.length ∧ i = .int .i64 k ∧ Q w wr ∧ Hid ((ws.take k).all pthB = true)) (fun i _ => ws.length - (intOf i).toNat)
  case atStart => exact ⟨0, Nat.zero_le _, rfl, Q.refl _, rfl⟩
  case round =>
    obtain ⟨k, hk, rfl, hq, HA⟩ := hrel
    by_cases hlt : k < ws.length
    · rcases hr.q hq with he | ⟨g, o, rfl, hg, hcell⟩
      · rw [he] at hlt; simp at hlt
      obtain ⟨b, hb⟩ : ∃ b, ws[k]? = some b := ⟨ws[k], List.getElem?_eq_getElem hlt⟩
      have c1 : wr.cell? ⟨g, o + k, none⟩ = some (.string ⟨b.toArray⟩) := by
        have := hcell k 0 b _ hb (by decide) rfl
        simpa using this
      have HC := hide (rpth_any ⟨b.toArray⟩ wr (by rw [mk_size']; exact unhide HZ b (List.mem_of_getElem? hb)))
      rw [show bl (⟨b.toArray⟩ : ByteArray) = b from rfl] at HC
      have HT := hide (all_succ pthB hb)
      have HN := hide (fun h => all_no (p := pthB) hb h)
      generalize (⟨b.toArray⟩ : ByteArray) = x1 at c1 HC
      clear hcell hb
      cases hok : pthB b
      · have HO : Hid (ptsB ws = false) := by show _ = false; unfold ptsB; rw [unhide HN hok]; simp
        rw [hok] at HC
        clear hok HT HN HA
        go_wp2_with fail
        refine (unhide HC).mono ?_
        rintro e w1 ⟨rfl, q1⟩
        go_wp2_with fail
        go_ret
        exact ⟨ret_bool HO.out.symm, hq.trans q1⟩
      · have HO : Hid ((ws.take (k + 1)).all pthB = true) := by show _ = true; rw [unhide HT, HA.out, hok]; rfl
        rw [hok] at HC
        clear hok HT HN HA
        go_wp2_with fail
        refine (unhide HC).mono ?_
        rintro e w1 ⟨rfl, q1⟩
        go_wp2_with fail
        go_roundw
        case rel => exact ⟨k + 1, by omega, by go_num, hq.trans q1, HO⟩
        case measure => simp [intOf]; omega
    · have HO : Hid (ptsB ws = decide ((ws.length : Int) ≤ 8)) := by
        show _ = _
        have h1 := HA.out
        rw [List.take_of_length_le (by omega)] at h1
        unfold ptsB
        rw [h1, Bool.and_true]
        exact decide_eq_decide.2 (by omega)
      clear HA
      go_wp2_with fail
      go_ret
      exact ⟨ret_bool HO.out.symm, hq⟩

set_option maxHeartbeats 2000000 in
theorem rpool_any (ps : List Po) (n : ByteArray) (ao : Option Addr) (cap : Nat) (w : World) (hr : RowO w ao ps) (hs : ps.length ≤ 140737488355328) :
    Calls Tryz.prog 36 #[.slice ao ps.length cap, .string n] w
      fun e w' => e = .returned (.int .i64 (ixB (fun r : Po => r.1 == bl n) ps)) ∧ w' = w := by
  go_enter Tryz.func36, Tryz.ntmps36
  go_wp2_with fail
  go_loop [5] (fun i => ∃ k : Nat, k ≤ ps.length ∧ i = .int .i64 k ∧ Hid ((ps.take k).any (fun r : Po => r.1 == bl n) = false)) (fun i => ps.length - (intOf i).toNat)
  case atStart => exact ⟨0, Nat.zero_le _, rfl, rfl⟩
  case round =>
    obtain ⟨k, hk, rfl, HA⟩ := hrel
    by_cases hlt : k < ps.length
    · rcases hr with he | ⟨g, o, rfl, hg, hcell⟩
      · rw [he] at hlt; simp at hlt
      obtain ⟨b, hb⟩ : ∃ b, ps[k]? = some b := ⟨ps[k], List.getElem?_eq_getElem hlt⟩
      have c1 : w.cell? ⟨g, o + k * 2, none⟩ = some (.string ⟨b.1.toArray⟩) := hcell k 0 b _ hb (by decide) rfl
      have HT := hide (anyt_succ (fun r : Po => r.1 == bl n) hb)
      have HH := hide (fun h => ixB_at (p := fun r : Po => r.1 == bl n) hb HA.out h)
      have hx := txt_beq b.1 n
      generalize (⟨b.1.toArray⟩ : ByteArray) = x1 at c1 hx
      clear hcell hb
      cases hok : (b.1 == bl n)
      · have HO : Hid ((ps.take (k + 1)).any (fun r : Po => r.1 == bl n) = false) := by
          show _ = false
          rw [unhide HT, HA.out]; simpa using hok
        rw [hok] at hx
        clear hok HT HH HA
        go_wp2_with fail
        go_round
        case rel => exact ⟨k + 1, by omega, by go_num, HO⟩
        case measure => simp [intOf]; omega
      · have HO : Hid (ixB (fun r : Po => r.1 == bl n) ps = k) := unhide HH hok
        rw [hok] at hx
        clear hok HT HH HA
        go_wp2_with fail
        go_ret
        exact ⟨ret_int HO.out.symm, rfl⟩
    · have HO : Hid (ixB (fun r : Po => r.1 == bl n) ps = -1) := by
        show _ = _
        have := HA.out
        rw [List.take_of_length_le (by omega)] at this
        exact ixB_no this
      clear HA
      go_wp2_with fail
      go_ret
      exact ⟨ret_int HO.out.symm, rfl⟩

def bxR (w : World) (x : EdA) : World := w.alloc (.cells (ev x).toArray 41)

set_option maxRecDepth 20000 in
set_option maxHeartbeats 8000000 in
theorem redge_any (x : EdA) (w : World) (hx : EdRd w x) (hz : EdZ x.1) :
    Calls Tryz.prog 37 #[.agg #[.slice x.2.1.1 x.1.1.length x.2.1.2, .slice x.2.2.1.1 x.1.2.1.length x.2.2.1.2, .slice x.2.2.2.1.1 x.1.2.2.1.length x.2.2.2.1.2, .slice x.2.2.2.2.1 x.1.2.2.2.1.length x.2.2.2.2.2, .string ⟨x.1.2.2.2.2.1.toArray⟩, .bool x.1.2.2.2.2.2.1, .string ⟨x.1.2.2.2.2.2.2.toArray⟩]] w fun e w' => e = .returned (.bool (edOk x.1)) ∧ Q w w' := by
  have S0 := hide (fun w2 (q : Q w w2) => rpts_any x.1.1 x.2.1.1 x.2.1.2 w2 (hx.a.q q) hz.a)
  have S1 := hide (fun w2 (q : Q w w2) => rpts_any x.1.2.1 x.2.2.1.1 x.2.2.1.2 w2 (hx.b.q q) hz.b)
  have S2 := hide (fun w2 (q : Q w w2) => rpts_any x.1.2.2.1 x.2.2.2.1.1 x.2.2.2.1.2 w2 (hx.c.q q) hz.c)
  have S3 := hide (fun w2 (q : Q w w2) => rpts_any x.1.2.2.2.1 x.2.2.2.2.1 x.2.2.2.2.2 w2 (hx.d.q q) hz.d)
  have hcs : (⟨x.1.2.2.2.2.1.toArray⟩ : ByteArray).size = x.1.2.2.2.2.1.length := mk_size' _
  have S4 : Hid (∀ w2, Calls Tryz.prog 51 #[.string ⟨x.1.2.2.2.2.1.toArray⟩, .int .i64 1, .int .i64 256] w2 fun e w' => e = .returned (.bool (cmB x.1.2.2.2.2.1)) ∧ w' = w2) := by
    show ∀ w2, _
    intro w2
    have h := rplain_any ⟨x.1.2.2.2.2.1.toArray⟩ 1 256 w2 (by rw [hcs]; exact hz.k)
    have e : (plainL (bl ⟨x.1.2.2.2.2.1.toArray⟩) && decide ((1 : Int) ≤ ((⟨x.1.2.2.2.2.1.toArray⟩ : ByteArray).size : Int)) && decide (((⟨x.1.2.2.2.2.1.toArray⟩ : ByteArray).size : Int) ≤ 256)) = cmB x.1.2.2.2.2.1 := by
      unfold cmB
      rw [hcs, show bl ⟨x.1.2.2.2.2.1.toArray⟩ = x.1.2.2.2.2.1 from rfl]
      rw [show decide ((1 : Int) ≤ (x.1.2.2.2.2.1.length : Int)) = decide (1 ≤ x.1.2.2.2.2.1.length) from decide_eq_decide.2 (by omega), show decide ((x.1.2.2.2.2.1.length : Int) ≤ 256) = decide (x.1.2.2.2.2.1.length ≤ 256) from decide_eq_decide.2 (by omega)]
    rwa [e] at h
  have S5 := hide (fun w2 => nameMay_any ⟨x.1.2.2.2.2.2.2.toArray⟩ w2 (by rw [mk_size']; exact hz.p))
  have HO : Hid (edOk x.1 = (!x.1.1.isEmpty && (ptsB x.1.1 && (ptsB x.1.2.1 && (ptsB x.1.2.2.1 && (ptsB x.1.2.2.2.1 && (cmB x.1.2.2.2.2.1 && ((bl (⟨x.1.2.2.2.2.2.2.toArray⟩ : ByteArray)).isEmpty || mayB ⟨x.1.2.2.2.2.2.2.toArray⟩)))))))) := by
    show _ = _
    unfold edOk plB; rw [mayB_mayL]; rfl
  have qb : Q w (bxR w x) := (Q.refl w).alloc _
  have b1 : Blk (bxR w x) w.heap.size (ev x).toArray 41 := Blk.new w _ _
  have HB1 := hide (fun w2 (q : Q (bxR w x) w2) => b1.q q)
  clear b1 hx hz hcs
  by_cases h0 : x.1.1 = []
  · have HR : Hid (edOk x.1 = false) := by show _ = _; rw [HO.out, h0]; rfl
    have hl : x.1.1.length = 0 := by rw [h0]; rfl
    have hl2 : ¬ ((0 : Int) < (x.1.1.length : Int)) := by omega
    have hl3 : decide ((0 : Int) < (x.1.1.length : Int)) = false := decide_eq_false hl2
    clear h0 hl S0 S1 S2 S3 S4 S5 HO
    go_enter Tryz.func37, Tryz.ntmps37
    go_wp2_with fail
    go_ret
    exact ⟨ret_bool HR.out.symm, qb⟩
  have hlen : 0 < x.1.1.length := List.length_pos_iff.2 h0
  have he0 : x.1.1.isEmpty = false := by cases h : x.1.1 with | nil => exact absurd h h0 | cons a b => rfl
  rw [he0] at HO
  clear he0 h0
  generalize ptsB x.1.1 = p0 at *
  generalize ptsB x.1.2.1 = p1 at *
  generalize ptsB x.1.2.2.1 = p2 at *
  generalize ptsB x.1.2.2.2.1 = p3 at *
  generalize cmB x.1.2.2.2.2.1 = p4 at *
  go_enter Tryz.func37, Tryz.ntmps37
  go_wp2_with fail
  change Calls _ _ _ (bxR w x) _
  generalize bxR w x = wb at *
  generalize hG : w.heap.size = G at HB1 ⊢
  clear hG
  refine (unhide S0 _ qb).mono ?_
  rintro e w1 ⟨rfl, q1⟩
  have qw1 : Q wb w1 := q1
  cases p0
  · go_wp2_with fail
    go_ret
    exact ⟨ret_bool HO.out.symm, qb.trans qw1⟩

  have c1 : w1.cell? ⟨G, 1, none⟩ = some (.slice x.2.2.1.1 x.1.2.1.length x.2.2.1.2) := (unhide HB1 _ qw1).cell 1 rfl
  go_wp2_with fail
  refine (unhide S1 _ (qb.trans qw1)).mono ?_
  rintro e w2 ⟨rfl, q2⟩
  have qw2 := qw1.trans q2
  clear c1
  cases p1
  · go_wp2_with fail
    go_ret
    exact ⟨ret_bool HO.out.symm, qb.trans qw2⟩

  have c2 : w2.cell? ⟨G, 2, none⟩ = some (.slice x.2.2.2.1.1 x.1.2.2.1.length x.2.2.2.1.2) := (unhide HB1 _ qw2).cell 2 rfl
  go_wp2_with fail
  refine (unhide S2 _ (qb.trans qw2)).mono ?_
  rintro e w3 ⟨rfl, q3⟩
  have qw3 := qw2.trans q3
  clear c2
  cases p2
  · go_wp2_with fail
    go_ret
    exact ⟨ret_bool HO.out.symm, qb.trans qw3⟩

  have c3 : w3.cell? ⟨G, 3, none⟩ = some (.slice x.2.2.2.2.1 x.1.2.2.2.1.length x.2.2.2.2.2) := (unhide HB1 _ qw3).cell 3 rfl
  go_wp2_with fail
  refine (unhide S3 _ (qb.trans qw3)).mono ?_
  rintro e w4 ⟨rfl, q4⟩
  have qw4 := qw3.trans q4
  clear c3
  cases p3
  · go_wp2_with fail
    go_ret
    exact ⟨ret_bool HO.out.symm, qb.trans qw4⟩

  have c4 : w4.cell? ⟨G, 4, none⟩ = some (.string ⟨x.1.2.2.2.2.1.toArray⟩) := (unhide HB1 _ qw4).cell 4 rfl
  have c6 : w4.cell? ⟨G, 6, none⟩ = some (.string ⟨x.1.2.2.2.2.2.2.toArray⟩) := (unhide HB1 _ qw4).cell 6 rfl
  generalize (⟨x.1.2.2.2.2.2.2.toArray⟩ : ByteArray) = pl at *
  go_wp2_with fail
  refine (unhide S4 _).mono ?_
  rintro e w5 ⟨rfl, rfl⟩
  cases p4
  · go_wp2_with fail
    go_ret
    exact ⟨ret_bool HO.out.symm, qb.trans qw4⟩
  by_cases h0 : bl pl = []
  · have g1 := is_emp h0
    rw [h0] at HO
    clear h0
    go_wp2_with fail
    go_ret
    exact ⟨ret_bool HO.out.symm, qb.trans qw4⟩
  · have g1 := no_emp h0
    have g2 : (bl pl).isEmpty = false := by cases h : bl pl with | nil => exact absurd h h0 | cons a b => rfl
    rw [g2] at HO
    clear h0 g2
    go_wp2_with fail
    refine (unhide S5 _).mono ?_
    rintro e w6 ⟨rfl, rfl⟩
    go_wp2_with fail
    go_ret
    exact ⟨ret_bool (by rw [HO.out]; cases mayB pl <;> rfl), qb.trans qw4⟩


theorem gm_pool {g : Gh} (h : plsF [] g.2.1 = false) : gmB g = false := by unfold gmB plsB; rw [h]; simp
theorem gm_edge {g : Gh} (h : g.1.all (edM' g.2.1) = false) : gmB g = false := by unfold gmB esB; rw [h]; simp
theorem gm_ends {g : Gh} (h1 : plsF [] g.2.1 = true) (h2 : g.1.all (edM' g.2.1) = true) : gmB g = (decide (g.2.1.length ≤ 4) && (decide (g.1.length ≤ 16) && ptsB g.2.2)) := by
  unfold gmB plsB esB; rw [h1, h2]
  cases decide (g.2.1.length ≤ 4) <;> cases decide (g.1.length ≤ 16) <;> cases ptsB g.2.2 <;> rfl

set_option maxRecDepth 20000 in
set_option maxHeartbeats 16000000 in
theorem rMay_any (g : Gh) (es : List EdA) (eo po dd : Option Addr) (ec pc dc : Nat) (w : World) (hg : GfR w g es eo po dd) :
    Calls Tryz.prog 25 #[.agg #[.slice eo es.length ec, .slice po g.2.1.length pc, .slice dd g.2.2.length dc]] w fun e w' => e = .returned (.bool (gmB g)) ∧ Q w w' := by
  have HG := hide hg
  have hlp := hg.z.lp
  have hle : es.length ≤ 140737488355328 := by rw [hg.len]; exact hg.z.le
  have HLE := hide hg.len
  clear hg
  have b1 : Blk (w.alloc (.cells #[.slice eo es.length ec, .slice po g.2.1.length pc, .slice dd g.2.2.length dc] 26)) w.heap.size #[.slice eo es.length ec, .slice po g.2.1.length pc, .slice dd g.2.2.length dc] 26 := Blk.new w _ _
  have qb : Q w (w.alloc (.cells #[.slice eo es.length ec, .slice po g.2.1.length pc, .slice dd g.2.2.length dc] 26)) := (Q.refl w).alloc _
  have HB1 := hide b1
  clear b1
  go_enter Tryz.func25, Tryz.ntmps25
  go_wp2_with fail
  generalize hX : w.heap.size = X at HB1 ⊢
  clear hX
  generalize w.alloc (.cells #[.slice eo es.length ec, .slice po g.2.1.length pc, .slice dd g.2.2.length dc] 26) = wb at *
  go_loopw [3] (fun i wr => ∃ k : Nat, k ≤ g.2.1.length ∧ i = .int .i64 k ∧ Q wb wr ∧ Hid (plsF [] g.2.1 = plsF (g.2.1.take k) (g.2.1.drop k))) (fun i _ => g.2.1.length - (intOf i).toNat)
  case atStart => exact ⟨0, Nat.zero_le _, rfl, Q.refl _, by show _ = _; simp⟩
  case round =>
    obtain ⟨k, hk, rfl, hq, HA⟩ := hrel
    have x1 : wr.cell? ⟨X, 1, none⟩ = some (.slice po g.2.1.length pc) := ((unhide HB1).q hq).cell 1 rfl
    by_cases hlt : k < g.2.1.length
    · have hrow := ((unhide HG).q' (qb.trans hq)).p
      have HRW := hide hrow
      rcases hrow with he | ⟨gg, oo, rfl, hcg, hcc⟩
      · rw [he] at hlt; simp at hlt
      obtain ⟨p, hp⟩ : ∃ p, g.2.1[k]? = some p := ⟨g.2.1[k], List.getElem?_eq_getElem hlt⟩
      have c0 : ∀ u : Aft wr, u.to.cell? ⟨gg, oo + k * 2, none⟩ = some (.string ⟨p.1.toArray⟩) := Aft.cell (hcc k 0 p _ hp (by decide) rfl) hcg
      have c1 : ∀ u : Aft wr, u.to.cell? ⟨gg, oo + k * 2 + 1, none⟩ = some (.int .i64 p.2) := Aft.cell (hcc k 1 p _ hp (by decide) rfl) hcg
      have y1 : ∀ u : Aft wr, u.to.cell? ⟨X, 1, none⟩ = some (.slice (some ⟨gg, oo, none⟩) g.2.1.length pc) := Aft.cell x1 ((unhide HB1).q hq).hi
      have hpz := (unhide HG).z.p p (List.mem_of_getElem? hp)
      have HC1 : Hid (∀ u : Aft wr, Calls Tryz.prog 35 #[.string ⟨p.1.toArray⟩] u.to fun e w' => e = .returned (.bool (mayB ⟨p.1.toArray⟩)) ∧ Q u.to w') := by
        show ∀ u : Aft wr, _
        intro u
        exact (nameMay_any ⟨p.1.toArray⟩ u.to (by rw [mk_size']; exact hpz)).mono (fun e w' ⟨h1, h2⟩ => ⟨h1, h2 ▸ Q.refl _⟩)
      have HC2 : Hid (∀ u : Aft wr, Calls Tryz.prog 36 #[.slice (some ⟨gg, oo, none⟩) g.2.1.length pc, .string ⟨p.1.toArray⟩] u.to fun e w' => e = .returned (.int .i64 (ixB (fun r : Po => r.1 == p.1) g.2.1)) ∧ Q u.to w') := by
        show ∀ u : Aft wr, _
        intro u
        exact (rpool_any g.2.1 ⟨p.1.toArray⟩ (some ⟨gg, oo, none⟩) pc u.to ((unhide HRW).q u.q) hlp).mono (fun e w' ⟨h1, h2⟩ => ⟨h1, h2 ▸ Q.refl _⟩)
      have HIX := hide (poo_at hp)
      have HST : Hid (plsF [] g.2.1 = (((mayB ⟨p.1.toArray⟩ && (decide (1 ≤ p.2) && decide (p.2 ≤ 8))) && !pooB (g.2.1.take k) p.1) && plsF (g.2.1.take (k + 1)) (g.2.1.drop (k + 1)))) := by
        show _ = _
        rw [HA.out, plsF_at hp, mayB_mayL]; rfl
      have hne := Aft.ne wr
      clear hcc hp HRW hpz HA
      generalize (⟨p.1.toArray⟩ : ByteArray) = pn at *
      generalize pooB (g.2.1.take k) p.1 = pb at *
      generalize ixB (fun r : Po => r.1 == p.1) g.2.1 = ix at *
      obtain ⟨pt, d⟩ := p
      dsimp only at *
      cases hmb : mayB pn
      · have HO : Hid (gmB g = false) := gm_pool (by rw [HST.out, hmb]; simp)
        rw [hmb] at HC1
        clear HST HIX hmb
        go_wp2_with fail
        refine wp_region_aft (by kernel_rfl) (by kernel_rfl) ?_
        repeat (go_big_quiet_step (first | (go_at_call 35; exact Calls.aft (unhide HC1 _)) | (go_at_call 36; exact Calls.aft (unhide HC2 _))))
        refine wpQuiet_nil ?_
        intro _ hw'
        obtain ⟨u, hw''⟩ := hw'
        subst hw''
        have qu := u.q
        generalize u.to = w1 at qu ⊢
        clear c0 c1 y1 hne
        go_wp2_with fail
        go_ret
        exact ⟨ret_bool HO.out.symm, (qb.trans hq).trans qu⟩
      rw [hmb] at HC1
      by_cases hd1 : d < 1
      · have HO : Hid (gmB g = false) := gm_pool (by rw [HST.out, decide_eq_false (show ¬ 1 ≤ d by omega)]; simp)
        have hd1x : decide (d < 1) = true := decide_eq_true hd1
        clear HST HIX hmb
        go_wp2_with fail
        refine wp_region_aft (by kernel_rfl) (by kernel_rfl) ?_
        repeat (go_big_quiet_step (first | (go_at_call 35; exact Calls.aft (unhide HC1 _)) | (go_at_call 36; exact Calls.aft (unhide HC2 _))))
        refine wpQuiet_nil ?_
        intro _ hw'
        obtain ⟨u, hw''⟩ := hw'
        subst hw''
        have qu := u.q
        generalize u.to = w1 at qu ⊢
        clear c0 c1 y1 hne
        go_wp2_with fail
        go_ret
        exact ⟨ret_bool HO.out.symm, (qb.trans hq).trans qu⟩
      have hd1x : decide (d < 1) = false := decide_eq_false hd1
      by_cases hd8 : 8 < d
      · have HO : Hid (gmB g = false) := gm_pool (by rw [HST.out, decide_eq_false (show ¬ d ≤ 8 by omega)]; simp)
        have hd8x : decide (8 < d) = true := decide_eq_true hd8
        clear HST HIX hmb
        go_wp2_with fail
        refine wp_region_aft (by kernel_rfl) (by kernel_rfl) ?_
        repeat (go_big_quiet_step (first | (go_at_call 35; exact Calls.aft (unhide HC1 _)) | (go_at_call 36; exact Calls.aft (unhide HC2 _))))
        refine wpQuiet_nil ?_
        intro _ hw'
        obtain ⟨u, hw''⟩ := hw'
        subst hw''
        have qu := u.q
        generalize u.to = w1 at qu ⊢
        clear c0 c1 y1 hne
        go_wp2_with fail
        go_ret
        exact ⟨ret_bool HO.out.symm, (qb.trans hq).trans qu⟩
      have hd8x : decide (8 < d) = false := decide_eq_false hd8
      by_cases hpb : pb = true
      · subst hpb
        have HO : Hid (gmB g = false) := gm_pool (by rw [HST.out]; simp)
        have hi1 : (ix != (k : Int)) = true := unhide HIX
        have hi2 : (ix == (k : Int)) = false := by simpa using hi1
        clear HST HIX hmb
        go_wp2_with fail
        refine wp_region_aft (by kernel_rfl) (by kernel_rfl) ?_
        repeat (go_big_quiet_step (first | (go_at_call 35; exact Calls.aft (unhide HC1 _)) | (go_at_call 36; exact Calls.aft (unhide HC2 _))))
        refine wpQuiet_nil ?_
        intro _ hw'
        obtain ⟨u, hw''⟩ := hw'
        subst hw''
        have qu := u.q
        generalize u.to = w1 at qu ⊢
        clear c0 c1 y1 hne
        go_wp2_with fail
        go_ret
        exact ⟨ret_bool HO.out.symm, (qb.trans hq).trans qu⟩
      · obtain rfl : pb = false := by simpa using hpb
        have HO : Hid (plsF [] g.2.1 = plsF (g.2.1.take (k + 1)) (g.2.1.drop (k + 1))) := by
          show _ = _
          rw [HST.out, hmb, decide_eq_true (show 1 ≤ d by omega), decide_eq_true (show d ≤ 8 by omega)]; rfl
        have hi1 : (ix != (k : Int)) = false := unhide HIX
        have hi2 : (ix == (k : Int)) = true := by simpa using hi1
        clear HST HIX hmb hpb
        go_wp2_with fail
        refine wp_region_aft (by kernel_rfl) (by kernel_rfl) ?_
        repeat (go_big_quiet_step (first | (go_at_call 35; exact Calls.aft (unhide HC1 _)) | (go_at_call 36; exact Calls.aft (unhide HC2 _))))
        refine wpQuiet_nil ?_
        intro _ hw'
        obtain ⟨u, hw''⟩ := hw'
        subst hw''
        have qu := u.q
        generalize u.to = w1 at qu ⊢
        clear c0 c1 y1 hne
        go_wp2_with fail
        go_roundw
        case rel => exact ⟨k + 1, by omega, by go_num, hq.trans qu, HO⟩
        case measure => simp [intOf]; omega
    · have HPT : Hid (plsF [] g.2.1 = true) := by show _ = _; rw [HA.out, plsF_end (by omega)]
      clear HA
      go_wp2_with fail
      go_loopw [4] (fun i wq => ∃ k : Nat, k ≤ es.length ∧ i = .int .i64 k ∧ Q wb wq ∧ Hid ((es.take k).all (fun x => edM' g.2.1 x.1) = true)) (fun i _ => es.length - (intOf i).toNat)
      case atStart => exact ⟨0, Nat.zero_le _, rfl, hq, rfl⟩
      case round =>
        obtain ⟨m, hm, rfl, hq2, HA⟩ := hrel
        have x0 : wr.cell? ⟨X, 0, none⟩ = some (.slice eo es.length ec) := ((unhide HB1).q hq2).cell 0 rfl
        have x1' : wr.cell? ⟨X, 1, none⟩ = some (.slice po g.2.1.length pc) := ((unhide HB1).q hq2).cell 1 rfl
        have x2 : wr.cell? ⟨X, 2, none⟩ = some (.slice dd g.2.2.length dc) := ((unhide HB1).q hq2).cell 2 rfl
        by_cases hlt2 : m < es.length
        · have hrow := ((unhide HG).q' (qb.trans hq2)).e
          rcases hrow with he | ⟨gg, oo, rfl, hcg, hcc⟩
          · rw [he] at hlt2; simp at hlt2
          obtain ⟨p, hp⟩ : ∃ p, es[m]? = some p := ⟨es[m], List.getElem?_eq_getElem hlt2⟩
          have c0 : ∀ u : Aft wr, u.to.cell? ⟨gg, oo + m * 7, none⟩ = some (.slice p.2.1.1 p.1.1.length p.2.1.2) := Aft.cell (hcc m 0 p _ hp (by decide) rfl) hcg
          have c1 : ∀ u : Aft wr, u.to.cell? ⟨gg, oo + m * 7 + 1, none⟩ = some (.slice p.2.2.1.1 p.1.2.1.length p.2.2.1.2) := Aft.cell (hcc m 1 p _ hp (by decide) rfl) hcg
          have c2 : ∀ u : Aft wr, u.to.cell? ⟨gg, oo + m * 7 + 2, none⟩ = some (.slice p.2.2.2.1.1 p.1.2.2.1.length p.2.2.2.1.2) := Aft.cell (hcc m 2 p _ hp (by decide) rfl) hcg
          have c3 : ∀ u : Aft wr, u.to.cell? ⟨gg, oo + m * 7 + 3, none⟩ = some (.slice p.2.2.2.2.1 p.1.2.2.2.1.length p.2.2.2.2.2) := Aft.cell (hcc m 3 p _ hp (by decide) rfl) hcg
          have c4 : ∀ u : Aft wr, u.to.cell? ⟨gg, oo + m * 7 + 4, none⟩ = some (.string ⟨p.1.2.2.2.2.1.toArray⟩) := Aft.cell (hcc m 4 p _ hp (by decide) rfl) hcg
          have c5 : ∀ u : Aft wr, u.to.cell? ⟨gg, oo + m * 7 + 5, none⟩ = some (.bool p.1.2.2.2.2.2.1) := Aft.cell (hcc m 5 p _ hp (by decide) rfl) hcg
          have c6 : ∀ u : Aft wr, u.to.cell? ⟨gg, oo + m * 7 + 6, none⟩ = some (.string ⟨p.1.2.2.2.2.2.2.toArray⟩) := Aft.cell (hcc m 6 p _ hp (by decide) rfl) hcg
          have y0 : ∀ u : Aft wr, u.to.cell? ⟨X, 0, none⟩ = some (.slice (some ⟨gg, oo, none⟩) es.length ec) := Aft.cell x0 ((unhide HB1).q hq2).hi
          have y1 : ∀ u : Aft wr, u.to.cell? ⟨X, 1, none⟩ = some (.slice po g.2.1.length pc) := Aft.cell x1' ((unhide HB1).q hq2).hi
          have hmem := List.mem_of_getElem? hp
          have HC1 : Hid (∀ u : Aft wr, _) := fun u : Aft wr => redge_any p u.to (((unhide HG).q p hmem).q ((qb.trans hq2).trans u.q)) ((unhide HG).ez hmem)
          have HC2 : Hid (∀ u : Aft wr, _) := fun u : Aft wr => (rpool_any g.2.1 ⟨p.1.2.2.2.2.2.2.toArray⟩ po pc u.to (((unhide HG).q' ((qb.trans hq2).trans u.q)).p) hlp).mono (fun e w' (h : _ ∧ _) => (⟨h.1, h.2 ▸ Q.refl _⟩ : _ ∧ Q u.to w'))
          have HED : Hid (edM' g.2.1 p.1 = (edOk p.1 && ((bl (⟨p.1.2.2.2.2.2.2.toArray⟩ : ByteArray)).isEmpty || decide (0 ≤ ixB (fun r : Po => r.1 == bl (⟨p.1.2.2.2.2.2.2.toArray⟩ : ByteArray)) g.2.1)))) := by
            show _ = _
            rw [ixB_dec]; rfl
          have HNO : Hid (edM' g.2.1 p.1 = false → gmB g = false) := by
            show _ → _
            intro h
            refine gm_edge ?_
            rw [List.all_eq_false]
            exact ⟨p.1, by rw [← (unhide HG).em]; exact List.mem_map_of_mem hmem, by simp [h]⟩
          have HT := hide (all_succ (fun x : EdA => edM' g.2.1 x.1) hp)
          have HYES : Hid (edM' g.2.1 p.1 = true → (es.take (m + 1)).all (fun x => edM' g.2.1 x.1) = true) := by
            show _ → _
            intro h
            rw [unhide HT, HA.out, h]; rfl
          have hne := Aft.ne wr
          clear hcc hp hmem x1' x2 HT HA
          cases hok : edOk p.1
          · have HO : Hid (gmB g = false) := unhide HNO (by rw [HED.out, hok]; rfl)
            rw [hok] at HC1
            clear hok HED HNO HYES HC2
            go_wp2_with fail
            refine wp_region_aft (by kernel_rfl) (by kernel_rfl) ?_
            repeat (go_big_quiet_step ((go_at_call 37; exact Calls.aft (unhide HC1 _))))
            refine wpQuiet_nil ?_
            intro _ hw'
            obtain ⟨u, hw''⟩ := hw'
            subst hw''
            have qu := u.q
            generalize u.to = w1 at qu ⊢
            clear c0 c1 c2 c3 c4 c5 c6 y0 y1 hne
            go_wp2_with fail
            go_ret
            exact ⟨ret_bool HO.out.symm, (qb.trans hq2).trans qu⟩
          rw [hok] at HC1 HED
          by_cases h0 : bl (⟨p.1.2.2.2.2.2.2.toArray⟩ : ByteArray) = []
          · have g1 := is_emp h0
            have g2 := is_keyn h0
            have HO : Hid ((es.take (m + 1)).all (fun x => edM' g.2.1 x.1) = true) := unhide HYES (by rw [HED.out, h0]; rfl)
            clear h0 HC2 hok HED HNO HYES
            generalize (⟨p.1.2.2.2.2.2.2.toArray⟩ : ByteArray) = pl at *
            go_wp2_with fail
            refine wp_region_aft (by kernel_rfl) (by kernel_rfl) ?_
            repeat (go_big_quiet_step ((go_at_call 37; exact Calls.aft (unhide HC1 _))))
            refine wpQuiet_nil ?_
            intro _ hw'
            obtain ⟨u, hw''⟩ := hw'
            subst hw''
            have qu := u.q
            generalize u.to = w1 at qu ⊢
            clear c0 c1 c2 c3 c4 c5 c6 y0 y1 hne
            go_wp2_with fail
            go_roundw
            case rel => exact ⟨m + 1, by omega, by go_num, hq2.trans qu, HO⟩
            case measure => simp [intOf]; omega
          have g1 := no_emp h0
          have g2 := no_keyn h0
          have he0 : (bl (⟨p.1.2.2.2.2.2.2.toArray⟩ : ByteArray)).isEmpty = false := by cases h : bl (⟨p.1.2.2.2.2.2.2.toArray⟩ : ByteArray) with | nil => exact absurd h h0 | cons a b => rfl
          rw [he0] at HED
          clear h0 he0 hok
          generalize ixB (fun r : Po => r.1 == bl (⟨p.1.2.2.2.2.2.2.toArray⟩ : ByteArray)) g.2.1 = ix at *
          by_cases hix : ix < 0
          · have HO : Hid (gmB g = false) := unhide HNO (by rw [HED.out, decide_eq_false (show ¬ 0 ≤ ix by omega)]; rfl)
            have hix2 : decide (ix < 0) = true := decide_eq_true hix
            clear HED HNO HYES
            generalize (⟨p.1.2.2.2.2.2.2.toArray⟩ : ByteArray) = pl at *
            go_wp2_with fail
            refine wp_region_aft (by kernel_rfl) (by kernel_rfl) ?_
            repeat (go_big_quiet_step (first | (go_at_call 37; exact Calls.aft (unhide HC1 _)) | (go_at_call 36; exact Calls.aft (unhide HC2 _))))
            refine wpQuiet_nil ?_
            intro _ hw'
            obtain ⟨u, hw''⟩ := hw'
            subst hw''
            have qu := u.q
            generalize u.to = w1 at qu ⊢
            clear c0 c1 c2 c3 c4 c5 c6 y0 y1 hne
            go_wp2_with fail
            go_ret
            exact ⟨ret_bool HO.out.symm, (qb.trans hq2).trans qu⟩
          · have HO : Hid ((es.take (m + 1)).all (fun x => edM' g.2.1 x.1) = true) := unhide HYES (by rw [HED.out, decide_eq_true (show 0 ≤ ix by omega)]; rfl)
            have hix2 : decide (ix < 0) = false := decide_eq_false hix
            clear HED HNO HYES
            generalize (⟨p.1.2.2.2.2.2.2.toArray⟩ : ByteArray) = pl at *
            go_wp2_with fail
            refine wp_region_aft (by kernel_rfl) (by kernel_rfl) ?_
            repeat (go_big_quiet_step (first | (go_at_call 37; exact Calls.aft (unhide HC1 _)) | (go_at_call 36; exact Calls.aft (unhide HC2 _))))
            refine wpQuiet_nil ?_
            intro _ hw'
            obtain ⟨u, hw''⟩ := hw'
            subst hw''
            have qu := u.q
            generalize u.to = w1 at qu ⊢
            clear c0 c1 c2 c3 c4 c5 c6 y0 y1 hne
            go_wp2_with fail
            go_roundw
            case rel => exact ⟨m + 1, by omega, by go_num, hq2.trans qu, HO⟩
            case measure => simp [intOf]; omega
        · have HEA : Hid (gmB g = (decide (g.2.1.length ≤ 4) && (decide (g.1.length ≤ 16) && ptsB g.2.2))) := by
            show _ = _
            refine gm_ends HPT.out ?_
            have h1 := HA.out
            rw [List.take_of_length_le (by omega)] at h1
            rw [← (unhide HG).em, List.all_map]; exact h1
          have HD := hide (rpts_any g.2.2 dd dc wr (((unhide HG).q' (qb.trans hq2)).d) (unhide HG).z.d)
          have hle2 := unhide HLE
          rw [← hle2] at HEA
          clear HA hle2
          generalize ptsB g.2.2 = pt at *
          by_cases h4 : g.2.1.length ≤ 4
          · have h4' : (g.2.1.length : Int) ≤ 4 := by omega
            rw [decide_eq_true h4] at HEA
            by_cases h16 : es.length ≤ 16
            · have h16' : (es.length : Int) ≤ 16 := by omega
              rw [decide_eq_true h16] at HEA
              go_wp2_with fail
              refine (unhide HD).mono ?_
              rintro e w1 ⟨rfl, q1⟩
              go_wp2_with fail
              go_ret
              exact ⟨ret_bool (by rw [HEA.out]; cases pt <;> rfl), (qb.trans hq2).trans q1⟩
            · have h16' : (16 : Int) < (es.length : Int) := by omega
              have h16x : decide ((es.length : Int) ≤ 16) = false := decide_eq_false (by omega)
              rw [decide_eq_false h16] at HEA
              go_wp2_with fail
              go_ret
              exact ⟨ret_bool HEA.out.symm, qb.trans hq2⟩
          · have h4' : (4 : Int) < (g.2.1.length : Int) := by omega
            have h4x : decide ((g.2.1.length : Int) ≤ 4) = false := decide_eq_false (by omega)
            rw [decide_eq_false h4] at HEA
            go_wp2_with fail
            go_ret
            exact ⟨ret_bool HEA.out.symm, qb.trans hq2⟩

end Go.Proofs.YtfadjppokbolhaaGreatDoor
