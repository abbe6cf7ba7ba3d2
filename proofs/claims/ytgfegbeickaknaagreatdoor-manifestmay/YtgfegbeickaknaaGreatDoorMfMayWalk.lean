/- What the document's own GraphMay answers of a graph that a manifest makes; the conditions: the graph lies in memory, and what MfMayPlain says of it holds. -/
import Derived.Test.YtgfegbeickaknaaGreatDoorMfRead
import Derived.Test.YtgfegbeickaknaaGreatDoorWk1
namespace Go.Proofs.YtgfegbeickaknaaGreatDoor
open Go.RowKit

set_option maxHeartbeats 2000000 in
theorem poolAt_any (ps : List Pl) (n : ByteArray) (ao : Option Addr) (cap : Nat) (w : World) (hr : RowP w ao ps) (hs : ps.length ≤ 4096) :
    Calls Tryz.prog 31 #[.slice ao ps.length cap, .string n] w
      fun e w' => e = .returned (.int .i64 (ixB (fun r : Pl => r.1 == bl n) ps)) ∧ w' = w := by
  go_enter Tryz.func31, Tryz.ntmps31
  go_wp2_with fail
  go_loop [5] (fun i => ∃ k : Nat, k ≤ ps.length ∧ i = .int .i64 k ∧ Hid ((ps.take k).any (fun r : Pl => r.1 == bl n) = false)) (fun i => ps.length - (intOf i).toNat)
  case atStart => exact ⟨0, Nat.zero_le _, rfl, rfl⟩
  case round =>
    obtain ⟨k, hk, rfl, HA⟩ := hrel
    by_cases hlt : k < ps.length
    · rcases hr with he | ⟨g, o, rfl, hg, hcell⟩
      · rw [he] at hlt; simp at hlt
      obtain ⟨b, hb⟩ : ∃ b, ps[k]? = some b := ⟨ps[k], List.getElem?_eq_getElem hlt⟩
      have c1 : w.cell? ⟨g, o + k * 2, none⟩ = some (.string ⟨b.1.toArray⟩) := hcell k 0 b _ hb (by decide) rfl
      have HT := hide (anyt_succ (fun r : Pl => r.1 == bl n) hb)
      have HH := hide (fun h => ixB_at (p := fun r : Pl => r.1 == bl n) hb HA.out h)
      have hx := txt_beq b.1 n
      generalize (⟨b.1.toArray⟩ : ByteArray) = x1 at c1 hx
      clear hcell hb
      cases hok : (b.1 == bl n)
      · have HO : Hid ((ps.take (k + 1)).any (fun r : Pl => r.1 == bl n) = false) := by
          show _ = false
          rw [unhide HT, HA.out]; simpa using hok
        rw [hok] at hx
        clear hok HT HH HA
        go_wp2_with fail
        go_round
        case rel => exact ⟨k + 1, by omega, by go_num, HO⟩
        case measure => simp [intOf]; omega
      · have HO : Hid (ixB (fun r : Pl => r.1 == bl n) ps = k) := unhide HH hok
        rw [hok] at hx
        clear hok HT HH HA
        go_wp2_with fail
        go_ret
        exact ⟨ret_int HO.out.symm, rfl⟩
    · have HO : Hid (ixB (fun r : Pl => r.1 == bl n) ps = -1) := by
        show _ = _
        have := HA.out
        rw [List.take_of_length_le (by omega)] at this
        exact ixB_no this
      clear HA
      go_wp2_with fail
      go_ret
      exact ⟨ret_int HO.out.symm, rfl⟩

set_option maxHeartbeats 1000000 in
theorem pathMay_ok (s : ByteArray) (w : World) (h : cleanL (bl s) = some (bl s)) (hs : s.size ≤ maxLen) :
    Calls Tryz.prog 65 #[.string s] w fun e w' => e = .returned (.bool true) ∧ Q w w' := by
  obtain ⟨h1, h2⟩ := clean_of_cleanL h
  have HC := hide (cleanPath_any s w hs)
  rw [h1, h2, mk_bl] at HC
  clear h h1 h2
  go_enter Tryz.func65, Tryz.ntmps65
  go_wp2_with fail
  refine (unhide HC).mono ?_
  rintro e w1 ⟨rfl, q⟩
  go_wp2_with fail
  go_ret
  exact ⟨by simp, q⟩

set_option maxHeartbeats 2000000 in
theorem pathsMay_ok (ws : Ws) (ao : Option Addr) (cap : Nat) (w : World) (hr : RowT w ao ws) (h : PathsL ws) :
    Calls Tryz.prog 33 #[.slice ao ws.length cap] w fun e w' => e = .returned (.bool true) ∧ Q w w' := by
  have h8 := h.1
  have HP := hide h.2
  clear h
  go_enter Tryz.func33, Tryz.ntmps33
  go_wp2_with fail
  go_loopw [3] (fun i wr => ∃ k : Nat, k ≤ ws.length ∧ i = .int .i64 k ∧ Q w wr) (fun i _ => ws.length - (intOf i).toNat)
  case atStart => exact ⟨0, Nat.zero_le _, rfl, Q.refl _⟩
  case round =>
    obtain ⟨k, hk, rfl, hq⟩ := hrel
    by_cases hlt : k < ws.length
    · rcases hr.q hq with he | ⟨g, o, rfl, hg, hcell⟩
      · rw [he] at hlt; simp at hlt
      obtain ⟨b, hb⟩ : ∃ b, ws[k]? = some b := ⟨ws[k], List.getElem?_eq_getElem hlt⟩
      have c1 : wr.cell? ⟨g, o + k, none⟩ = some (.string ⟨b.toArray⟩) := by
        have := hcell k 0 b _ hb (by decide) rfl
        simpa using this
      have hc := unhide HP b (List.mem_of_getElem? hb)
      have HC := hide (pathMay_ok ⟨b.toArray⟩ wr hc (by have := (clean_le hc).2.1; rw [← bl_size]; show b.length ≤ maxLen; unfold maxLen; omega))
      generalize (⟨b.toArray⟩ : ByteArray) = x1 at c1 HC
      clear hcell hb hc
      go_wp2_with fail
      refine (unhide HC).mono ?_
      rintro e w1 ⟨rfl, q1⟩
      go_wp2_with fail
      go_roundw
      case rel => exact ⟨k + 1, by omega, by go_num, hq.trans q1⟩
      case measure => simp [intOf]; omega
    · go_wp2_with fail
      go_ret
      exact ⟨by simp; omega, hq⟩

def edV (x : EdA) : Value := .agg #[.slice x.2.1.1 x.1.1.length x.2.1.2, .slice x.2.2.1.1 x.1.2.1.length x.2.2.1.2, .slice x.2.2.2.1.1 x.1.2.2.1.length x.2.2.2.1.2, .slice x.2.2.2.2.1 x.1.2.2.2.1.length x.2.2.2.2.2, .string ⟨x.1.2.2.2.2.1.toArray⟩, .bool x.1.2.2.2.2.2.1, .string ⟨x.1.2.2.2.2.2.2.toArray⟩]
def bx1 (w : World) (x : EdA) : World := w.alloc (.cells (ev x).toArray 42)

set_option maxHeartbeats 4000000 in
theorem edgeMay_ok (ps : List Pl) (x : EdA) (w : World) (hx : EdRd w x) (hm : EdM ps x.1) (hp : x.1.2.2.2.2.2.2 = [] ∨ mayL x.1.2.2.2.2.2.2 = true) :
    Calls Tryz.prog 32 #[.agg #[.slice x.2.1.1 x.1.1.length x.2.1.2, .slice x.2.2.1.1 x.1.2.1.length x.2.2.1.2, .slice x.2.2.2.1.1 x.1.2.2.1.length x.2.2.2.1.2, .slice x.2.2.2.2.1 x.1.2.2.2.1.length x.2.2.2.2.2, .string ⟨x.1.2.2.2.2.1.toArray⟩, .bool x.1.2.2.2.2.2.1, .string ⟨x.1.2.2.2.2.2.2.toArray⟩]] w fun e w' => e = .returned (.bool true) ∧ Q w w' := by
  have S0 := hide (fun w2 (q : Q w w2) => pathsMay_ok x.1.1 x.2.1.1 x.2.1.2 w2 (hx.a.q q) hm.b.o)
  have S1 := hide (fun w2 (q : Q w w2) => pathsMay_ok x.1.2.1 x.2.2.1.1 x.2.2.1.2 w2 (hx.b.q q) hm.b.i)
  have S2 := hide (fun w2 (q : Q w w2) => pathsMay_ok x.1.2.2.1 x.2.2.2.1.1 x.2.2.2.1.2 w2 (hx.c.q q) hm.b.m)
  have S3 := hide (fun w2 (q : Q w w2) => pathsMay_ok x.1.2.2.2.1 x.2.2.2.2.1 x.2.2.2.2.2 w2 (hx.d.q q) hm.b.d)
  have hcs : (⟨x.1.2.2.2.2.1.toArray⟩ : ByteArray).size = x.1.2.2.2.2.1.length := by rw [← bl_size]; rfl
  have S4 : Hid (∀ w2, Calls Tryz.prog 50 #[.string ⟨x.1.2.2.2.2.1.toArray⟩, .int .i64 1, .int .i64 256] w2 fun e w' => e = .returned (.bool true) ∧ w' = w2) := by
    show ∀ w2, _
    intro w2
    have h := rplain_any ⟨x.1.2.2.2.2.1.toArray⟩ 1 256 w2 (by rw [hcs]; have := hm.c2; unfold maxLen; omega)
    have e : (plainL (bl ⟨x.1.2.2.2.2.1.toArray⟩) && decide ((1 : Int) ≤ ((⟨x.1.2.2.2.2.1.toArray⟩ : ByteArray).size : Int)) && decide (((⟨x.1.2.2.2.2.1.toArray⟩ : ByteArray).size : Int) ≤ 256)) = true := by
      rw [hcs, show bl ⟨x.1.2.2.2.2.1.toArray⟩ = x.1.2.2.2.2.1 from rfl, hm.c]
      have h1 := hm.c1
      have h2 := hm.c2
      simp; omega
    rwa [e] at h
  have hlen : 0 < x.1.1.length := List.length_pos_iff.2 hm.b.o0
  have qb : Q w (bx1 w x) := (Q.refl w).alloc _
  have b1 : Blk (bx1 w x) w.heap.size (ev x).toArray 42 := Blk.new w _ _
  have HB1 := hide (fun w2 (q : Q (bx1 w x) w2) => b1.q q)
  clear b1 hx hm
  have HPL : Hid ((bl (⟨x.1.2.2.2.2.2.2.toArray⟩ : ByteArray) = []) ∨ (bl (⟨x.1.2.2.2.2.2.2.toArray⟩ : ByteArray) ≠ [] ∧ ∀ w2, Calls Tryz.prog 30 #[.string ⟨x.1.2.2.2.2.2.2.toArray⟩] w2 fun e w' => e = .returned (.bool true) ∧ w' = w2)) := by
    show _ ∨ _
    rcases hp with hp | hp
    · exact Or.inl hp
    · by_cases h0 : x.1.2.2.2.2.2.2 = []
      · exact Or.inl h0
      · refine Or.inr ⟨h0, fun w2 => ?_⟩
        have hb : mayB ⟨x.1.2.2.2.2.2.2.toArray⟩ = true := by rw [mayB_mayL]; exact hp
        have := nameMay_any ⟨x.1.2.2.2.2.2.2.toArray⟩ w2 (by have := mayB_size hb; unfold maxLen; omega)
        rwa [hb] at this
  clear hp hcs
  go_enter Tryz.func32, Tryz.ntmps32
  go_wp2_with fail
  change Calls _ _ _ (bx1 w x) _
  generalize bx1 w x = wb at *
  generalize hG : w.heap.size = G at HB1 ⊢
  clear hG
  refine (unhide S0 _ qb).mono ?_
  rintro e w1 ⟨rfl, q1⟩
  have qw1 : Q wb w1 := q1
  have c1 : w1.cell? ⟨G, 1, none⟩ = some (.slice x.2.2.1.1 x.1.2.1.length x.2.2.1.2) := (unhide HB1 _ qw1).cell 1 rfl
  go_wp2_with fail
  refine (unhide S1 _ (qb.trans qw1)).mono ?_
  rintro e w2 ⟨rfl, q2⟩
  have qw2 := qw1.trans q2
  have c2 : w2.cell? ⟨G, 2, none⟩ = some (.slice x.2.2.2.1.1 x.1.2.2.1.length x.2.2.2.1.2) := (unhide HB1 _ qw2).cell 2 rfl
  clear c1
  go_wp2_with fail
  refine (unhide S2 _ (qb.trans qw2)).mono ?_
  rintro e w3 ⟨rfl, q3⟩
  have qw3 := qw2.trans q3
  have c3 : w3.cell? ⟨G, 3, none⟩ = some (.slice x.2.2.2.2.1 x.1.2.2.2.1.length x.2.2.2.2.2) := (unhide HB1 _ qw3).cell 3 rfl
  clear c2
  go_wp2_with fail
  refine (unhide S3 _ (qb.trans qw3)).mono ?_
  rintro e w4 ⟨rfl, q4⟩
  have qw4 := qw3.trans q4
  have c4 : w4.cell? ⟨G, 4, none⟩ = some (.string ⟨x.1.2.2.2.2.1.toArray⟩) := (unhide HB1 _ qw4).cell 4 rfl
  have c6 : w4.cell? ⟨G, 6, none⟩ = some (.string ⟨x.1.2.2.2.2.2.2.toArray⟩) := (unhide HB1 _ qw4).cell 6 rfl
  clear c3
  generalize (⟨x.1.2.2.2.2.2.2.toArray⟩ : ByteArray) = pl at *
  go_wp2_with fail
  refine (unhide S4 _).mono ?_
  rintro e w5 ⟨rfl, rfl⟩
  rcases unhide HPL with h0 | ⟨h0, hn⟩
  · have g1 := is_emp h0
    clear h0
    go_wp2_with fail
    go_ret
    exact ⟨rfl, qb.trans qw4⟩
  · have g1 := no_emp h0
    have HN := hide hn
    clear h0 hn
    go_wp2_with fail
    refine (unhide HN _).mono ?_
    rintro e w6 ⟨rfl, rfl⟩
    go_wp2_with fail
    go_ret
    exact ⟨rfl, qb.trans qw4⟩

set_option maxRecDepth 20000 in
set_option maxHeartbeats 8000000 in
theorem graphMay_ok (g : Gr) (es : List EdA) (eo po dd : Option Addr) (ec pc dc : Nat) (w : World) (hg : GrR w g es eo po dd) (hm : GrMay g) :
    Calls Tryz.prog 16 #[.agg #[.slice eo es.length ec, .slice po g.2.1.length pc, .slice dd g.2.2.length dc]] w fun e w' => e = .returned (.bool true) ∧ Q w w' := by
  have HG := hide hg
  have HM := hide hm
  have hlp := hm.p.1
  have hle : es.length ≤ 16 := by have := hm.le; rw [← hg.em, List.length_map] at this; exact this
  clear hg hm
  have b1 : Blk (w.alloc (.cells #[.slice eo es.length ec, .slice po g.2.1.length pc, .slice dd g.2.2.length dc] 26)) w.heap.size #[.slice eo es.length ec, .slice po g.2.1.length pc, .slice dd g.2.2.length dc] 26 := Blk.new w _ _
  have qb : Q w (w.alloc (.cells #[.slice eo es.length ec, .slice po g.2.1.length pc, .slice dd g.2.2.length dc] 26)) := (Q.refl w).alloc _
  have HB1 := hide b1
  clear b1
  go_enter Tryz.func16, Tryz.ntmps16
  go_wp2_with fail
  generalize hX : w.heap.size = X at HB1 ⊢
  clear hX
  generalize w.alloc (.cells #[.slice eo es.length ec, .slice po g.2.1.length pc, .slice dd g.2.2.length dc] 26) = wb at *
  go_loopw [3] (fun i wr => ∃ k : Nat, k ≤ g.2.1.length ∧ i = .int .i64 k ∧ Q wb wr) (fun i _ => g.2.1.length - (intOf i).toNat)
  case atStart => exact ⟨0, Nat.zero_le _, rfl, Q.refl _⟩
  case round =>
    obtain ⟨k, hk, rfl, hq⟩ := hrel
    have x1 : wr.cell? ⟨X, 1, none⟩ = some (.slice po g.2.1.length pc) := ((unhide HB1).q hq).cell 1 rfl
    by_cases hlt : k < g.2.1.length
    · have hrow := ((unhide HG).q' (qb.trans hq)).p
      have HRW := hide hrow
      rcases hrow with he | ⟨gg, oo, rfl, hcg, hcc⟩
      · rw [he] at hlt; simp at hlt
      obtain ⟨p, hp⟩ : ∃ p, g.2.1[k]? = some p := ⟨g.2.1[k], List.getElem?_eq_getElem hlt⟩
      obtain ⟨m1, m2, m3, m4⟩ := (unhide HM).p.2 k p hp
      have c0 : ∀ u : Aft wr, u.to.cell? ⟨gg, oo + k * 2, none⟩ = some (.string ⟨p.1.toArray⟩) := Aft.cell (hcc k 0 p _ hp (by decide) rfl) hcg
      have c1 : ∀ u : Aft wr, u.to.cell? ⟨gg, oo + k * 2 + 1, none⟩ = some (.int .i64 p.2) := Aft.cell (hcc k 1 p _ hp (by decide) rfl) hcg
      have y1 : ∀ u : Aft wr, u.to.cell? ⟨X, 1, none⟩ = some (.slice (some ⟨gg, oo, none⟩) g.2.1.length pc) := Aft.cell x1 ((unhide HB1).q hq).hi
      have hb : mayB ⟨p.1.toArray⟩ = true := by rw [mayB_mayL]; exact m1
      have HC1 : Hid (∀ u : Aft wr, Calls Tryz.prog 30 #[.string ⟨p.1.toArray⟩] u.to fun e w' => e = .returned (.bool true) ∧ Q u.to w') := by
        show ∀ u : Aft wr, _
        intro u
        have := nameMay_any ⟨p.1.toArray⟩ u.to (by have := mayB_size hb; unfold maxLen; omega)
        rw [hb] at this
        exact this.mono (fun e w' ⟨h1, h2⟩ => ⟨h1, h2 ▸ Q.refl _⟩)
      have HC2 : Hid (∀ u : Aft wr, Calls Tryz.prog 31 #[.slice (some ⟨gg, oo, none⟩) g.2.1.length pc, .string ⟨p.1.toArray⟩] u.to fun e w' => e = .returned (.int .i64 k) ∧ Q u.to w') := by
        show ∀ u : Aft wr, _
        intro u
        have := poolAt_any g.2.1 ⟨p.1.toArray⟩ (some ⟨gg, oo, none⟩) pc u.to ((unhide HRW).q u.q) (by omega)
        rw [ixB_at (p := fun r : Pl => r.1 == bl ⟨p.1.toArray⟩) hp m4 (by show (p.1 == p.1) = true; simp)] at this
        exact this.mono (fun e w' ⟨h1, h2⟩ => ⟨h1, h2 ▸ Q.refl _⟩)
      have hne := Aft.ne wr
      have d1 : (1 : Int) ≤ (p.2 : Int) := by omega
      have d2 : (p.2 : Int) ≤ 8 := by omega
      clear hcc hp m1 m2 m3 m4 hb HRW
      generalize (⟨p.1.toArray⟩ : ByteArray) = pn at *
      generalize (p.2 : Int) = pd at *
      have d3 : decide (pd < 1) = false := decide_eq_false (by omega)
      have d4 : decide (8 < pd) = false := decide_eq_false (by omega)
      clear d1 d2
      go_wp2_with fail
      refine wp_region_aft (by kernel_rfl) (by kernel_rfl) ?_
      repeat (go_big_quiet_step (first | (go_at_call 30; exact Calls.aft (unhide HC1 _)) | (go_at_call 31; exact Calls.aft (unhide HC2 _))))
      refine wpQuiet_nil ?_
      intro _ hw'
      obtain ⟨u, hw''⟩ := hw'
      subst hw''
      have qu := u.q
      generalize u.to = w1 at qu ⊢
      clear c0 c1 y1 hne
      go_wp2_with fail
      go_roundw
      case rel => exact ⟨k + 1, by omega, by go_num, hq.trans qu⟩
      case measure => simp [intOf]; omega
    · go_wp2_with fail
      go_loopw [4] (fun i wq => ∃ k : Nat, k ≤ es.length ∧ i = .int .i64 k ∧ Q wb wq) (fun i _ => es.length - (intOf i).toNat)
      case atStart => exact ⟨0, Nat.zero_le _, rfl, hq⟩
      case round =>
        obtain ⟨m, hm, rfl, hq2⟩ := hrel
        have x0 : wr.cell? ⟨X, 0, none⟩ = some (.slice eo es.length ec) := ((unhide HB1).q hq2).cell 0 rfl
        have x1' : wr.cell? ⟨X, 1, none⟩ = some (.slice po g.2.1.length pc) := ((unhide HB1).q hq2).cell 1 rfl
        have x2 : wr.cell? ⟨X, 2, none⟩ = some (.slice dd g.2.2.length dc) := ((unhide HB1).q hq2).cell 2 rfl
        by_cases hlt2 : m < es.length
        · have hrow := ((unhide HG).q' (qb.trans hq2)).e
          rcases hrow with he | ⟨gg, oo, rfl, hcg, hcc⟩
          · rw [he] at hlt2; simp at hlt2
          obtain ⟨p, hp⟩ : ∃ p, es[m]? = some p := ⟨es[m], List.getElem?_eq_getElem hlt2⟩
          have hpe : p.1 ∈ g.1 := by rw [← (unhide HG).em]; exact List.mem_map_of_mem (List.mem_of_getElem? hp)
          have hE := (unhide HM).e p.1 hpe
          have c0 : ∀ u : Aft wr, u.to.cell? ⟨gg, oo + m * 7, none⟩ = some (.slice p.2.1.1 p.1.1.length p.2.1.2) := Aft.cell (hcc m 0 p _ hp (by decide) rfl) hcg
          have c1 : ∀ u : Aft wr, u.to.cell? ⟨gg, oo + m * 7 + 1, none⟩ = some (.slice p.2.2.1.1 p.1.2.1.length p.2.2.1.2) := Aft.cell (hcc m 1 p _ hp (by decide) rfl) hcg
          have c2 : ∀ u : Aft wr, u.to.cell? ⟨gg, oo + m * 7 + 2, none⟩ = some (.slice p.2.2.2.1.1 p.1.2.2.1.length p.2.2.2.1.2) := Aft.cell (hcc m 2 p _ hp (by decide) rfl) hcg
          have c3 : ∀ u : Aft wr, u.to.cell? ⟨gg, oo + m * 7 + 3, none⟩ = some (.slice p.2.2.2.2.1 p.1.2.2.2.1.length p.2.2.2.2.2) := Aft.cell (hcc m 3 p _ hp (by decide) rfl) hcg
          have c4 : ∀ u : Aft wr, u.to.cell? ⟨gg, oo + m * 7 + 4, none⟩ = some (.string ⟨p.1.2.2.2.2.1.toArray⟩) := Aft.cell (hcc m 4 p _ hp (by decide) rfl) hcg
          have c5 : ∀ u : Aft wr, u.to.cell? ⟨gg, oo + m * 7 + 5, none⟩ = some (.bool p.1.2.2.2.2.2.1) := Aft.cell (hcc m 5 p _ hp (by decide) rfl) hcg
          have c6 : ∀ u : Aft wr, u.to.cell? ⟨gg, oo + m * 7 + 6, none⟩ = some (.string ⟨p.1.2.2.2.2.2.2.toArray⟩) := Aft.cell (hcc m 6 p _ hp (by decide) rfl) hcg
          have y0 : ∀ u : Aft wr, u.to.cell? ⟨X, 0, none⟩ = some (.slice (some ⟨gg, oo, none⟩) es.length ec) := Aft.cell x0 ((unhide HB1).q hq2).hi
          have y1 : ∀ u : Aft wr, u.to.cell? ⟨X, 1, none⟩ = some (.slice po g.2.1.length pc) := Aft.cell x1' ((unhide HB1).q hq2).hi
          have hmay : p.1.2.2.2.2.2.2 = [] ∨ mayL p.1.2.2.2.2.2.2 = true := by
            rcases hE.b.p with h | h
            · exact Or.inl h
            · obtain ⟨x, hx, hxe⟩ := List.any_eq_true.1 h
              obtain ⟨j, hj⟩ := List.mem_iff_getElem?.1 hx
              have := ((unhide HM).p.2 j x hj).1
              rw [eq_of_beq hxe] at this
              exact Or.inr this
          have HC1 : Hid (∀ u : Aft wr, _) := fun u : Aft wr => edgeMay_ok g.2.1 p u.to (((unhide HG).q p (List.mem_of_getElem? hp)).q ((qb.trans hq2).trans u.q)) hE hmay
          have HC2 : Hid (∀ u : Aft wr, _) := fun u : Aft wr => (poolAt_any g.2.1 ⟨p.1.2.2.2.2.2.2.toArray⟩ po pc u.to (((unhide HG).q' ((qb.trans hq2).trans u.q)).p) (by omega)).mono (fun e w' (h : _ ∧ _) => (⟨h.1, h.2 ▸ Q.refl _⟩ : _ ∧ Q u.to w'))
          have hne := Aft.ne wr
          have hPL := hE.b.p
          clear hcc hp hpe hE hmay x1' x2
          by_cases h0 : bl (⟨p.1.2.2.2.2.2.2.toArray⟩ : ByteArray) = []
          · have g1 := is_emp h0
            clear h0 hPL HC2
            generalize (⟨p.1.2.2.2.2.2.2.toArray⟩ : ByteArray) = pl at *
            go_wp2_with fail
            refine wp_region_aft (by kernel_rfl) (by kernel_rfl) ?_
            repeat (go_big_quiet_step ((go_at_call 32; exact Calls.aft (unhide HC1 _))))
            refine wpQuiet_nil ?_
            intro _ hw'
            obtain ⟨u, hw''⟩ := hw'
            subst hw''
            have qu := u.q
            generalize u.to = w1 at qu ⊢
            clear c0 c1 c2 c3 c4 c5 c6 y0 y1 hne
            go_wp2_with fail
            go_roundw
            case rel => exact ⟨m + 1, by omega, by go_num, hq2.trans qu⟩
            case measure => simp [intOf]; omega
          · have g1 := no_emp h0
            have g2 : decide (ixB (fun r : Pl => r.1 == bl (⟨p.1.2.2.2.2.2.2.toArray⟩ : ByteArray)) g.2.1 < 0) = false := by
              refine decide_eq_false ?_
              rcases hPL with h | h
              · exact absurd h h0
              · have := ixB_dec (fun r : Pl => r.1 == p.1.2.2.2.2.2.2) g.2.1
                rw [show (g.2.1.any fun r : Pl => r.1 == p.1.2.2.2.2.2.2) = true from h] at this
                have := of_decide_eq_true this
                show ¬ (ixB (fun r : Pl => r.1 == p.1.2.2.2.2.2.2) g.2.1 < 0)
                omega
            clear h0 hPL
            generalize ixB (fun r : Pl => r.1 == bl (⟨p.1.2.2.2.2.2.2.toArray⟩ : ByteArray)) g.2.1 = ix at *
            generalize (⟨p.1.2.2.2.2.2.2.toArray⟩ : ByteArray) = pl at *
            go_wp2_with fail
            refine wp_region_aft (by kernel_rfl) (by kernel_rfl) ?_
            repeat (go_big_quiet_step (first | (go_at_call 32; exact Calls.aft (unhide HC1 _)) | (go_at_call 31; exact Calls.aft (unhide HC2 _))))
            refine wpQuiet_nil ?_
            intro _ hw'
            obtain ⟨u, hw''⟩ := hw'
            subst hw''
            have qu := u.q
            generalize u.to = w1 at qu ⊢
            clear c0 c1 c2 c3 c4 c5 c6 y0 y1 hne
            go_wp2_with fail
            go_roundw
            case rel => exact ⟨m + 1, by omega, by go_num, hq2.trans qu⟩
            case measure => simp [intOf]; omega
        · have HD := hide (pathsMay_ok g.2.2 dd dc wr (((unhide HG).q' (qb.trans hq2)).d) (unhide HM).d)
          go_wp2_with fail
          refine (unhide HD).mono ?_
          rintro e w1 ⟨rfl, q1⟩
          go_wp2_with fail
          go_ret
          exact ⟨rfl, (qb.trans hq2).trans q1⟩

end Go.Proofs.YtgfegbeickaknaaGreatDoor
