/- What package graph's Check and Maker answer; the conditions: the graph lies in memory, no text is longer than a string can be. -/
import Derived.Test.YtdcdghofkpbljaaDoorGfMay
import Derived.Test.YtdcdghofkpbljaaDoorGfTwice
namespace Go.Proofs.YtdcdghofkpbljaaDoor
open Go.RowKit

theorem gm_facts {g : Gh} (h : gmB g = true) : g.1.length ≤ 16 ∧ ∀ e ∈ g.1, e.1.length ≤ 8 := by
  unfold gmB esB at h
  simp only [Bool.and_eq_true, decide_eq_true_eq] at h
  refine ⟨h.2.2.1, fun e he => ?_⟩
  have h1 := List.all_eq_true.1 h.2.2.2 e he
  unfold edM' edOk ptsB at h1
  simp only [Bool.and_eq_true, decide_eq_true_eq] at h1
  exact h1.1.2.1.1
theorem ck_form {g : Gh} (h : gmB g = false) : ckE g = 900 := by unfold ckE; rw [h]; rfl
theorem ck_two {g : Gh} (h : gmB g = true) : ckE g = if twB (ouL g.1) then 901 else 0 := by unfold ckE; rw [h]; rfl

def grB (w : World) (es : List EdA) (g : Gh) (eo po dd : Option Addr) (ec pc dc : Nat) : World := w.alloc (.cells #[.slice eo es.length ec, .slice po g.2.1.length pc, .slice dd g.2.2.length dc] 27)
theorem grB_blk (w : World) (es : List EdA) (g : Gh) (eo po dd : Option Addr) (ec pc dc : Nat) : Blk (grB w es g eo po dd ec pc dc) w.heap.size #[.slice eo es.length ec, .slice po g.2.1.length pc, .slice dd g.2.2.length dc] 27 := Blk.new w _ _
theorem grB_q (w : World) (es : List EdA) (g : Gh) (eo po dd : Option Addr) (ec pc dc : Nat) : Q w (grB w es g eo po dd ec pc dc) := (Q.refl w).alloc _

set_option maxHeartbeats 2000000 in
theorem gCk_any (g : Gh) (es : List EdA) (eo po dd : Option Addr) (ec pc dc : Nat) (w : World) (hg : GfR w g es eo po dd) (hc : g.2.1.length ≤ pc) (hcap : pc ≤ maxLen) :
    Calls Tryd.prog 12 #[.agg #[.slice eo es.length ec, .slice po g.2.1.length pc, .slice dd g.2.2.length dc]] w fun e w' => e = .returned (.int .i64 (ckE g)) ∧ Q w w' := by
  have S1 := hide (fun w2 (q : Q w w2) => gMay_any g es eo po dd ec pc dc w2 (hg.q' q) hc hcap)
  have qb := grB_q w es g eo po dd ec pc dc
  have HB1 := hide (grB_blk w es g eo po dd ec pc dc)
  cases hm : gmB g
  · have HO : Hid (ckE g = 900) := ck_form hm
    rw [hm] at S1
    clear hg hc hcap hm
    go_enter Tryd.func12, Tryd.ntmps12
    go_wp2_with fail
    change Calls _ _ _ (grB w es g eo po dd ec pc dc) _
    refine (unhide S1 _ qb).mono ?_
    rintro e w1 ⟨rfl, q1⟩
    go_wp2_with fail
    go_ret
    exact ⟨ret_int HO.out.symm, qb.trans q1⟩
  · have hf := gm_facts hm
    have S2 := hide (fun w2 (q : Q w w2) => twice_any es eo ec w2 (hg.e.q q) (fun x hx => (hg.q x hx).q q) (by rw [hg.len]; exact hf.1) (fun x hx => hf.2 _ (by rw [← hg.em]; exact List.mem_map_of_mem hx)))
    rw [hg.em] at S2
    have HO := hide (ck_two hm)
    rw [hm] at S1
    clear hg hc hcap hm hf
    generalize twB (ouL g.1) = tb at *
    go_enter Tryd.func12, Tryd.ntmps12
    go_wp2_with fail
    change Calls _ _ _ (grB w es g eo po dd ec pc dc) _
    generalize grB w es g eo po dd ec pc dc = wb at *
    generalize hX : w.heap.size = X at HB1 ⊢
    clear hX
    refine (unhide S1 _ qb).mono ?_
    rintro e w1 ⟨rfl, q1⟩
    have c1 : w1.cell? ⟨X, 0, none⟩ = some (.slice eo es.length ec) := ((unhide HB1).q q1).cell 0 rfl
    go_wp2_with fail
    refine (unhide S2 _ (qb.trans q1)).mono ?_
    rintro e w2 ⟨rfl, q2⟩
    cases tb
    · go_wp2_with fail
      go_ret
      exact ⟨ret_int (unhide HO).symm, qb.trans (q1.trans q2)⟩
    · go_wp2_with fail
      go_ret
      exact ⟨ret_int (unhide HO).symm, qb.trans (q1.trans q2)⟩

/-- Which edge, is there one. -/
def mkI (g : Gh) (n : Tx) : Int := if ckE g = 0 then max 0 (mkA g.1 n) else 0
def mkIs (g : Gh) (n : Tx) : Bool := ckE g == 0 && decide (0 ≤ mkA g.1 n)
theorem mkA_map (es : List EdA) (n : Tx) : mkA (es.map Prod.fst) n = ixB (fun x : EdA => x.1.1.contains n) es := by
  unfold mkA ixB
  rw [List.findIdx?_map]
  rfl

set_option maxRecDepth 20000 in
set_option maxHeartbeats 4000000 in
theorem gMk_any (g : Gh) (n : ByteArray) (es : List EdA) (eo po dd : Option Addr) (ec pc dc : Nat) (w : World) (hg : GfR w g es eo po dd) (hc : g.2.1.length ≤ pc) (hcap : pc ≤ maxLen) :
    Calls Tryd.prog 9 #[.agg #[.slice eo es.length ec, .slice po g.2.1.length pc, .slice dd g.2.2.length dc], .string n] w fun e w' => e = .returned (.tuple #[.int .i64 (mkI g (bl n)), .bool (mkIs g (bl n)), .int .i64 (ckE g)]) ∧ Q w w' := by
  have S1 := hide (fun w2 (q : Q w w2) => gCk_any g es eo po dd ec pc dc w2 (hg.q' q) hc hcap)
  have qb := grB_q w es g eo po dd ec pc dc
  have HB1 := hide (grB_blk w es g eo po dd ec pc dc)
  by_cases h0 : ckE g ≠ 0
  · have h1 : (ckE g != 0) = true := by simpa using h0
    have h2 : (ckE g == 0) = false := by simpa using h0
    have HO : Hid (mkI g (bl n) = 0 ∧ mkIs g (bl n) = false) := by
      show _ ∧ _
      unfold mkI mkIs
      rw [if_neg h0, h2]; exact ⟨rfl, rfl⟩
    clear h0 hg hc hcap
    generalize ckE g = ck at *
    go_enter Tryd.func9, Tryd.ntmps9
    go_wp2_with fail
    change Calls _ _ _ (grB w es g eo po dd ec pc dc) _
    refine (unhide S1 _ qb).mono ?_
    rintro e w1 ⟨rfl, q1⟩
    go_wp2_with fail
    go_ret3
    exact ⟨by rw [HO.out.1, HO.out.2]; rfl, qb.trans q1⟩
  · have h0' : ckE g = 0 := by simpa using h0
    have hm : gmB g = true := by
      cases hm : gmB g with
      | true => rfl
      | false => rw [ck_form hm] at h0'; cases h0'
    have hf := gm_facts hm
    have h16 : es.length ≤ 16 := by rw [hg.len]; exact hf.1
    have HMA := hide (mkA_map es (bl n))
    rw [hg.em] at HMA
    have HI : Hid (mkI g (bl n) = max 0 (mkA g.1 (bl n)) ∧ mkIs g (bl n) = decide (0 ≤ mkA g.1 (bl n))) := by
      show _ ∧ _
      unfold mkI mkIs
      rw [h0']; exact ⟨rfl, rfl⟩
    rw [h0'] at S1 ⊢
    have HE := hide hg.e
    have HQ0 := hide (fun x (hx : x ∈ es) => (⟨hg.q x hx, (hg.ez hx).a.n⟩ : EdRd w x ∧ x.1.1.length ≤ 140737488355328))
    clear hg hc hcap hm hf h0 h0'
    go_enter Tryd.func9, Tryd.ntmps9
    go_wp2_with fail
    change Calls _ _ _ (grB w es g eo po dd ec pc dc) _
    generalize grB w es g eo po dd ec pc dc = wb at *
    generalize hX : w.heap.size = X at HB1 ⊢
    clear hX
    refine (unhide S1 _ qb).mono ?_
    rintro e w1 ⟨rfl, q1⟩
    have c1 : w1.cell? ⟨X, 0, none⟩ = some (.slice eo es.length ec) := ((unhide HB1).q q1).cell 0 rfl
    have qw1 := qb.trans q1
    clear S1
    go_wp2_with fail
    clear c1
    go_loopw [18] (fun i wr => ∃ k : Nat, k ≤ es.length ∧ i = .int .i64 k ∧ Hid ((es.take k).any (fun x : EdA => x.1.1.contains (bl n)) = false) ∧ Q w wr) (fun i _ => es.length - (intOf i).toNat)
    case atStart => exact ⟨0, Nat.zero_le _, rfl, rfl, qw1⟩
    case round =>
      obtain ⟨k, hk, rfl, HA, hq⟩ := hrel
      by_cases hlt : k < es.length
      · rcases (unhide HE).q hq with he | ⟨g', o, rfl, hg', hcell⟩
        · rw [he] at hlt; simp at hlt
        · obtain ⟨b, hb⟩ : ∃ b, es[k]? = some b := ⟨es[k], List.getElem?_eq_getElem hlt⟩
          have c0 : wr.cell? ⟨g', o + k * 7, none⟩ = some (.slice b.2.1.1 b.1.1.length b.2.1.2) := hcell k 0 b _ hb (by decide) rfl
          have c1 : wr.cell? ⟨g', o + k * 7 + 1, none⟩ = some (.slice b.2.2.1.1 b.1.2.1.length b.2.2.1.2) := hcell k 1 b _ hb (by decide) rfl
          have c2 : wr.cell? ⟨g', o + k * 7 + 2, none⟩ = some (.slice b.2.2.2.1.1 b.1.2.2.1.length b.2.2.2.1.2) := hcell k 2 b _ hb (by decide) rfl
          have c3 : wr.cell? ⟨g', o + k * 7 + 3, none⟩ = some (.slice b.2.2.2.2.1 b.1.2.2.2.1.length b.2.2.2.2.2) := hcell k 3 b _ hb (by decide) rfl
          have c4 : wr.cell? ⟨g', o + k * 7 + 4, none⟩ = some (.string ⟨b.1.2.2.2.2.1.toArray⟩) := hcell k 4 b _ hb (by decide) rfl
          have c5 : wr.cell? ⟨g', o + k * 7 + 5, none⟩ = some (.bool b.1.2.2.2.2.2.1) := hcell k 5 b _ hb (by decide) rfl
          have c6 : wr.cell? ⟨g', o + k * 7 + 6, none⟩ = some (.string ⟨b.1.2.2.2.2.2.2.toArray⟩) := hcell k 6 b _ hb (by decide) rfl
          have hmem := List.mem_of_getElem? hb
          have HC := hide (fun w2 (q : Q w w2) => sxCo_any b.1.1 n b.2.1.1 b.2.1.2 w2 ((unhide HQ0 b hmem).1.a.q q) (unhide HQ0 b hmem).2)
          have HT := hide (anyt_succ (fun x : EdA => x.1.1.contains (bl n)) hb)
          have HH := hide (fun h => ixB_at (p := fun x : EdA => x.1.1.contains (bl n)) hb HA.out h)
          clear hcell hb hmem
          cases hok : b.1.1.contains (bl n)
          · have HO : Hid ((es.take (k + 1)).any (fun x : EdA => x.1.1.contains (bl n)) = false) := by
              show _ = false
              rw [unhide HT, HA.out]; simpa using hok
            rw [hok] at HC
            clear hok HT HH HA
            go_wp2_with fail
            refine (unhide HC _ (hq.alloc _)).mono ?_
            rintro e w2 ⟨rfl, rfl⟩
            go_wp2_with fail
            go_roundw
            case rel => exact ⟨k + 1, by omega, by go_num, HO, hq.alloc _⟩
            case measure => simp [intOf]; omega
          · have HO : Hid (ixB (fun x : EdA => x.1.1.contains (bl n)) es = k) := unhide HH hok
            rw [hok] at HC
            have HR : Hid (mkI g (bl n) = k ∧ mkIs g (bl n) = true) := by
              show _ ∧ _
              rw [HI.out.1, HI.out.2, HMA.out, HO.out]
              exact ⟨by omega, by simp⟩
            clear hok HT HH HA HO
            go_wp2_with fail
            refine (unhide HC _ (hq.alloc _)).mono ?_
            rintro e w2 ⟨rfl, rfl⟩
            go_wp2_with fail
            go_ret3
            exact ⟨by rw [HR.out.1, HR.out.2]; rfl, hq.alloc _⟩
      · have HR : Hid (mkI g (bl n) = 0 ∧ mkIs g (bl n) = false) := by
          show _ ∧ _
          have := HA.out
          rw [List.take_of_length_le (by omega)] at this
          rw [HI.out.1, HI.out.2, HMA.out, ixB_no this]
          exact ⟨rfl, rfl⟩
        clear HA
        go_wp2_with fail
        go_ret3
        exact ⟨by rw [HR.out.1, HR.out.2]; rfl, hq⟩

end Go.Proofs.YtdcdghofkpbljaaDoor
