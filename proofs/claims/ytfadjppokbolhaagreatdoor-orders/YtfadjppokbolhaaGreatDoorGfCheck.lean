/- What package graph's Check and Maker answer; the conditions: the graph lies in memory, no text is longer than a string can be. -/
import Derived.Test.YtfadjppokbolhaaGreatDoorGfMay
import Derived.Test.YtfadjppokbolhaaGreatDoorGfTwice
namespace Go.Proofs.YtfadjppokbolhaaGreatDoor
open Go.RowKit

theorem gm_facts {g : Gh} (h : gmB g = true) : g.1.length ≤ 16 ∧ ∀ e ∈ g.1, e.1.length ≤ 8 := by
  unfold gmB esB at h
  simp only [Bool.and_eq_true, decide_eq_true_eq] at h
  refine ⟨h.2.2.1, fun e he => ?_⟩
  have h1 := List.all_eq_true.1 h.2.2.2 e he
  unfold edM' edOk ptsB at h1
  simp only [Bool.and_eq_true, decide_eq_true_eq] at h1
  exact h1.1.2.1.1
theorem ck_form {g : Gh} (h : gmB g = false) : ckE g = 900 := by unfold ckE; rw [h]; rfl
theorem ck_two {g : Gh} (h : gmB g = true) : ckE g = if twB (ouL g.1) then 901 else 0 := by unfold ckE; rw [h]; rfl

def grB (w : World) (es : List EdA) (g : Gh) (eo po dd : Option Addr) (ec pc dc : Nat) : World := w.alloc (.cells #[.slice eo es.length ec, .slice po g.2.1.length pc, .slice dd g.2.2.length dc] 26)
theorem grB_blk (w : World) (es : List EdA) (g : Gh) (eo po dd : Option Addr) (ec pc dc : Nat) : Blk (grB w es g eo po dd ec pc dc) w.heap.size #[.slice eo es.length ec, .slice po g.2.1.length pc, .slice dd g.2.2.length dc] 26 := Blk.new w _ _
theorem grB_q (w : World) (es : List EdA) (g : Gh) (eo po dd : Option Addr) (ec pc dc : Nat) : Q w (grB w es g eo po dd ec pc dc) := (Q.refl w).alloc _

set_option maxHeartbeats 2000000 in
theorem gCk_any (g : Gh) (es : List EdA) (eo po dd : Option Addr) (ec pc dc : Nat) (w : World) (hg : GfR w g es eo po dd) (hc : g.2.1.length ≤ pc) (hcap : pc ≤ maxLen) :
    Calls Tryz.prog 13 #[.agg #[.slice eo es.length ec, .slice po g.2.1.length pc, .slice dd g.2.2.length dc]] w fun e w' => e = .returned (.int .i64 (ckE g)) ∧ Q w w' := by
  have S1 := hide (fun w2 (q : Q w w2) => gMay_any g es eo po dd ec pc dc w2 (hg.q' q) hc hcap)
  have qb := grB_q w es g eo po dd ec pc dc
  have HB1 := hide (grB_blk w es g eo po dd ec pc dc)
  cases hm : gmB g
  · have HO : Hid (ckE g = 900) := ck_form hm
    rw [hm] at S1
    clear hg hc hcap hm
    go_enter Tryz.func13, Tryz.ntmps13
    go_wp2_with fail
    change Calls _ _ _ (grB w es g eo po dd ec pc dc) _
    refine (unhide S1 _ qb).mono ?_
    rintro e w1 ⟨rfl, q1⟩
    go_wp2_with fail
    go_ret
    exact ⟨ret_int HO.out.symm, qb.trans q1⟩
  · have hf := gm_facts hm
    have S2 := hide (fun w2 (q : Q w w2) => twice_any es eo ec w2 (hg.e.q q) (fun x hx => (hg.q x hx).q q) (by rw [hg.len]; exact hf.1) (fun x hx => hf.2 _ (by rw [← hg.em]; exact List.mem_map_of_mem hx)))
    rw [hg.em] at S2
    have HO := hide (ck_two hm)
    rw [hm] at S1
    clear hg hc hcap hm hf
    generalize twB (ouL g.1) = tb at *
    go_enter Tryz.func13, Tryz.ntmps13
    go_wp2_with fail
    change Calls _ _ _ (grB w es g eo po dd ec pc dc) _
    generalize grB w es g eo po dd ec pc dc = wb at *
    generalize hX : w.heap.size = X at HB1 ⊢
    clear hX
    refine (unhide S1 _ qb).mono ?_
    rintro e w1 ⟨rfl, q1⟩
    have c1 : w1.cell? ⟨X, 0, none⟩ = some (.slice eo es.length ec) := ((unhide HB1).q q1).cell 0 rfl
    go_wp2_with fail
    refine (unhide S2 _ (qb.trans q1)).mono ?_
    rintro e w2 ⟨rfl, q2⟩
    cases tb
    · go_wp2_with fail
      go_ret
      exact ⟨ret_int (unhide HO).symm, qb.trans (q1.trans q2)⟩
    · go_wp2_with fail
      go_ret
      exact ⟨ret_int (unhide HO).symm, qb.trans (q1.trans q2)⟩

/-- Which edge, is there one. -/
def mkI (g : Gh) (n : Tx) : Int := if ckE g = 0 then max 0 (mkA g.1 n) else 0
def mkIs (g : Gh) (n : Tx) : Bool := ckE g == 0 && decide (0 ≤ mkA g.1 n)
theorem mkA_map (es : List EdA) (n : Tx) : mkA (es.map Prod.fst) n = ixB (fun x : EdA => x.1.1.contains n) es := by
  unfold mkA ixB
  rw [List.findIdx?_map]
  rfl


end Go.Proofs.YtfadjppokbolhaaGreatDoor
