/- What package words' names, part and Build answer, for every text; the conditions: the lengths. -/
import Derived.Test.YtpddckgkaopnlaaGreatDoorWk1
import Derived.Deep.AppendLies
namespace Go.Proofs.YtpddckgkaopnlaaGreatDoor
open Go.RowKit

def lenOf : Value → Nat | .slice _ n _ => n | _ => 0

theorem Lf.grown {w w' : World} {g n : Nat} {ws : Ws} {row : Option Nat} (h : Lf w g n ws) (hg : w.grownBy w' row) (hr : some g ≠ row) : Lf w' g n ws := by
  obtain ⟨a, b, h1, h2, h3, h4⟩ := h
  exact ⟨a, b, h1.grown hg hr, h2, h3, h4⟩
theorem Lf.hi {w : World} {g n : Nat} {ws : Ws} (h : Lf w g n ws) : g < w.heap.size := by
  obtain ⟨a, b, h1, h2, h3, h4⟩ := h
  exact h1.hi

theorem tk_next {ws ys r : Ws} (h : ws = ys ++ r ∧ ∀ y ∈ ys, okN y = true) (hx : okN (r.headD []) = true) : ws = (ys ++ [r.headD []]) ++ r.tail ∧ ∀ y ∈ ys ++ [r.headD []], okN y = true := by
  obtain ⟨h1, h2⟩ := h
  cases r with
  | nil => simp [okN] at hx
  | cons x q =>
    refine ⟨by rw [h1]; simp, ?_⟩
    intro y hy
    rcases List.mem_append.1 hy with h | h
    · exact h2 y h
    · rw [List.mem_singleton.1 h]; exact hx
theorem tk_end {ws ys r : Ws} (h : ws = ys ++ r ∧ ∀ y ∈ ys, okN y = true) (hl : ys.length ≤ 8) (hx : ys.length = 8 ∨ okN (r.headD []) = false) : ys = tkW ws ∧ r = lfW ws := by
  obtain ⟨h1, h2⟩ := h
  subst h1
  rcases hx with hx | hx
  · obtain ⟨e1, e2⟩ := tk_full (r := r) h2 hx; exact ⟨e1.symm, e2.symm⟩
  · obtain ⟨e1, e2⟩ := tk_stop (r := r) h2 hl (by intro x hxx; cases r with
      | nil => cases hxx
      | cons y q => simp at hxx; subst hxx; simpa using hx)
    exact ⟨e1.symm, e2.symm⟩

set_option maxRecDepth 20000 in
set_option maxHeartbeats 4000000 in
theorem names_any (g n : Nat) (ws : Ws) (w : World) (h : Lf w g n ws) (hn : n ≤ 1152921504606846976) :
    Calls Tryz.prog 138 #[.pointer (some ⟨g, 0, none⟩)] w fun e w' => ∃ (ao : Option Addr) (cap : Nat), e = .returned (.slice ao (tkW ws).length cap) ∧ OwnT w' w.heap.size ao cap (tkW ws) ∧ Lf w' g n (lfW ws) ∧ But g w w' := by
  obtain ⟨i0, hi, hz0, hz1, hz2⟩ := info_parts Tryz.infoS
  have hgw := h.hi
  have H := hide h
  clear h
  go_enter Tryz.func138, Tryz.ntmps138
  go_wp2_with fail
  go_loopw [3] (fun v wr => ∃ (ys r : Ws) (ao : Option Addr) (cap : Nat), v = .slice ao ys.length cap ∧ ys.length ≤ 8 ∧ Hid (OwnT wr w.heap.size ao cap ys) ∧ Hid (Lf wr g n r) ∧ But g w wr ∧ Hid (ws = ys ++ r ∧ ∀ y ∈ ys, okN y = true))
    (fun v _ => 8 - lenOf v)
  case atStart => exact ⟨[], ws, none, 0, rfl, by simp, World.ownsRow_nil _ _ _ _, unhide H, But.refl _ _, ⟨rfl, fun y hy => by cases hy⟩⟩
  case round =>
    obtain ⟨ys, r, ao, cap, rfl, hl, HO, HL, hb, HW⟩ := hrel
    have hbs := hb.size
    by_cases hlt : ys.length < 8
    · cases hx : okN (r.headD [])
      · have HF := hide (tk_end HW.out hl (Or.inr hx))
        have HC := hide (name_no g n r wr HL.out hn hx)
        clear hx
        go_wp2_with fail
        refine (unhide HC).mono ?_
        rintro e w2 ⟨rfl, hq⟩
        go_wp2_with fail
        go_ret
        rw [← (unhide HF).1, ← (unhide HF).2]
        exact ⟨ao, cap, rfl, own_q HO.out hq, HL.out.q hq, hb.q hq⟩
      · have HN := hide (tk_next HW.out hx)
        have HC := hide (name_yes g n r wr HL.out hn hx)
        clear hx
        have HX := hide (bl_mk (r.headD []))
        generalize hxx : (⟨(r.headD []).toArray⟩ : ByteArray) = x at HC HX
        clear hxx
        have hcl := own_le HO.out
        go_wp2_with fail
        refine (unhide HC).mono ?_
        rintro e w2 ⟨rfl, hlf, hb2⟩
        have hb3 := hb.trans hb2
        have hown2 : OwnT w2 w.heap.size ao cap ys := own_but HO.out hb2 hgw
        have hs3 := hb3.size
        have HLF := hide hlf
        clear HO HL hlf hb2
        go_wp2_with (at_builtin; refine wpList_append_lies _ rfl _ _ 24 rfl w.heap.size 9 i0 (.string ByteArray.empty) 1 16 Tryz.underlying24 hi hz0 hz1 hz2 rfl (by decide) _ _ _ rfl (hown2.alloc _) ⟨w2.heap.size, 0, none⟩ 1 1 [.string x] rfl rfl (news_new w2 #[.string x] _) (one_str _) (by decide) (by unfold maxLen; omega) (by omega) (le_alloc hs3 _) (w2.heap.size + 1) (by simp) ?_)
        intro gg cp w3 hown3 hgrow hor hglt
        have hb4 : But g w w3 := But.grown (hb3.q ((Q.refl _).alloc _)) hgrow (Nat.le_refl _) (fun r hr => (hown2.lt r hr).1)
        have HL4 : Hid (Lf w3 g n r.tail) := ((unhide HLF).q ((Q.refl _).alloc _)).grown hgrow (fun e => by have := (hown2.lt g e.symm).1; omega)
        have HO4 := hide (OwnT.snoc hown3)
        rw [unhide HX] at HO4
        clear hown3 hgrow hown2 hor HLF
        go_wp2
        go_roundw
        case rel => exact ⟨ys ++ [r.headD []], r.tail, some ⟨gg, 0, none⟩, cp, by rw [List.length_append]; rfl, by rw [List.length_append]; show ys.length + 1 ≤ 8; omega, unhide HO4, HL4, hb4, HN⟩
        case measure => simp only [lenOf]; omega
    · have HF := hide (tk_end HW.out hl (Or.inl (by omega)))
      go_wp2_with fail
      go_ret
      rw [← (unhide HF).1, ← (unhide HF).2]
      exact ⟨ao, cap, rfl, HO.out, HL.out, hb⟩

set_option maxHeartbeats 4000000 in
theorem part_any (g n : Nat) (ws : Ws) (x : ByteArray) (w : World) (h : Lf w g n ws) (hn : n ≤ 1152921504606846976) (hx : bl x ≠ []) :
    Calls Tryz.prog 141 #[.pointer (some ⟨g, 0, none⟩), .string x] w fun e w' => ∃ (ao : Option Addr) (cap : Nat), e = .returned (.tuple #[.slice ao (prW (bl x) ws).1.length cap, .bool (prW (bl x) ws).2.2]) ∧ OwnT w' w.heap.size ao cap (prW (bl x) ws).1 ∧ Lf w' g n (prW (bl x) ws).2.1 ∧ But g w w' := by
  by_cases hw : ws.head? = some (bl x)
  · have HP : Hid (prW (bl x) ws = (tkW ws.tail, lfW ws.tail, !(tkW ws.tail).isEmpty)) := by show _ = _; unfold prW; rw [if_pos hw]
    have HC := hide (sign_yes g n ws x w h hn hw)
    clear hw h
    go_enter Tryz.func141, Tryz.ntmps141
    go_wp2_with fail
    refine (unhide HC).mono ?_
    rintro e w2 ⟨rfl, hl, hb⟩
    have HL := hide hl
    clear hl
    go_wp2_with fail
    refine (names_any g n ws.tail w2 (unhide HL) hn).mono ?_
    rintro e w3 ⟨ao, cap, rfl, ho, hl3, hb3⟩
    have HO := hide ho
    have HL3 := hide hl3
    clear ho hl3
    have HD : Hid (decide (0 < (tkW ws.tail).length) = !(tkW ws.tail).isEmpty) := by show _ = _; cases tkW ws.tail <;> simp
    go_wp2_with fail
    go_ret2
    rw [HP.out]
    refine ⟨ao, cap, ?_, own_low (unhide HO) hb.size, unhide HL3, hb.trans hb3⟩
    rw [← HD.out]
    rfl
  · have HP : Hid (prW (bl x) ws = ([], ws, true)) := by show _ = _; unfold prW; rw [if_neg hw]
    have HL := hide h
    have HC := hide (sign_no g n ws x w h hx hw)
    clear hw h
    go_enter Tryz.func141, Tryz.ntmps141
    go_wp2_with fail
    refine (unhide HC).mono ?_
    rintro e w2 ⟨rfl, rfl⟩
    go_wp2_with fail
    go_ret2
    rw [HP.out]
    exact ⟨none, 0, rfl, World.ownsRow_nil _ _ _ _, unhide HL, But.refl _ _⟩

theorem results_tmp6 {fn : Func} {t1 t2 t3 t4 t5 t6 : Tmp} (h : fn.results = #[.tmp t1, .tmp t2, .tmp t3, .tmp t4, .tmp t5, .tmp t6]) (tmps : Array Value) (P : Program) (w : World) :
    (results fn tmps).run P w = .ok (.tuple #[tmps.getD t1 undef, tmps.getD t2 undef, tmps.getD t3 undef, tmps.getD t4 undef, tmps.getD t5 undef, tmps.getD t6 undef]) w := by
  simp [results, h]

/-- Four rows of texts, each in memory of its own. -/
structure Four (w : World) (B k1 k2 k3 : Nat) (x : Bt) (ao bo co eo : Option Addr) (ac bc cc ec : Nat) : Prop where
  a : OwnT w B ao ac x.1
  b : OwnT w k1 bo bc x.2.2.1
  c : OwnT w k2 co cc x.2.2.2.1
  d : OwnT w k3 eo ec x.2.2.2.2
  la : B ≤ k1
  lb : k1 ≤ k2
  lc : k2 ≤ k3
  ta : ∀ k, (Value.slice ao x.1.length ac).ownBlock = some k → k < k1
  tb : ∀ k, (Value.slice bo x.2.2.1.length bc).ownBlock = some k → k < k2
  tc : ∀ k, (Value.slice co x.2.2.2.1.length cc).ownBlock = some k → k < k3

/-- What Build answers. -/
def BSays (w w' : World) (e : Ending) (x : Option Bt) : Prop :=
  ∃ (ao bo co eo : Option Addr) (ac bc cc ec k1 k2 k3 : Nat), e = .returned (.tuple #[.slice ao (btS x).1.length ac, .string ⟨(btS x).2.1.toArray⟩, .slice bo (btS x).2.2.1.length bc, .slice co (btS x).2.2.2.1.length cc, .slice eo (btS x).2.2.2.2.length ec, .int .i64 (btE x)]) ∧
    Four w' w.heap.size k1 k2 k3 (btS x) ao bo co eo ac bc cc ec ∧ Q w w'

theorem BSays.none {w w' : World} (hq : Q w w') {x : Option Bt} (hx : x = none) : BSays w w' (.returned (.tuple #[.slice none 0 0, .string ⟨#[]⟩, .slice none 0 0, .slice none 0 0, .slice none 0 0, .int .i64 700])) x := by
  subst hx
  exact ⟨Option.none, Option.none, Option.none, Option.none, 0, 0, 0, 0, w.heap.size, w.heap.size, w.heap.size, rfl, ⟨World.ownsRow_nil _ _ _ _, World.ownsRow_nil _ _ _ _, World.ownsRow_nil _ _ _ _, World.ownsRow_nil _ _ _ _, Nat.le_refl _, Nat.le_refl _, Nat.le_refl _, (fun k hk => by cases hk), (fun k hk => by cases hk), (fun k hk => by cases hk)⟩, hq⟩

set_option maxRecDepth 20000 in
set_option maxHeartbeats 4000000 in
theorem build_any (s : ByteArray) (w : World) (hs : s.size ≤ 1152921504606846976) :
    Calls Tryz.prog 112 #[.string s] w fun e w' => BSays w w' e (bdR (bl s)) := by
  have HR : Hid (bdR (bl s) = bdW (wdL (bl s))) := rfl
  generalize bdR (bl s) = res at HR
  generalize hws : wdL (bl s) = ws at HR
  have HWS := hide hws
  clear hws
  go_enter Tryz.func112, Tryz.ntmps112
  go_wp2_with fail
  refine (rowOf_any s _ hs).mono ?_
  rintro e w1 ⟨rfl, hl1, q1, hz1⟩
  rw [unhide HWS] at hl1
  have HL1 := hide hl1
  generalize hg : w.heap.size = g at *
  have HG := hide hg
  clear hl1 hg
  go_wp2_with fail
  refine (names_any g s.size ws w1 (unhide HL1) hs).mono ?_
  rintro e w2 ⟨ao, ac, rfl, o2, hl2, b2⟩
  have HO2 := hide o2
  have HL2 := hide hl2
  clear o2 hl2
  have hq2 : Below g w w2 := Below.trans (Below.mono q1 (Nat.le_of_eq (unhide HG).symm)) (b2.below (Nat.le_refl _) (Nat.le_of_lt hz1))
  by_cases h1 : tkW ws = []
  · have HF := hide (bd_none1 h1)
    have hn1 : (((tkW ws).length : Int) == 0) = true := by rw [h1]; rfl
    clear h1
    go_wp2_with fail
    ((try simp only [Exit.inBlock, Exit.then]); refine bodyPost_ret (results_tmp6 rfl _ _ _) rfl ?_)
    rw [← unhide HG] at hq2
    exact BSays.none hq2 (HR.out.trans (unhide HF))
  have hn1 : (((tkW ws).length : Int) == 0) = false := by
    cases h : tkW ws with
    | nil => exact absurd h h1
    | cons x y => simp; omega
  by_cases h2 : (lfW ws).head? ≠ some [58]
  · have HF := hide (bd_none2 h2)
    have HC := hide (sign_no g s.size (lfW ws) ⟨#[58]⟩ w2 (unhide HL2) (by decide) h2)
    clear h1 h2
    go_wp2_with fail
    refine (unhide HC).mono ?_
    rintro e w3 ⟨rfl, rfl⟩
    go_wp2_with fail
    ((try simp only [Exit.inBlock, Exit.then]); refine bodyPost_ret (results_tmp6 rfl _ _ _) rfl ?_)
    rw [← unhide HG] at hq2
    exact BSays.none hq2 (HR.out.trans (unhide HF))
  have h2 : (lfW ws).head? = some [58] := Classical.not_not.1 h2
  have HC := hide (sign_yes g s.size (lfW ws) ⟨#[58]⟩ w2 (unhide HL2) hs h2)
  go_wp2_with fail
  refine (unhide HC).mono ?_
  rintro e w3 ⟨rfl, hl3, b3⟩
  have HL3 := hide hl3
  clear HC hl3
  have z2 := b2.size
  have hq3 : Below g w w3 := Below.trans hq2 (b3.below (Nat.le_refl _) (by omega))
  cases h3 : okN ((lfW ws).tail.headD [])
  · have HF := hide (bd_none3 h3)
    have HC := hide (name_no g s.size (lfW ws).tail w3 (unhide HL3) hs h3)
    clear h1 h2 h3
    go_wp2_with fail
    refine (unhide HC).mono ?_
    rintro e w4 ⟨rfl, q4⟩
    have z3 := b3.size
    have hq4 : Below g w w4 := Below.trans hq3 (q4.mono (by omega))
    go_wp2_with fail
    ((try simp only [Exit.inBlock, Exit.then]); refine bodyPost_ret (results_tmp6 rfl _ _ _) rfl ?_)
    rw [← unhide HG] at hq4
    exact BSays.none hq4 (HR.out.trans (unhide HF))
  have HF := hide (bd_last h1 h2 h3)
  have HC := hide (name_yes g s.size (lfW ws).tail w3 (unhide HL3) hs h3)
  clear h1 h2 h3
  generalize (lfW ws).tail.headD [] = rl at HC HF
  go_wp2_with fail
  refine (unhide HC).mono ?_
  rintro e w4 ⟨rfl, hl4, b4⟩
  have HL4 := hide hl4
  have z3 := b3.size
  have z4 := b4.size
  have hq4 : Below g w w4 := Below.trans hq3 (b4.below (Nat.le_refl _) (by omega))
  have HB24 := hide (b3.trans b4)
  clear HC hl4 hq2 hq3 b3 b4
  go_wp2_with fail
  refine (names_any g s.size (lfW ws).tail.tail w4 (unhide HL4) hs).mono ?_
  rintro e w5 ⟨bo, bc, rfl, o5, hl5, b5⟩
  have HO5 := hide o5
  have HL5 := hide hl5
  have z5 := b5.size
  clear o5 hl5
  go_wp2_with fail
  refine (part_any g s.size (lfW (lfW ws).tail.tail) ⟨#[124]⟩ w5 (unhide HL5) hs (by decide)).mono ?_
  rintro e w6 ⟨co, cc, rfl, o6, hl6, b6⟩
  rw [show bl ⟨#[124]⟩ = [124] from rfl] at *
  generalize hpc : prW [124] (lfW (lfW ws).tail.tail) = pc at *
  have HO6 := hide o6
  have HL6 := hide hl6
  have z6 := b6.size
  clear o6 hl6 hpc
  go_wp2_with fail
  refine (part_any g s.size pc.2.1 ⟨#[124, 124]⟩ w6 (unhide HL6) hs (by decide)).mono ?_
  rintro e w7 ⟨eo, ec, rfl, o7, hl7, b7⟩
  rw [show bl ⟨#[124, 124]⟩ = [124, 124] from rfl] at *
  generalize hpd : prW [124, 124] pc.2.1 = pd at *
  have HO7 := hide o7
  have HL7 := hide hl7
  have z7 := b7.size
  have hq7 : Below g w w7 := Below.trans hq4 (((b5.trans b6).trans b7).below (Nat.le_refl _) (by omega))
  clear o7 hl7 hpd
  have HQ := hide hq7
  cases k1 : pc.2.2
  · have HN : Hid (res = none) := by show _ = _; rw [HR.out, unhide HF, k1]; rfl
    go_wp2_with fail
    ((try simp only [Exit.inBlock, Exit.then]); refine bodyPost_ret (results_tmp6 rfl _ _ _) rfl ?_)
    rw [← unhide HG] at hq7
    exact BSays.none hq7 HN.out
  cases k2 : pd.2.2
  · have HN : Hid (res = none) := by show _ = _; rw [HR.out, unhide HF, k1, k2]; rfl
    go_wp2_with fail
    ((try simp only [Exit.inBlock, Exit.then]); refine bodyPost_ret (results_tmp6 rfl _ _ _) rfl ?_)
    rw [← unhide HG] at hq7
    exact BSays.none hq7 HN.out
  cases k3 : pd.2.1.isEmpty
  · have HN : Hid (res = none) := by show _ = _; rw [HR.out, unhide HF, k1, k2, k3]; rfl
    have HC := hide (over_any g s.size pd.2.1 w7 (unhide HL7))
    rw [k3] at HC
    go_wp2_with fail
    refine (unhide HC).mono ?_
    rintro e w8 ⟨rfl, rfl⟩
    go_wp2_with fail
    ((try simp only [Exit.inBlock, Exit.then]); refine bodyPost_ret (results_tmp6 rfl _ _ _) rfl ?_)
    rw [← unhide HG] at hq7
    exact BSays.none hq7 HN.out
  have HN : Hid (res = some (tkW ws, rl, tkW (lfW ws).tail.tail, pc.1, pd.1)) := by show _ = _; rw [HR.out, unhide HF, k1, k2, k3]; rfl
  have HC := hide (over_any g s.size pd.2.1 w7 (unhide HL7))
  rw [k3] at HC
  go_wp2_with fail
  refine (unhide HC).mono ?_
  rintro e w8 ⟨rfl, rfl⟩
  go_wp2_with fail
  ((try simp only [Exit.inBlock, Exit.then]); refine bodyPost_ret (results_tmp6 rfl _ _ _) rfl ?_)
  rw [HN.out]
  rw [← unhide HG] at hq7
  have hgw := unhide HG
  have o2 : OwnT w8 w1.heap.size ao ac (tkW ws) := own_but (unhide HO2) ((((unhide HB24).trans b5).trans b6).trans b7) hz1
  have o5 : OwnT w8 w4.heap.size bo bc (tkW (lfW ws).tail.tail) := own_but (unhide HO5) (b6.trans b7) (by omega)
  have o6 : OwnT w8 w5.heap.size co cc pc.1 := own_but (unhide HO6) b7 (by omega)
  exact ⟨ao, bo, co, eo, ac, bc, cc, ec, w4.heap.size, w5.heap.size, w6.heap.size, rfl,
    ⟨own_low o2 (by omega), o5, o6, unhide HO7, by omega, z5, z6, fun k hk => by have := ((unhide HO2).lt k hk).2; omega, fun k hk => ((unhide HO5).lt k hk).2, fun k hk => ((unhide HO6).lt k hk).2⟩, hq7⟩

end Go.Proofs.YtpddckgkaopnlaaGreatDoor
