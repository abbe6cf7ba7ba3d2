/- Several texts of mine in one: PcSmall, RpWdPlain, WdRef, WdMore, WdRfPlain, WdBk. -/
import Derived.Test.YtpddckgkaopnlaaGreatDoorWk1
import Derived.Test.YtpddckgkaopnlaaGreatDoorPk1
import Derived.Deep.AppendLies
import Derived.Lib.Join
import Derived.Deep.RegionLaw
/- What the small functions of package pieces answer: may the byte stand in a name, which variable does a text begin with; the conditions: lengths. -/
namespace Go.Proofs.YtpddckgkaopnlaaGreatDoor
open Go.RowKit

def vbI (c : Int) : Bool := smallB c || decide (c = 95)

theorem ofName_any (c : Int) (w : World) : Calls Tryz.prog 170 #[.int .u8 c] w fun e w' => e = .returned (.bool (vbI c)) ∧ w' = w := by
  have hr : Hid (vbI c = (decide (97 ≤ c ∧ c ≤ 122) || decide (48 ≤ c ∧ c ≤ 57) || decide (c = 95))) := rfl
  by_cases h1 : 97 ≤ c <;> by_cases h2 : c ≤ 122 <;> by_cases h3 : 48 ≤ c <;> by_cases h4 : c ≤ 57
  all_goals first
    | omega
    | (go_enter Tryz.func170, Tryz.ntmps170
       go_wp2
       go_ret
       refine ⟨ret_bool ?_, rfl⟩
       rw [hr.out, Bool.eq_iff_iff]
       simp <;> omega)

theorem mbc_eq (s : ByteArray) : (decide ((s.size : Int) ≤ 2048) && plainL (bl s)) = (decide ((bl s).length ≤ 2048) && plainL (bl s)) := by
  rw [bl_size]; congr 1; rw [Bool.eq_iff_iff]; simp <;> omega

def preB (s p : ByteArray) : Bool := (bl s).take p.size == bl p

set_option maxHeartbeats 1000000 in
theorem litePre_any (s p : ByteArray) (w : World) :
    Calls Tryz.prog 171 #[.string s, .string p] w fun e w' => e = .returned (.bool (preB s p)) ∧ w' = w := by
  have H1 := hide (bl_size s)
  have H2 := hide (bl_size p)
  have H3 := hide (bl_toList p)
  have H4 := hide (bl_toList (s.extract 0 p.size))
  have H5 := hide (bl_extract s 0 p.size)
  by_cases h : p.size ≤ s.size
  · go_enter Tryz.func171, Tryz.ntmps171
    go_wp2_with fail
    go_ret
    refine ⟨ret_bool ?_, rfl⟩
    unfold preB
    rw [unhide H4, unhide H5, unhide H3, List.drop_zero]
  · have HF : Hid (preB s p = false) := by
      show preB s p = false
      unfold preB
      rw [beq_eq_false_iff_ne]
      intro e
      have := congrArg List.length e
      rw [List.length_take, unhide H1, unhide H2] at this; omega
    go_enter Tryz.func171, Tryz.ntmps171
    go_wp2_with fail
    go_ret
    exact ⟨ret_bool HF.out.symm, rfl⟩

theorem hasPre_any (s p : ByteArray) (w : World) :
    Calls Tryz.prog 169 #[.string s, .string p] w fun e w' => e = .returned (.bool (preB s p)) ∧ w' = w := by
  go_enter Tryz.func169, Tryz.ntmps169
  go_wp2_with fail
  refine (litePre_any s p _).mono ?_
  rintro e w' ⟨rfl, rfl⟩
  go_wp2_with fail
  go_ret
  exact ⟨rfl, rfl⟩

end Go.Proofs.YtpddckgkaopnlaaGreatDoor

/- A text's one word: plain facts, no program in them; no conditions. -/
namespace Go.Proofs.YtpddckgkaopnlaaGreatDoor
open Go.RowKit

theorem part32 : ∀ (t : Tx), 32 ∈ t → ∃ a b : Tx, t = a ++ 32 :: b ∧ 32 ∉ a
  | [], h => by cases h
  | c :: r, h => by
    by_cases hc : c = 32
    · exact ⟨[], r, by rw [hc]; rfl, by simp⟩
    · have hr : 32 ∈ r := by
        rcases List.mem_cons.1 h with h | h
        · exact absurd h.symm hc
        · exact h
      obtain ⟨a, b, e, ha⟩ := part32 r hr
      exact ⟨c :: a, b, by rw [e]; rfl, fun hm => by
        rcases List.mem_cons.1 hm with hm | hm
        · exact hc hm.symm
        · exact ha hm⟩
theorem wd_none : ∀ (b : Tx), wdL b = [] → ∀ c ∈ b, c = 32
  | [], _, c, h => by cases h
  | x :: r, h, c, hc => by
    by_cases hx : x = 32
    · rw [hx, wdL_blank] at h
      rcases List.mem_cons.1 hc with rfl | hc
      · exact hx
      · exact wd_none r h c hc
    · exfalso
      by_cases hm : 32 ∈ x :: r
      · obtain ⟨a, b, e, ha⟩ := part32 _ hm
        rw [e, wdL_app, wdL_plain ha] at h
        have hne : a ≠ [] := by
          rintro rfl
          simp at e; exact hx e.1
        unfold one at h
        rw [if_neg hne] at h
        simp at h
      · rw [wdL_plain hm] at h
        unfold one at h
        simp at h
theorem wd_right (l : Tx) : wdL (Lib.trimRightB l 32) = wdL l := by
  have key : ∀ (k : Tx), wdL (k.dropWhile (fun b => b == 32)).reverse = wdL k.reverse := by
    intro k
    induction k with
    | nil => rfl
    | cons c r ih =>
      rw [List.dropWhile_cons]
      split
      · rename_i h
        have hc : c = 32 := by simpa using h
        rw [ih, List.reverse_cons, hc, wdL_end]
      · rfl
  have := key l.reverse
  rw [List.reverse_reverse] at this
  exact this
theorem right_last (l : Tx) : ∀ a, Lib.trimRightB l 32 ≠ a ++ [32] := by
  intro a h
  have h2 := congrArg List.reverse h
  have e : (Lib.trimRightB l 32).reverse = Lib.trimLeftB l.reverse 32 := by
    show ((l.reverse.dropWhile (· == 32)).reverse).reverse = _
    rw [List.reverse_reverse]; rfl
  rw [e, List.reverse_append] at h2
  exact trim_head l.reverse a.reverse h2
theorem tr_last (l : Tx) : ∀ a, trL l ≠ a ++ [32] := by
  intro a h
  have e : Lib.trimRightB l 32 = (Lib.trimRightB l 32).takeWhile (· == 32) ++ trL l := by
    show _ = _ ++ (Lib.trimRightB l 32).dropWhile (· == 32)
    rw [List.takeWhile_append_dropWhile]
  rw [h, ← List.append_assoc] at e
  exact right_last l _ e
theorem tr_first (l : Tx) : ∀ a, trL l ≠ 32 :: a := fun a h => trim_head (Lib.trimRightB l 32) a h
theorem wd_tr (l : Tx) : wdL (trL l) = wdL l := (wdL_trim (Lib.trimRightB l 32)).trans (wd_right l)

theorem tr_no32 {r n : Tx} (h : wdL r = [n]) : 32 ∉ trL r := by
  intro hm
  obtain ⟨a, b, e, ha⟩ := part32 _ hm
  have hw := wd_tr r
  rw [e, wdL_app, wdL_plain ha, h] at hw
  have hne : a ≠ [] := by
    rintro rfl
    exact tr_first r b e
  unfold one at hw
  rw [if_neg hne] at hw
  have hb : wdL b = [] := by
    have h2 := congrArg List.length hw
    simp at h2
    exact h2
  have hall := wd_none b hb
  rcases List.eq_nil_or_concat b with rfl | ⟨q, c, rfl⟩
  · exact tr_last r a e
  · have hc : c = 32 := hall c (by simp)
    subst hc
    exact tr_last r (a ++ 32 :: q) (by rw [e]; simp)
/-- One word alone. -/
theorem wd_one {r n : Tx} (h : wdL r = [n]) : trL r = n := by
  have h1 := tr_no32 h
  have hw := wd_tr r
  rw [wdL_plain h1, h] at hw
  unfold one at hw
  split at hw
  · cases hw
  · exact (List.cons.inj hw).1
theorem one_wd {r : Tx} (h : mayL (trL r) = true) : wdL r = [trL r] := by
  have h1 : 32 ∉ trL r := okN_32 (l := trL r) h
  have h2 : trL r ≠ [] := okN_ne (l := trL r) h
  rw [← wd_tr, wdL_plain h1]
  unfold one
  rw [if_neg h2]
theorem no_wd {r : Tx} (h : ∀ n, wdL r = [n] → mayL n = false) : mayL (trL r) = false := by
  cases hm : mayL (trL r) with
  | false => rfl
  | true => rw [h _ (one_wd hm)] at hm; cases hm

end Go.Proofs.YtpddckgkaopnlaaGreatDoor

/- What the document's own words and names answer: a text's words; how many names a row begins with; the conditions: the lengths. -/
namespace Go.Proofs.YtpddckgkaopnlaaGreatDoor
open Go.RowKit

theorem filter_next {l : Ws} {k : Nat} {x : List UInt8} (h : l[k]? = some x) : (l.take (k + 1)).filter (fun x => !x.isEmpty) = (l.take k).filter (fun x => !x.isEmpty) ++ (if x.isEmpty then [] else [x]) := by
  rw [List.take_add_one, h, List.filter_append]
  cases x <;> simp

set_option maxRecDepth 20000 in
set_option maxHeartbeats 4000000 in
theorem rwords_any (s : ByteArray) (w : World) (hs : s.size ≤ 1073741824) :
    Calls Tryz.prog 50 #[.string s] w fun e w' => ∃ (ao : Option Addr) (cap : Nat), e = .returned (.slice ao (wdL (bl s)).length cap) ∧ OwnT w' w.heap.size ao cap (wdL (bl s)) ∧ (wdL (bl s)).length ≤ s.size + 1 ∧ Q w w' := by
  obtain ⟨i0, hi, hz0, hz1, hz2⟩ := info_parts Tryz.infoS
  go_enter Tryz.func50, Tryz.ntmps50
  go_wp2_with fail
  refine (rsplit_any s 32 _ (by omega)).mono ?_
  rintro e w1 ⟨ys, bo, bcap, hys, hyl, rfl, hown, q1⟩
  have HY := hide hys
  have HR : Hid (RowT w1 bo (ys.map bl)) := by
    rw [← lay_tv] at hown
    exact RowG.own tv_len (by decide) hown
  have q1s := q1.size
  clear hown hys
  go_wp2_with fail
  go_loopw [4, 5] (fun v i wr => ∃ (k : Nat) (zs : Ws) (ao : Option Addr) (cap : Nat), i = .int .i64 k ∧ v = .slice ao zs.length cap ∧ k ≤ ys.length ∧ zs.length ≤ k ∧ Hid (OwnT wr w1.heap.size ao cap zs) ∧ Q w1 wr ∧ Hid (zs = ((ys.map bl).take k).filter fun x => !x.isEmpty))
    (fun _ i _ => ys.length - (intOf i).toNat)
  case atStart => exact ⟨0, [], none, 0, rfl, rfl, by omega, by simp, World.ownsRow_nil _ _ _ _, Q.refl _, rfl⟩
  case round =>
    obtain ⟨k, zs, ao, cap, rfl, rfl, hk, hzl, HO, hq, HZ⟩ := hrel
    by_cases hlt : k < ys.length
    · obtain ⟨x, hx⟩ : ∃ x, ys[k]? = some x := ⟨ys[k], List.getElem?_eq_getElem hlt⟩
      have hxm : (ys.map bl)[k]? = some (bl x) := by rw [List.getElem?_map, hx]; rfl
      rcases HR.out.q hq with he | ⟨g, o, rfl, hg, hc⟩
      · rw [he] at hxm; simp at hxm
      have cx : wr.cell? ⟨g, o + k, none⟩ = some (.string x) := by
        have := hc k 0 (bl x) _ hxm (by decide) rfl
        rw [(of_bl rfl : x = ⟨(bl x).toArray⟩).symm] at this
        simpa using this
      have HF := hide (filter_next hxm)
      have hlt' : (k : Int) < (ys.length : Int) := by omega
      have hqs := hq.size
      clear hc hx hxm
      cases hem : (bl x).isEmpty
      · have e1 : x.toList.isEmpty = false := by rw [bl_toList]; exact hem
        have e2 : (x.toList == []) = false := by rw [bl_toList]; cases hb : bl x with
          | nil => rw [hb] at hem; cases hem
          | cons a b => rfl
        have HN : Hid (zs ++ [bl x] = ((ys.map bl).take (k + 1)).filter fun x => !x.isEmpty) := by show _ = _; rw [unhide HF, hem, HZ.out]; rfl
        clear hem HZ HF
        have hown := HO.out
        go_wp2_with (at_builtin; refine wpList_append_lies _ rfl _ _ 24 rfl w1.heap.size 9 i0 (.string ByteArray.empty) 1 16 Tryz.underlying24 hi hz0 hz1 hz2 rfl (by decide) _ _ _ rfl (hown.alloc _) ⟨wr.heap.size, 0, none⟩ 1 1 [.string x] rfl rfl (news_new wr #[.string x] _) (one_str _) (by decide) (by unfold maxLen; omega) (by omega) (le_alloc hqs _) (wr.heap.size + 1) (by simp) ?_)
        intro gg cp w3 hown3 hgrow hor hglt
        have hq3 : Q w1 w3 := Below.grown (hq.alloc _) hgrow (le_alloc hqs _) (fun r hr => (hown.lt r hr).1)
        have HO4 := hide (OwnT.snoc hown3)
        clear hown3 hgrow hown hor HO
        go_wp2
        go_roundw
        case rel => exact ⟨k + 1, zs ++ [bl x], some ⟨gg, 0, none⟩, cp, by go_num, by rw [List.length_append]; rfl, by omega, by rw [List.length_append]; show zs.length + 1 ≤ _; omega, unhide HO4, hq3, HN⟩
        case measure => simp [intOf]; omega
      · have e1 : x.toList.isEmpty = true := by rw [bl_toList]; exact hem
        have e2 : (x.toList == []) = true := by rw [bl_toList, List.isEmpty_iff.1 hem]; rfl
        have HN : Hid (zs = ((ys.map bl).take (k + 1)).filter fun x => !x.isEmpty) := by show _ = _; rw [unhide HF, hem, HZ.out]; simp
        clear hem HZ HF
        go_wp2_with fail
        go_roundw
        case rel => exact ⟨k + 1, zs, ao, cap, by go_num, rfl, by omega, by omega, HO, hq, HN⟩
        case measure => simp [intOf]; omega
    · have HF : Hid (wdL (bl s) = zs) := by
        show (spc 32 (bl s)).filter _ = _
        rw [← unhide HY, HZ.out, List.take_of_length_le (by rw [List.length_map]; omega)]
      clear HZ
      go_wp2_with fail
      go_ret
      rw [HF.out]
      exact ⟨ao, cap, rfl, own_low HO.out q1s, by omega, q1.trans hq⟩

/-- How many names a row begins with. -/
def cnW (ws : Ws) : Nat := (ws.takeWhile okN).length

theorem cn_no {ws : Ws} {k : Nat} {x : List UInt8} (h : ∀ y ∈ ws.take k, okN y = true) (hx : ws[k]? = some x) (ho : okN x = false) : cnW ws = k := by
  have hk : k < ws.length := by
    rcases Nat.lt_or_ge k ws.length with h | h
    · exact h
    · rw [List.getElem?_eq_none h] at hx; cases hx
  unfold cnW
  conv => lhs; rw [← List.take_append_drop k ws]
  rw [takeWhile_of h (fun y hy => by
    rw [List.head?_drop, hx] at hy; cases hy; exact ho), List.length_take]
  omega
theorem cn_all {ws : Ws} (h : ∀ y ∈ ws.take ws.length, okN y = true) : cnW ws = ws.length := by
  unfold cnW
  rw [List.take_of_length_le (Nat.le_refl _)] at h
  have := takeWhile_of (r := []) h (fun y hy => by cases hy)
  rw [List.append_nil] at this
  rw [this]
theorem cn_le (ws : Ws) : cnW ws ≤ ws.length := (List.takeWhile_sublist _).length_le

set_option maxRecDepth 20000 in
set_option maxHeartbeats 4000000 in
theorem rnames_any (ao : Option Addr) (cap m : Nat) (ws : Ws) (w : World) (hm : m = ws.length) (hr : RowT w ao ws) (hn : m ≤ 1099511627776) (hl : ∀ x ∈ ws, x.length ≤ 1099511627776) :
    Calls Tryz.prog 91 #[.slice ao m cap] w fun e w' => e = .returned (.int .i64 (cnW ws : Nat)) ∧ w' = w := by
  have HR := hide hr
  have HL := hide hl
  have HM := hide hm
  clear hr hl hm
  go_enter Tryz.func91, Tryz.ntmps91
  go_wp2_with fail
  go_loop [3] (fun i => ∃ k : Nat, k ≤ m ∧ i = .int .i64 k ∧ Hid (∀ y ∈ ws.take k, okN y = true)) (fun i => m - (intOf i).toNat)
  case atStart => exact ⟨0, Nat.zero_le _, rfl, fun y hy => by cases hy⟩
  case round =>
    obtain ⟨k, hk, rfl, HA⟩ := hrel
    by_cases hlt : k < m
    · have hlw : k < ws.length := by have := unhide HM; omega
      obtain ⟨x, hx⟩ : ∃ x, ws[k]? = some x := ⟨ws[k], List.getElem?_eq_getElem hlw⟩
      have hxl : x.length ≤ 1099511627776 := (unhide HL) x (List.mem_of_getElem? hx)
      rcases unhide HR with he | ⟨g, o, rfl, hg, hc⟩
      · rw [he] at hx; simp at hx
      have cx : w.cell? ⟨g, o + k, none⟩ = some (.string ⟨x.toArray⟩) := by simpa using hc k 0 x _ hx (by decide) rfl
      have HX := hide (bl_mk x)
      generalize (⟨x.toArray⟩ : ByteArray) = X at cx HX
      have hXz : X.size ≤ maxLen := by rw [← bl_size, unhide HX]; unfold maxLen; omega
      have hlt' : (k : Int) < (m : Int) := by omega
      have HXK := hide hx
      clear hc hx hxl hlw
      cases hok : okN x
      · have HM2 : Hid (mayB X = false) := by show _ = _; rw [may_okN, unhide HX]; exact hok
        have HF := hide (cn_no HA.out (unhide HXK) hok)
        clear hok
        go_wp2_with fail
        refine (nameMay_any X _ hXz).mono ?_
        rintro e w' ⟨rfl, rfl⟩
        rw [HM2.out]
        go_wp2_with fail
        go_ret
        rw [unhide HF]
        exact ⟨rfl, rfl⟩
      · have HM2 : Hid (mayB X = true) := by show _ = _; rw [may_okN, unhide HX]; exact hok
        have HN : Hid (∀ y ∈ ws.take (k + 1), okN y = true) := by
          intro y hy
          rw [List.take_add_one, unhide HXK] at hy
          rcases List.mem_append.1 hy with h1 | h1
          · exact HA.out y h1
          · simp at h1; rw [h1]; exact hok
        clear hok HA
        go_wp2_with fail
        refine (nameMay_any X _ hXz).mono ?_
        rintro e w' ⟨rfl, rfl⟩
        rw [HM2.out]
        go_wp2_with fail
        go_round
        case rel => exact ⟨k + 1, by omega, by go_num, HN⟩
        case measure => simp [intOf]; omega
    · have hkm : k = ws.length := by have := unhide HM; omega
      have HF : Hid (cnW ws = k) := by show _ = _; rw [hkm]; exact cn_all (by have := HA.out; rw [hkm] at this; exact this)
      clear hkm HA
      go_wp2_with fail
      go_ret
      rw [HF.out]
      exact ⟨rfl, rfl⟩

end Go.Proofs.YtpddckgkaopnlaaGreatDoor

/- Plain facts on build lines that are put together of their parts, with no program in them; no conditions. -/
namespace Go.Proofs.YtpddckgkaopnlaaGreatDoor
open Go.RowKit

def AllN (xs : Ws) : Prop := ∀ x ∈ xs, okN x = true

def pt (x : List UInt8) (c : Ws) : Ws := if c = [] then [] else x :: c

/-- The words of a build line of those parts. -/
def lnW (a : Ws) (r : List UInt8) (b c d : Ws) : Ws := a ++ [58] :: r :: (b ++ (pt [124] c ++ pt [124, 124] d))

theorem okN_58 : okN [58] = false := by decide +kernel
theorem okN_124 : okN [124] = false := by decide +kernel
theorem okN_124' : okN [124, 124] = false := by decide +kernel

theorem prW_no {x : List UInt8} {ws : Ws} (h : ws.head? ≠ some x) : prW x ws = ([], ws, true) := by unfold prW; rw [if_neg h]
theorem prW_yes {x : List UInt8} {ws : Ws} : prW x (x :: ws) = (tkW ws, lfW ws, !(tkW ws).isEmpty) := by unfold prW; rw [if_pos (show (x :: ws).head? = some x from rfl)]; rfl

theorem tk_nil : tkW [] = [] := rfl

theorem name_head {x y : List UInt8} {q : Ws} (h : okN x = true) (hy : okN y = false) : (x :: q).head? ≠ some y := by
  intro e; simp at e; subst e; rw [h] at hy; cases hy

theorem notEmpty {c : Ws} (h : c ≠ []) : (!c.isEmpty) = true := by cases c with
  | nil => exact absurd rfl h
  | cons x y => rfl

/-- A part at the end. -/
theorem pr_end {x : List UInt8} {d : Ws} (hd : AllN d) :
    prW x (pt x d) = (if d.length ≤ 8 then (d, [], true) else prW x (pt x d)) ∧ (8 < d.length → (prW x (pt x d)).2.1.isEmpty = false) := by
  refine ⟨?_, ?_⟩
  · split
    · next h =>
      unfold pt; split
      · next e => subst e; rfl
      · next e =>
        rw [prW_yes]
        have := tk_stop (ys := d) (r := []) hd h (fun x hx => by cases hx)
        rw [List.append_nil] at this
        rw [this.1, this.2, notEmpty e]
    · rfl
  · intro h
    unfold pt; rw [if_neg (by rintro rfl; simp at h), prW_yes]
    obtain ⟨y, q, h1, h2⟩ := tk_over (ys := d) (r := []) hd h
    rw [List.append_nil] at h1
    rw [h1]; rfl

theorem pt_head {x : List UInt8} {d : Ws} {y : List UInt8} (h : (pt x d).head? = some y) : y = x := by
  unfold pt at h; split at h
  · cases h
  · simp at h; exact h.symm

def endD (a : Ws) (r : List UInt8) (b c : Ws) (k : Bool) (q : Ws × Ws × Bool) : Option Bt := if k && q.2.2 && q.2.1.isEmpty then some (a, r, b, c, q.1) else none
def endP (a : Ws) (r : List UInt8) (b : Ws) (p : Ws × Ws × Bool) : Option Bt := endD a r b p.1 p.2.2 (prW [124, 124] p.2.1)
def endW (a : Ws) (r : List UInt8) (b z : Ws) : Option Bt := endP a r b (prW [124] z)
theorem bd_endW {ws : Ws} (h1 : tkW ws ≠ []) (h2 : (lfW ws).head? = some [58]) (h3 : okN ((lfW ws).tail.headD []) = true) :
    bdW ws = endW (tkW ws) ((lfW ws).tail.headD []) (tkW (lfW ws).tail.tail) (lfW (lfW ws).tail.tail) := bd_last h1 h2 h3
theorem endP_no {a b z : Ws} {r : List UInt8} {c : Ws} {k : Bool} {x : List UInt8} (h : okN x = true) : endP a r b (c, x :: z, k) = none := by
  unfold endP
  show endD a r b c k (prW [124, 124] (x :: z)) = none
  rw [prW_no (name_head h okN_124')]
  unfold endD; rw [if_neg (by simp)]

theorem bd_ln {a b c d : Ws} {r : List UInt8} (ha : AllN a) (hr : okN r = true) (hb : AllN b) (hc : AllN c) (hd : AllN d) :
    bdW (lnW a r b c d) = if a ≠ [] ∧ a.length ≤ 8 ∧ b.length ≤ 8 ∧ c.length ≤ 8 ∧ d.length ≤ 8 then some (a, r, b, c, d) else none := by
  unfold lnW
  by_cases ha0 : a = []
  · subst ha0
    rw [if_neg (by simp), bd_none1]
    rw [List.nil_append]
    show ((([58] :: _ : Ws)).takeWhile okN).take 8 = []
    rw [List.takeWhile_cons_of_neg (by rw [okN_58]; simp)]; rfl
  by_cases ha8 : 8 < a.length
  · obtain ⟨x, q, h1, h2⟩ := tk_over (ys := a) (r := [58] :: r :: (b ++ (pt [124] c ++ pt [124, 124] d))) ha ha8
    rw [if_neg (by omega), bd_none2]
    rw [h1]; exact name_head h2 okN_58
  obtain ⟨e1, e2⟩ := tk_stop (ys := a) (r := [58] :: r :: (b ++ (pt [124] c ++ pt [124, 124] d))) ha (by omega) (fun x hx => by simp at hx; subst hx; exact okN_58)
  rw [bd_endW (by rw [e1]; exact ha0) (by rw [e2]; rfl) (by rw [e2]; exact hr), e1, e2]
  show endW a r (tkW (b ++ (pt [124] c ++ pt [124, 124] d))) (lfW (b ++ (pt [124] c ++ pt [124, 124] d))) = _
  by_cases hb8 : 8 < b.length
  · obtain ⟨x, q, h1, h2⟩ := tk_over (ys := b) (r := pt [124] c ++ pt [124, 124] d) hb hb8
    rw [h1, if_neg (by omega)]
    unfold endW
    rw [prW_no (name_head h2 okN_124), endP_no h2]
  have hdh : ∀ x, (pt [124, 124] d).head? = some x → okN x = false := fun x hx => by rw [pt_head hx]; exact okN_124'
  have hch : ∀ x, (pt [124] c ++ pt [124, 124] d).head? = some x → okN x = false := by
    intro x hx
    by_cases hc0 : c = []
    · rw [show pt [124] c = [] by unfold pt; rw [if_pos hc0], List.nil_append] at hx; exact hdh x hx
    · rw [show pt [124] c = [124] :: c by unfold pt; rw [if_neg hc0]] at hx
      simp at hx; subst hx; exact okN_124
  obtain ⟨e3, e4⟩ := tk_stop (ys := b) (r := pt [124] c ++ pt [124, 124] d) hb (by omega) hch
  rw [e3, e4]
  obtain ⟨p1, p2⟩ := pr_end (x := [124, 124]) hd
  have last : ∀ (c' : Ws), endP a r b (c', pt [124, 124] d, true) = if d.length ≤ 8 then some (a, r, b, c', d) else none := by
    intro c'
    show endD a r b c' true (prW [124, 124] (pt [124, 124] d)) = _
    by_cases hd8 : d.length ≤ 8
    · rw [p1, if_pos hd8, if_pos hd8]; rfl
    · have := p2 (by omega)
      unfold endD
      rw [this, if_neg (by simp), if_neg hd8]
  unfold endW
  by_cases hc0 : c = []
  · subst hc0
    have hh : (pt [124] [] ++ pt [124, 124] d : Ws) = pt [124, 124] d := rfl
    rw [hh, prW_no (fun e => by have := pt_head e; cases this), last]
    by_cases hd8 : d.length ≤ 8
    · rw [if_pos hd8, if_pos ⟨ha0, by omega, by omega, by simp, hd8⟩]
    · rw [if_neg hd8, if_neg (by omega)]
  have hpc : pt [124] c = [124] :: c := by unfold pt; rw [if_neg hc0]
  rw [hpc, List.cons_append, prW_yes]
  by_cases hc8 : 8 < c.length
  · obtain ⟨x, q, h1, h2⟩ := tk_over (ys := c) (r := pt [124, 124] d) hc hc8
    rw [h1, endP_no h2, if_neg (by omega)]
  obtain ⟨e5, e6⟩ := tk_stop (ys := c) (r := pt [124, 124] d) hc (by omega) hdh
  rw [e5, e6, notEmpty hc0, last]
  by_cases hd8 : d.length ≤ 8
  · rw [if_pos hd8, if_pos ⟨ha0, by omega, by omega, by omega, hd8⟩]
  · rw [if_neg hd8, if_neg (by omega)]

theorem pr_ok (x : List UInt8) (ws : Ws) : AllN (prW x ws).1 ∧ (prW x ws).1.length ≤ 8 := by
  unfold prW; split
  · exact ⟨tk_ok, tk_len _⟩
  · exact ⟨(fun y hy => by cases hy), by simp⟩

/-- What is told of a line that is one. -/
theorem bd_some {ws a b c d : Ws} {r : List UInt8} (h : bdW ws = some (a, r, b, c, d)) :
    a ≠ [] ∧ AllN a ∧ okN r = true ∧ AllN b ∧ AllN c ∧ AllN d ∧ a.length ≤ 8 ∧ b.length ≤ 8 ∧ c.length ≤ 8 ∧ d.length ≤ 8 := by
  by_cases h1 : tkW ws = []
  · rw [bd_none1 h1] at h; cases h
  by_cases h2 : (lfW ws).head? ≠ some [58]
  · rw [bd_none2 h2] at h; cases h
  cases h3 : okN ((lfW ws).tail.headD [])
  · rw [bd_none3 h3] at h; cases h
  rw [bd_last h1 (Classical.not_not.1 h2) h3] at h
  split at h
  · cases h
    obtain ⟨p1, p2⟩ := pr_ok [124] (lfW (lfW ws).tail.tail)
    obtain ⟨p3, p4⟩ := pr_ok [124, 124] (prW [124] (lfW (lfW ws).tail.tail)).2.1
    exact ⟨h1, tk_ok, h3, tk_ok, p1, p3, tk_len _, tk_len _, p2, p4⟩
  · cases h

theorem wdL_name {x : List UInt8} (h : okN x = true) : wdL x = [x] := by
  rw [wdL_plain (okN_32 h)]; unfold one; rw [if_neg (okN_ne h)]

theorem wd_tail : ∀ (r : Ws) (y : List UInt8), AllN r → wdL (y ++ Lib.joinTail [32] r) = wdL y ++ r
  | [], y, _ => by simp [Lib.joinTail]
  | b :: r, y, h => by
    have e : Lib.joinTail [32] (b :: r) = 32 :: (b ++ Lib.joinTail [32] r) := by simp [Lib.joinTail]
    rw [e, wdL_app, wd_tail r b (fun x hx => h x (List.mem_cons_of_mem _ hx)), wdL_name (h b (by simp))]; rfl
theorem wd_join {xs : Ws} (h : AllN xs) : wdL (Lib.join xs [32]) = xs := by
  cases xs with
  | nil => rfl
  | cons x r =>
    rw [Lib.join_cons, wd_tail r x (fun y hy => h y (List.mem_cons_of_mem _ hy)), wdL_name (h x (by simp))]; rfl
theorem join_le {xs : Ws} (h : AllN xs) : (Lib.join xs [32]).length ≤ 17 * xs.length := by
  cases xs with
  | nil => simp [Lib.join_nil]
  | cons x r =>
    rw [Lib.join_cons, List.length_append]
    have h1 := (okN_len (h x (by simp))).2.1
    have : ∀ r : Ws, AllN r → (Lib.joinTail [32] r).length ≤ 17 * r.length := by
      intro r
      induction r with
      | nil => intro _; simp [Lib.joinTail]
      | cons b r ih =>
        intro hr
        have e : Lib.joinTail [32] (b :: r) = 32 :: (b ++ Lib.joinTail [32] r) := by simp [Lib.joinTail]
        have h2 := (okN_len (hr b (by simp))).2.1
        have h3 := ih (fun y hy => hr y (List.mem_cons_of_mem _ hy))
        rw [e]; simp only [List.length_cons, List.length_append]; omega
    have h2 := this r (fun y hy => h y (List.mem_cons_of_mem _ hy))
    simp only [List.length_cons]; omega

/-- One more word, and names behind it. -/
theorem wd_part {u x : List UInt8} {c : Ws} (hx : 32 ∉ x) (hx0 : x ≠ []) (hc : AllN c) : wdL (u ++ 32 :: (x ++ 32 :: Lib.join c [32])) = wdL u ++ x :: c := by
  rw [wdL_app, wdL_app, wd_join hc, wdL_plain hx]; unfold one; rw [if_neg hx0]; rfl

theorem wd_head {a b : Ws} {r : List UInt8} (ha : AllN a) (hr : okN r = true) (hb : AllN b) : wdL (Lib.join a [32] ++ [32, 58, 32] ++ r ++ [32] ++ Lib.join b [32]) = a ++ [58] :: r :: b := by
  have e : Lib.join a [32] ++ [32, 58, 32] ++ r ++ [32] ++ Lib.join b [32] = Lib.join a [32] ++ 32 :: ([58] ++ 32 :: (r ++ 32 :: Lib.join b [32])) := by simp
  rw [e, wdL_app, wdL_app, wdL_app, wd_join ha, wd_join hb, wdL_name hr, wdL_plain (by decide)]
  rfl

/-- A text that ends in a blank, and its words. -/
def Gp (s : List UInt8) (ws : Ws) : Prop := wdL s = ws ∧ ∃ u, s = u ++ [32]
theorem wdL_reps : ∀ m : Nat, wdL (List.replicate m 32) = []
  | 0 => rfl
  | m + 1 => by rw [List.replicate_succ, wdL_blank]; exact wdL_reps m
theorem Gp.start {m : Nat} (hm : 1 ≤ m) : Gp (List.replicate m 32) [] :=
  ⟨wdL_reps m, List.replicate (m - 1) 32, by obtain ⟨k, rfl⟩ : ∃ k, m = k + 1 := ⟨m - 1, by omega⟩; rw [List.replicate_succ']; rfl⟩
theorem Gp.next {s x : List UInt8} {ws : Ws} {m : Nat} (h : Gp s ws) (hm : 1 ≤ m) (hx : 32 ∉ x) (hx0 : x ≠ []) : Gp (s ++ x ++ List.replicate m 32) (ws ++ [x]) := by
  obtain ⟨h1, u, rfl⟩ := h
  obtain ⟨k, rfl⟩ : ∃ k, m = k + 1 := ⟨m - 1, by omega⟩
  refine ⟨?_, u ++ [32] ++ x ++ List.replicate k 32, by rw [List.replicate_succ']; simp⟩
  rw [wdL_end] at h1
  rw [show u ++ [32] ++ x ++ List.replicate (k + 1) 32 = u ++ 32 :: (x ++ 32 :: List.replicate k 32) by rw [List.replicate_succ]; simp]
  rw [wdL_app, wdL_app, wdL_reps, wdL_plain hx, h1]; unfold one; rw [if_neg hx0]; simp

end Go.Proofs.YtpddckgkaopnlaaGreatDoor

/- Plain facts on the document's own reading of a build line: it takes all names that stand there and counts them in the end; no conditions. -/
namespace Go.Proofs.YtpddckgkaopnlaaGreatDoor
open Go.RowKit

/-- All names that stand ahead; what stands behind them. -/
def tg (ws : Ws) : Ws := ws.take (cnW ws)
def lg (ws : Ws) : Ws := ws.drop (cnW ws)

theorem tg_eq (ws : Ws) : tg ws = ws.takeWhile okN := by
  unfold tg cnW
  exact (List.prefix_iff_eq_take.1 (List.takeWhile_prefix okN)).symm
theorem tg_ok (ws : Ws) : AllN (tg ws) := by
  intro x hx
  rw [tg_eq] at hx
  exact List.all_eq_true.1 List.all_takeWhile x hx
theorem tg_lg (ws : Ws) : tg ws ++ lg ws = ws := List.take_append_drop _ _
theorem tg_len (ws : Ws) : (tg ws).length = cnW ws := by rw [tg_eq]; rfl
theorem lg_head (ws : Ws) : ∀ x, (lg ws).head? = some x → okN x = false := by
  intro x hx
  cases ho : okN x with
  | false => rfl
  | true =>
    exfalso
    have h1 := tg_eq ws
    have h2 := tg_lg ws
    cases hl : lg ws with
    | nil => rw [hl] at hx; cases hx
    | cons y q =>
      rw [hl] at hx h2
      cases hx
      have h3 : ws.takeWhile okN = tg ws ++ (x :: q).takeWhile okN := by
        conv => lhs; rw [← h2]
        exact takeWhile_ge (tg_ok ws)
      rw [List.takeWhile_cons_of_pos ho, ← h1] at h3
      have := congrArg List.length h3
      simp at this

theorem tk_small {ws : Ws} (h : cnW ws ≤ 8) : tkW ws = tg ws ∧ lfW ws = lg ws := by
  have := tk_stop (ys := tg ws) (r := lg ws) (tg_ok ws) (by rw [tg_len]; exact h) (lg_head ws)
  rw [tg_lg] at this; exact this
theorem tk_big {ws : Ws} (h : 8 < cnW ws) : ∃ x q, lfW ws = x :: q ∧ okN x = true := by
  have := tk_over (ys := tg ws) (r := lg ws) (tg_ok ws) (by rw [tg_len]; exact h)
  rw [tg_lg] at this; exact this

def gpW (x : List UInt8) (ws : Ws) : Ws × Ws × Bool := if ws.head? = some x then (tg ws.tail, lg ws.tail, !(tg ws.tail).isEmpty) else ([], ws, true)
theorem gpW_no {x : List UInt8} {ws : Ws} (h : ws.head? ≠ some x) : gpW x ws = ([], ws, true) := by unfold gpW; rw [if_neg h]
theorem gpW_yes {x : List UInt8} {ws : Ws} (h : ws.head? = some x) : gpW x ws = (tg ws.tail, lg ws.tail, !(tg ws.tail).isEmpty) := by unfold gpW; rw [if_pos h]
theorem prW_is {x : List UInt8} {ws : Ws} (h : ws.head? = some x) : prW x ws = (tkW ws.tail, lfW ws.tail, !(tkW ws.tail).isEmpty) := by unfold prW; rw [if_pos h]

def gEnd (a : Ws) (r : List UInt8) (b : Ws) (c d : Ws × Ws × Bool) : Option Bt :=
  if c.2.2 && d.2.2 && d.2.1.isEmpty && decide (b.length ≤ 8) && decide (c.1.length ≤ 8) && decide (d.1.length ≤ 8) then some (a, r, b, c.1, d.1) else none

theorem gEnd_no1 {a b : Ws} {r : List UInt8} {c d : Ws × Ws × Bool} (h : 8 < b.length) : gEnd a r b c d = none := by
  unfold gEnd; rw [if_neg]; simp; intros; omega
theorem gEnd_no2 {a b : Ws} {r : List UInt8} {c d : Ws × Ws × Bool} (h : 8 < c.1.length) : gEnd a r b c d = none := by
  unfold gEnd; rw [if_neg]; simp; intros; omega
theorem gEnd_no3 {a b : Ws} {r : List UInt8} {c d : Ws × Ws × Bool} (h : 8 < d.1.length) : gEnd a r b c d = none := by
  unfold gEnd; rw [if_neg]; simp; intros; omega
theorem gEnd_no4 {a b : Ws} {r : List UInt8} {c d : Ws × Ws × Bool} (h : c.2.2 = false) : gEnd a r b c d = none := by
  unfold gEnd; rw [if_neg]; simp [h]
theorem gEnd_no5 {a b : Ws} {r : List UInt8} {c d : Ws × Ws × Bool} (h : d.2.2 = false) : gEnd a r b c d = none := by
  unfold gEnd; rw [if_neg]; simp [h]
theorem gEnd_no6 {a b : Ws} {r : List UInt8} {c d : Ws × Ws × Bool} (h : d.2.1 ≠ []) : gEnd a r b c d = none := by
  unfold gEnd; rw [if_neg]; simp [h]
theorem gEnd_yes {a b : Ws} {r : List UInt8} {c d : Ws × Ws × Bool} (h1 : c.2.2 = true) (h2 : d.2.2 = true) (h3 : d.2.1 = []) (h4 : b.length ≤ 8) (h5 : c.1.length ≤ 8) (h6 : d.1.length ≤ 8) : gEnd a r b c d = some (a, r, b, c.1, d.1) := by
  unfold gEnd; rw [if_pos]; simp [h1, h2, h3, h4, h5, h6]

theorem pr_gp {x : List UInt8} {z : Ws} (h : ((gpW x z).1).length ≤ 8) : prW x z = gpW x z := by
  by_cases hh : z.head? = some x
  · rw [gpW_yes hh] at h ⊢
    rw [prW_is hh]
    obtain ⟨e1, e2⟩ := tk_small (ws := z.tail) (by rw [← tg_len]; exact h)
    rw [e1, e2]
  · rw [gpW_no hh, prW_no hh]
theorem pr_big {x : List UInt8} {z : Ws} (h : 8 < ((gpW x z).1).length) : ∃ c k y q, prW x z = (c, y :: q, k) ∧ okN y = true := by
  by_cases hh : z.head? = some x
  · rw [gpW_yes hh] at h
    obtain ⟨y, q, e1, e2⟩ := tk_big (ws := z.tail) (by rw [← tg_len]; exact h)
    exact ⟨_, _, y, q, by rw [prW_is hh, e1], e2⟩
  · rw [gpW_no hh] at h; simp at h

theorem end_g (a : Ws) (r : List UInt8) (z : Ws) : endW a r (tkW z) (lfW z) = gEnd a r (tg z) (gpW [124] (lg z)) (gpW [124, 124] (gpW [124] (lg z)).2.1) := by
  by_cases hb : cnW z ≤ 8
  · obtain ⟨e1, e2⟩ := tk_small hb
    rw [e1, e2]
    unfold endW
    by_cases hc : ((gpW [124] (lg z)).1).length ≤ 8
    · rw [pr_gp hc]
      unfold endP
      by_cases hd : ((gpW [124, 124] (gpW [124] (lg z)).2.1).1).length ≤ 8
      · rw [pr_gp hd]
        unfold endD gEnd
        rw [decide_eq_true (by rw [tg_len]; exact hb : (tg z).length ≤ 8), decide_eq_true hc, decide_eq_true hd, Bool.and_true, Bool.and_true, Bool.and_true]
      · obtain ⟨c, k, y, q, h1, h2⟩ := pr_big (by omega : 8 < ((gpW [124, 124] (gpW [124] (lg z)).2.1).1).length)
        rw [gEnd_no3 (by omega), h1]
        unfold endD; rw [if_neg (by simp)]
    · obtain ⟨c, k, y, q, h1, h2⟩ := pr_big (by omega : 8 < ((gpW [124] (lg z)).1).length)
      rw [gEnd_no2 (by omega), h1, endP_no h2]
  · obtain ⟨x, q, h1, h2⟩ := tk_big (by omega : 8 < cnW z)
    rw [gEnd_no1 (by rw [tg_len]; omega), h1]
    unfold endW
    rw [prW_no (name_head h2 okN_124), endP_no h2]

/-- The document's own reading is that one. -/
theorem rf_no1 {ws : Ws} (h : cnW ws < 1) : bdW ws = none := by
  refine bd_none1 ?_
  rw [(tk_small (by omega)).1]
  exact List.eq_nil_of_length_eq_zero (by rw [tg_len]; omega)
theorem rf_no2 {ws : Ws} (h : 8 < cnW ws) : bdW ws = none := by
  obtain ⟨x, q, h1, h2⟩ := tk_big h
  refine bd_none2 ?_
  rw [h1]; exact name_head h2 okN_58
theorem rf_no4 {ws : Ws} (h : cnW ws ≤ 8) (hx : (lg ws).head? ≠ some [58]) : bdW ws = none := bd_none2 (by rw [(tk_small h).2]; exact hx)
theorem rf_no5 {ws : Ws} (h : cnW ws ≤ 8) (hx : okN ((lg ws).tail.headD []) = false) : bdW ws = none := bd_none3 (by rw [(tk_small h).2]; exact hx)
theorem rf_no3 {ws : Ws} (h : cnW ws ≤ 8) (hx : ws.length ≤ cnW ws + 1) : bdW ws = none := by
  have hl : (lg ws).length ≤ 1 := by unfold lg; rw [List.length_drop]; omega
  refine rf_no5 h ?_
  cases hg : lg ws with
  | nil => rfl
  | cons x q =>
    rw [hg] at hl
    cases q with
    | nil => rfl
    | cons y p => simp at hl
theorem rf_end {ws : Ws} (h1 : 1 ≤ cnW ws) (h2 : cnW ws ≤ 8) (h3 : (lg ws).head? = some [58]) (h4 : okN ((lg ws).tail.headD []) = true) :
    bdW ws = gEnd (tg ws) ((lg ws).tail.headD []) (tg (lg ws).tail.tail) (gpW [124] (lg (lg ws).tail.tail)) (gpW [124, 124] (gpW [124] (lg (lg ws).tail.tail)).2.1) := by
  obtain ⟨e1, e2⟩ := tk_small h2
  rw [bd_endW (by rw [e1]; intro e; have := tg_len ws; rw [e] at this; simp at this; omega) (by rw [e2]; exact h3) (by rw [e2]; exact h4), e1, e2, end_g]

theorem lg_at (ws : Ws) (j : Nat) : (lg ws)[j]? = ws[cnW ws + j]? := by unfold lg; rw [List.getElem?_drop]
theorem lg_two (ws : Ws) : (lg ws).tail.tail = ws.drop (cnW ws + 2) := by
  unfold lg; rw [List.tail_drop, List.tail_drop]

end Go.Proofs.YtpddckgkaopnlaaGreatDoor

/- A block of five cells that is written cell by cell, rows that lie apart from it, rows that are cut; an append to nothing inside a statement that leaves its order open; no conditions. -/
namespace Go.Proofs.YtpddckgkaopnlaaGreatDoor
open Go.RowKit

def updV (v : Nat → Value) (i : Nat) (x : Value) : Nat → Value := fun j => if j = i then x else v j

/-- Five values that lie in block g. -/
structure Bk (w : World) (g : Nat) (v : Nat → Value) : Prop where
  hi : g < w.heap.size
  c : ∀ i, i < 5 → w.cell? ⟨g, i, none⟩ = some (v i)
  frz : ∀ r, w.frozen? ⟨g, r, none⟩ = false

theorem Bk.q {w w' : World} {g : Nat} {v : Nat → Value} (h : Bk w g v) (hq : Q w w') : Bk w' g v :=
  ⟨Nat.lt_of_lt_of_le h.hi hq.size, fun i hi => (hq.cell (p := ⟨g, i, none⟩) h.hi).trans (h.c i hi), fun r => (hq.frozen (p := ⟨g, r, none⟩) h.hi).trans (h.frz r)⟩
theorem Bk.set {w : World} {g : Nat} {v : Nat → Value} (h : Bk w g v) (i : Nat) (hi : i < 5) (x : Value) : Bk (w.setCell ⟨g, i, none⟩ x) g (updV v i x) := by
  refine ⟨by simpa using h.hi, fun j hj => ?_, fun r => by rw [← h.frz r]; simp⟩
  unfold updV
  by_cases e : j = i
  · subst e
    rw [if_pos rfl]
    exact World.cell?_setCell_same' w ⟨g, j, none⟩ x (by rw [h.c j hj]; rfl)
  · rw [if_neg e, ← h.c j hj]
    exact World.cell?_setCell_other w ⟨g, i, none⟩ ⟨g, j, none⟩ x (by intro h2; cases h2; exact e rfl)
theorem Bk.but {w w' : World} {g k : Nat} {v : Nat → Value} (h : Bk w g v) (hb : But k w w') (hne : g ≠ k) : Bk w' g v :=
  ⟨Nat.lt_of_lt_of_le h.hi hb.size, fun i hi => (World.cell?_of_block (w := w) (a := ⟨g, i, none⟩) (hb.block g h.hi hne)).trans (h.c i hi), fun r => (World.frozen?_of_block (w := w) (a := ⟨g, r, none⟩) (hb.block g h.hi hne)).trans (h.frz r)⟩

/-- A row of texts that lies apart from blocks k and l. -/
def RowF (k l : Nat) (w : World) (A : Option Addr) (xs : Ws) : Prop := RowT w A xs ∧ ∀ a, A = some a → a.block ≠ k ∧ a.block ≠ l

theorem row_but {m : Nat} {w w' : World} {A : Option Addr} {xs : Ws} (h : RowT w A xs) (hb : But m w w') (hn : ∀ a, A = some a → a.block ≠ m) : RowT w' A xs := by
  rcases h with h1 | ⟨g, o, rfl, hg, hc⟩
  · exact Or.inl h1
  · have hne : g ≠ m := hn _ rfl
    exact Or.inr ⟨g, o, rfl, Nat.lt_of_lt_of_le hg hb.size, fun j i x v hx hi hv => (World.cell?_of_block (w := w) (a := ⟨g, o + (j * 1 + i), none⟩) (hb.block g hg hne)).trans (hc j i x v hx hi hv)⟩
theorem RowF.but1 {k l : Nat} {w w' : World} {A : Option Addr} {xs : Ws} (h : RowF k l w A xs) (hb : But k w w') : RowF k l w' A xs := ⟨row_but h.1 hb (fun a ha => (h.2 a ha).1), h.2⟩
theorem RowF.but2 {k l : Nat} {w w' : World} {A : Option Addr} {xs : Ws} (h : RowF k l w A xs) (hb : But l w w') : RowF k l w' A xs := ⟨row_but h.1 hb (fun a ha => (h.2 a ha).2), h.2⟩
theorem RowF.q {k l : Nat} {w w' : World} {A : Option Addr} {xs : Ws} (h : RowF k l w A xs) (hq : Q w w') : RowF k l w' A xs := ⟨h.1.q hq, h.2⟩
theorem RowF.nil (k l : Nat) (w : World) : RowF k l w none [] := ⟨Or.inl rfl, fun _ h => by cases h⟩
theorem RowF.own {k l B : Nat} {w : World} {A : Option Addr} {cap : Nat} {xs : Ws} (h : OwnT w B A cap xs) (hk : ∀ g, B ≤ g → g < w.heap.size → g ≠ k ∧ g ≠ l) : RowF k l w A xs := by
  refine ⟨h.row, fun a ha => ?_⟩
  subst ha
  have hl := h.lt
  rcases h.2 with ⟨e, _⟩ | ⟨g, cap', cur, e, hb, _⟩
  · cases e
  · cases e
    have := hl g rfl
    exact hk g this.1 this.2
theorem RowF.take {k l : Nat} {w : World} {A : Option Addr} {xs : Ws} (h : RowF k l w A xs) (n : Nat) : RowF k l w A (xs.take n) := by
  refine ⟨?_, h.2⟩
  rcases h.1 with h1 | ⟨g, o, rfl, hg, hc⟩
  · rw [h1]; exact Or.inl (by simp)
  · refine Or.inr ⟨g, o, rfl, hg, fun j i x v hx hi hv => hc j i x v ?_ hi hv⟩
    rw [List.getElem?_take] at hx; split at hx
    · exact hx
    · cases hx
/-- ws[j:], as the machine says it. -/
theorem RowF.cut {k l : Nat} {w : World} {A : Option Addr} {xs : Ws} (h : RowF k l w A xs) (j cap : Nat) (hc : xs.length ≤ cap) : RowF k l w (if cap = j then A else A.map (·.add (j * 1))) (xs.drop j) := by
  by_cases hj : cap = j
  · rw [if_pos hj, List.drop_eq_nil_of_le (by omega)]
    exact ⟨Or.inl rfl, h.2⟩
  rw [if_neg hj]
  rcases h.1 with h1 | ⟨g, o, rfl, hg, hcc⟩
  · refine ⟨Or.inl (by rw [h1]; simp), fun a ha => ?_⟩
    cases A with
    | none => cases ha
    | some b => cases ha; rw [show (b.add (j * 1)).block = b.block by unfold Addr.add; split <;> rfl]; exact h.2 b rfl
  · refine ⟨Or.inr ⟨g, o + j, by simp [Addr.add], hg, fun i l x v hx hl hv => ?_⟩, fun a ha => ?_⟩
    · rw [List.getElem?_drop] at hx
      have := hcc (j + i) l x v hx hl hv
      rw [← this]; congr 2; omega
    · cases ha
      show ((⟨g, o, none⟩ : Addr).add (j * 1)).block ≠ k ∧ ((⟨g, o, none⟩ : Addr).add (j * 1)).block ≠ l
      rw [show ((⟨g, o, none⟩ : Addr).add (j * 1)).block = g by unfold Addr.add; split <;> rfl]; exact h.2 ⟨g, o, none⟩ rfl

theorem RowF.cutS {k l : Nat} {w : World} {g o : Nat} {xs : Ws} (h : RowF k l w (some ⟨g, o, none⟩) xs) (j : Nat) : RowF k l w (some ⟨g, o + j, none⟩) (xs.drop j) := by
  have hf : g ≠ k ∧ g ≠ l := h.2 _ rfl
  refine ⟨?_, fun a ha => by cases ha; exact hf⟩
  rcases h.1 with h1 | ⟨g', o', he, hg, hcc⟩
  · exact Or.inl (by rw [h1]; simp)
  · cases he
    refine Or.inr ⟨g, o + j, rfl, hg, fun i l x v hx hl hv => ?_⟩
    rw [List.getElem?_drop] at hx
    have := hcc (j + i) l x v hx hl hv
    rw [← this]; congr 2; omega
theorem RowF.cutE {k l : Nat} {w : World} {A : Option Addr} {xs : Ws} (h : RowF k l w A xs) (j : Nat) (hj : xs.length ≤ j) : RowF k l w A (xs.drop j) :=
  ⟨Or.inl (List.drop_eq_nil_of_le hj), h.2⟩

theorem step_new {ops : Array Oper} {o : Oper} {a : Act} {w : World} {K : Act → World → Prop} {Q' : Exit → Act → World → Prop} {E : Prop} (i0 : TypeInfo) (hi : Tryz.prog.info? 9 = some i0) (hz0 : i0.zero = some (.string ByteArray.empty)) (hz1 : i0.size = 1) (hz2 : i0.bytes = 16)
    (hg : o.guard = none) (s x : Operand) (ho : o.op = .call { callee := .builtin .append, args := #[s, x], argTypes := #[24, 24] })
    (hs : a.eval s = .slice none 0 0) (A : Option Addr) (m c : Nat) (hx : a.eval x = .slice A m c) (xs : Ws) (hm : m = xs.length) (hr : RowT w A xs) (hl : m ≤ 4294967296)
    (h : ∀ ao' cap' w', OwnT w' w.heap.size ao' cap' xs → Q w w' → K (a.put o.dst (.slice ao' m cap')) w') :
    if Region.wanted o (yielded ops a.tmps) = true then Oper.wp Tryz.prog o a w K Q' else E := by
  have hw : Region.wanted o (yielded ops a.tmps) = true := by simp [Region.wanted, hg]
  rw [if_pos hw]
  subst hm
  refine wp_append_row s x 24 ho w.heap.size 9 i0 (.string ByteArray.empty) 1 16 Tryz.underlying24 hi hz0 hz1 hz2 rfl (by decide) none 0 0 [] hs (World.ownsRow_nil _ _ _ _) A xs.length c (lay tv xs) hx (SrcRow.row tv_len (by decide) hr) ?_ (by unfold maxLen; omega) (by omega) (Nat.le_refl _) ?_
  · intro u hu
    obtain ⟨y, _, hy⟩ := List.mem_flatMap.1 hu
    simp [tv] at hy; subst hy; rfl
  · intro ao' cap' w' h1 h2
    rw [Nat.zero_add] at h1 ⊢
    refine h ao' cap' w' (by simpa using h1) ?_
    exact Below.grown (Q.refl w) h2 (Nat.le_refl _) (fun k hk => by cases hk)

end Go.Proofs.YtpddckgkaopnlaaGreatDoor
