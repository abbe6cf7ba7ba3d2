/- What a record's line is, what record a line tells, two ways of cutting a line that come to the same: plain facts, no program in them; no conditions. -/
import Derived.Test.YtgbegdgacjodcaaDoorSgPlain
import Derived.Lib.ItoaNum
import Derived.Lib.AtoiTie
import Derived.Lib.AtoiAllCases
namespace Go.Proofs.YtgbegdgacjodcaaDoor
open Go.RowKit

abbrev Rc := Tx × Int × Tx
def tmB1 (t : Int) : Bool := decide (1 ≤ t) && decide (t ≤ 1048576)
def snB (s : Tx) : Bool := !s.isEmpty && (decide (s.length ≤ 2048) && plainL s)
def rcOk (r : Rc) : Bool := pthB r.1 && (tmB1 r.2.1 && snB r.2.2)

/-! a number's digits -/
def dcF : Nat → Nat → Tx
  | 0, _ => []
  | f + 1, u => if u < 10 then [UInt8.ofNat (48 + u)] else dcF f (u / 10) ++ [UInt8.ofNat (48 + u % 10)]
def dc (t : Int) : Tx := dcF 8 t.toNat

theorem dcF_eq : ∀ (f u : Nat), u < 10 ^ (f + 1) → dcF (f + 1) u = Lib.decDigits u
  | 0, u, h => by
    have h1 : u < 10 := by simpa using h
    rw [dcF, if_pos h1, Lib.decDigits, dif_pos h1]
  | f + 1, u, h => by
    by_cases h1 : u < 10
    · rw [dcF, if_pos h1, Lib.decDigits, dif_pos h1]
    · rw [dcF, if_neg h1, Lib.decDigits, dif_neg h1, dcF_eq f (u / 10) (by rw [Nat.pow_succ] at h; omega)]
theorem dc_itoa {t : Int} (h : tmB1 t = true) : Lib.itoa t = dc t := by
  unfold tmB1 at h
  simp at h
  unfold Lib.itoa dc
  rw [if_neg (by omega), dcF_eq 7 _ (by omega)]
theorem dg_toNat {u : Nat} (h : u < 10) : (UInt8.ofNat (48 + u)).toNat = 48 + u := by
  rw [UInt8.toNat_ofNat']; omega
theorem dcF_dig : ∀ (f u : Nat) (c : UInt8), c ∈ dcF f u → 48 ≤ c.toNat ∧ c.toNat ≤ 57
  | 0, u, c, h => by simp [dcF] at h
  | f + 1, u, c, h => by
    rw [dcF] at h
    by_cases h1 : u < 10
    · rw [if_pos h1] at h
      rw [List.mem_singleton] at h; subst h
      rw [dg_toNat h1]; omega
    · rw [if_neg h1, List.mem_append] at h
      rcases h with h | h
      · exact dcF_dig f _ c h
      · rw [List.mem_singleton] at h; subst h
        rw [dg_toNat (by omega)]; omega
theorem dcF_len : ∀ (f u : Nat), (dcF f u).length ≤ f
  | 0, u => by simp [dcF]
  | f + 1, u => by
    rw [dcF]
    split
    · simp
    · have := dcF_len f (u / 10); simp; omega
theorem dcF_ne (f u : Nat) : dcF (f + 1) u ≠ [] := by
  rw [dcF]; split <;> simp
theorem dec_snoc {l : Tx} {acc n d : Nat} {b : UInt8} (h : Lib.decFrom acc l = some n) (hb : Lib.digitVal b = some d) : Lib.decFrom acc (l ++ [b]) = some (n * 10 + d) := by
  have h1 := Lib.decFrom_take (l ++ [b]) l.length acc n b d (by simpa using h) (by simp) hb
  rw [List.take_of_length_le (by simp)] at h1
  exact h1
theorem dg_val {u : Nat} (h : u < 10) : Lib.digitVal (UInt8.ofNat (48 + u)) = some u := by
  unfold Lib.digitVal
  rw [dg_toNat h, if_pos (by omega)]
  congr 1; omega
theorem dcF_dec : ∀ (f u : Nat), u < 10 ^ (f + 1) → Lib.decFrom 0 (dcF (f + 1) u) = some u
  | 0, u, h => by
    have h1 : u < 10 := by simpa using h
    rw [dcF, if_pos h1, Lib.decFrom, dg_val h1]; simp [Lib.decFrom]
  | f + 1, u, h => by
    by_cases h1 : u < 10
    · rw [dcF, if_pos h1, Lib.decFrom, dg_val h1]; simp [Lib.decFrom]
    · rw [dcF, if_neg h1]
      have := dec_snoc (dcF_dec f (u / 10) (by rw [Nat.pow_succ] at h; omega)) (dg_val (u := u % 10) (by omega))
      rw [this]; congr 1; omega

/-! a number out of its digits -/
def ctN (d : Tx) : Int := match Lib.atoiAll d with | .ok v => v | .range => Lib.atoiSat d | _ => 0
theorem ctN_dc {t : Int} (h : tmB1 t = true) : ctN (dc t) = t := by
  unfold tmB1 at h
  simp at h
  have h1 : t.toNat < 10 ^ 8 := by omega
  have hd := dcF_dec 7 t.toNat h1
  have hl := dcF_len 8 t.toNat
  have hn := dcF_ne 7 t.toNat
  have hg := dcF_dig 8 t.toNat
  unfold ctN dc
  cases e : dcF 8 t.toNat with
  | nil => exact absurd e hn
  | cons c r =>
    rw [e] at hd hl
    have hc := hg c (by rw [e]; simp)
    have hm : Lib.parseMag (c :: r) = .ok t.toNat := by
      rw [Lib.parseMag_short _ (by omega)]
      unfold Lib.decNat
      rw [if_neg (by simp), hd]; rfl
    rw [Lib.atoiAll_plain c r (by omega) (by omega), hm]
    unfold Lib.signless
    simp
    rw [if_neg (by omega)]
    simp; omega

/-! a record's line -/
def rcT (r : Rc) : Tx := r.1 ++ 9 :: (dc r.2.1 ++ 9 :: (r.2.2 ++ [10]))
def lgT (r : Rc) : Tx := if rcOk r then rcT r else []
def lgE (r : Rc) : Int := if rcOk r then 0 else 1300
theorem lg_yes {r : Rc} (h : rcOk r = true) : lgT r = rcT r ∧ lgE r = 0 := by unfold lgT lgE; rw [if_pos h, if_pos h]; exact ⟨rfl, rfl⟩
theorem lg_no {r : Rc} (h : rcOk r = false) : lgT r = [] ∧ lgE r = 1300 := by
  have : ¬ rcOk r = true := by rw [h]; simp
  unfold lgT lgE; rw [if_neg this, if_neg this]; exact ⟨rfl, rfl⟩
theorem rc_parts {r : Rc} (h : rcOk r = true) : pthB r.1 = true ∧ tmB1 r.2.1 = true ∧ snB r.2.2 = true := by
  unfold rcOk at h
  simp only [Bool.and_eq_true] at h
  exact ⟨h.1, h.2.1, h.2.2⟩
theorem sn_parts {s : Tx} (h : snB s = true) : s ≠ [] ∧ s.length ≤ 2048 ∧ plainL s = true := by
  unfold snB at h
  simp only [Bool.and_eq_true] at h
  exact ⟨fun h' => by rw [h'] at h; simp at h, by simpa using h.2.1, h.2.2⟩
theorem plain_free {s : Tx} (h : plainL s = true) (c : UInt8) (hc : c.toNat < 32) : c ∉ s := by
  unfold plainL at h
  intro hm
  have := List.all_eq_true.1 h c hm
  simp at this; omega
theorem dc_free (t : Int) (c : UInt8) (hc : c.toNat < 48) : c ∉ dc t := fun hm => by
  have := dcF_dig 8 t.toNat c hm; omega
theorem dc_len (t : Int) : 1 ≤ (dc t).length ∧ (dc t).length ≤ 8 := by
  refine ⟨?_, dcF_len 8 _⟩
  have := dcF_ne 7 t.toNat
  exact List.length_pos_iff.2 this
theorem rcT_len {r : Rc} (h : rcOk r = true) : (rcT r).length ≤ 2100 := by
  obtain ⟨h1, h2, h3⟩ := rc_parts h
  have g1 := (may_len (pth_may h1)).2
  have g2 := (dc_len r.2.1).2
  have g3 := (sn_parts h3).2.1
  unfold rcT
  simp only [List.length_append, List.length_cons, List.length_nil]
  omega

/-! a line, cut -/
def ctI (l : Tx) : Int := Lib.index l [9]
def ctA (l : Tx) : Tx := (Lib.cut l [9]).1
def ctB (l : Tx) : Tx := (Lib.cut l [9]).2.1
def ctS (l : Tx) : Tx := Lib.trimSuffix l [10]
def cutG (s : Tx) : Rc := (ctA s, ctN (ctA (ctB s)), ctS (ctB (ctB s)))

theorem ix_app : ∀ (a b : Tx) (c : UInt8), c ∉ a → Lib.index (a ++ c :: b) [c] = (a.length : Int)
  | [], b, c, _ => by rw [Lib.index_one]; simp [Lib.indexByte]
  | x :: a, b, c, h => by
    have h1 : c ∉ a := fun hm => h (by simp [hm])
    have h2 : x ≠ c := fun e => h (by simp [e])
    have := ix_app a b c h1
    rw [Lib.index_one] at this ⊢
    rw [List.cons_append, Lib.indexByte, this]
    have h3 : (x == c) = false := by simpa using h2
    have h4 : ((a.length : Int) == -1) = false := by simp
    rw [h3, h4]
    simp
theorem cut_app (a b : Tx) (h : (9 : UInt8) ∉ a) : ctA (a ++ 9 :: b) = a ∧ ctB (a ++ 9 :: b) = b := by
  unfold ctA ctB Lib.cut
  rw [ix_app a b 9 h, if_pos (by omega)]
  simp
theorem trim_app (s : Tx) : ctS (s ++ [10]) = s := by
  unfold ctS Lib.trimSuffix Lib.hasSuffix
  simp
theorem cut_line {r : Rc} (h : rcOk r = true) : cutG (rcT r) = r := by
  obtain ⟨h1, h2, h3⟩ := rc_parts h
  have g1 := cut_app r.1 (dc r.2.1 ++ 9 :: (r.2.2 ++ [10])) (may_free (pth_may h1) 9 (by decide))
  have g2 := cut_app (dc r.2.1) (r.2.2 ++ [10]) (dc_free _ 9 (by decide))
  unfold cutG rcT
  rw [g1.1, g1.2, g2.1, g2.2, ctN_dc h2, trim_app]

/-! a line, sign by sign -/
def stR (st : Int × Rc) (c : UInt8) : Int × Rc :=
  if c = 9 then (st.1 + 1, st.2)
  else if st.1 = 0 then (st.1, (st.2.1 ++ [c], st.2.2.1, st.2.2.2))
  else if st.1 = 1 ∧ 48 ≤ c.toNat ∧ c.toNat ≤ 57 ∧ st.2.2.1 ≤ 1048576 then (st.1, (st.2.1, 10 * st.2.2.1 + ((c.toNat - 48 : Nat) : Int), st.2.2.2))
  else if st.1 = 2 ∧ c ≠ 10 then (st.1, (st.2.1, st.2.2.1, st.2.2.2 ++ [c]))
  else st
def foR (s : Tx) : Int × Rc := s.foldl stR (0, ([], 0, []))

theorem fo_name : ∀ (a : Tx) (o : Tx) (t : Int) (g : Tx), (9 : UInt8) ∉ a → a.foldl stR (0, (o, t, g)) = (0, (o ++ a, t, g))
  | [], o, t, g, _ => by simp
  | x :: a, o, t, g, h => by
    have h1 : (9 : UInt8) ∉ a := fun hm => h (by simp [hm])
    have h2 : x ≠ 9 := fun e => h (by simp [e])
    rw [List.foldl_cons]
    have : stR (0, (o, t, g)) x = (0, (o ++ [x], t, g)) := by unfold stR; rw [if_neg h2]; simp
    rw [this, fo_name a _ t g h1]
    simp
theorem fo_sign : ∀ (a : Tx) (o : Tx) (t : Int) (g : Tx), (9 : UInt8) ∉ a → (10 : UInt8) ∉ a → a.foldl stR (2, (o, t, g)) = (2, (o, t, g ++ a))
  | [], o, t, g, _, _ => by simp
  | x :: a, o, t, g, h, h' => by
    have h1 : (9 : UInt8) ∉ a := fun hm => h (by simp [hm])
    have h2 : x ≠ 9 := fun e => h (by simp [e])
    have h3 : (10 : UInt8) ∉ a := fun hm => h' (by simp [hm])
    have h4 : x ≠ 10 := fun e => h' (by simp [e])
    rw [List.foldl_cons]
    have : stR (2, (o, t, g)) x = (2, (o, t, g ++ [x])) := by
      unfold stR; rw [if_neg h2, if_neg (by simp), if_neg (by simp), if_pos ⟨rfl, h4⟩]
    rw [this, fo_sign a o t _ h1 h3]
    simp
theorem fo_dig : ∀ (f u : Nat) (o g : Tx), u ≤ 1048576 → u < 10 ^ (f + 1) → (dcF (f + 1) u).foldl stR (1, (o, 0, g)) = (1, (o, (u : Int), g)) := by
  intro f
  have one : ∀ (v : Int) (d : Nat) (o g : Tx), d < 10 → v ≤ 1048576 → stR (1, (o, v, g)) (UInt8.ofNat (48 + d)) = (1, (o, 10 * v + (d : Int), g)) := by
    intro v d o g hd hv
    have h0 := dg_toNat hd
    have h2 : UInt8.ofNat (48 + d) ≠ 9 := fun e => by rw [e] at h0; have : (9 : UInt8).toNat = 9 := rfl; omega
    unfold stR
    rw [if_neg h2, if_neg (by simp), if_pos ⟨rfl, by omega, by omega, hv⟩, h0]
    simp
  induction f with
  | zero =>
    intro u o g hu h
    have h1 : u < 10 := by simpa using h
    rw [dcF, if_pos h1, List.foldl_cons, List.foldl_nil, one 0 u o g h1 (by omega)]
    simp
  | succ f ih =>
    intro u o g hu h
    by_cases h1 : u < 10
    · rw [dcF, if_pos h1, List.foldl_cons, List.foldl_nil, one 0 u o g h1 (by omega)]
      simp
    · rw [dcF, if_neg h1, List.foldl_append, ih (u / 10) o g (by omega) (by rw [Nat.pow_succ] at h; omega), List.foldl_cons, List.foldl_nil, one _ (u % 10) o g (by omega) (by omega)]
      congr 3; omega
theorem fo_line {r : Rc} (h : rcOk r = true) : (foR (rcT r)).2 = r := by
  obtain ⟨h1, h2, h3⟩ := rc_parts h
  obtain ⟨_, _, h4⟩ := sn_parts h3
  obtain ⟨o, t, g⟩ := r
  unfold tmB1 at h2
  simp at h2
  have st9 : ∀ (p : Int) (r : Rc), stR (p, r) 9 = (p + 1, r) := fun p r => by unfold stR; simp
  unfold foR rcT dc
  dsimp only at h1 h4 ⊢
  rw [List.foldl_append, fo_name o [] 0 [] (may_free (pth_may h1) 9 (by decide)), List.foldl_cons, st9, List.foldl_append]
  rw [show ((0 : Int) + 1) = 1 from rfl, fo_dig 7 _ _ _ (by omega) (by omega), List.foldl_cons, st9, List.foldl_append]
  rw [show ((1 : Int) + 1) = 2 from rfl, fo_sign g _ _ _ (plain_free h4 9 (by decide)) (plain_free h4 10 (by decide)), List.foldl_cons, List.foldl_nil]
  have : ((t.toNat : Nat) : Int) = t := by omega
  rw [this]
  unfold stR
  simp

/-! what a line tells: whichever way it is cut -/
def gtF (c : Tx → Rc) (s : Tx) : Option Rc := if rcOk (c s) && (rcT (c s) == s) then some (c s) else none
theorem gtF_of {c c' : Tx → Rc} (h : ∀ r, rcOk r = true → c (rcT r) = r) (h' : ∀ r, rcOk r = true → c' (rcT r) = r) (s : Tx) : gtF c s = gtF c' s := by
  have key : ∀ {c c' : Tx → Rc}, (∀ r, rcOk r = true → c' (rcT r) = r) → ∀ r, gtF c s = some r → gtF c' s = some r := by
    intro c c' h' r hr
    unfold gtF at hr
    by_cases hc : (rcOk (c s) && (rcT (c s) == s)) = true
    · rw [if_pos hc] at hr
      cases hr
      rw [Bool.and_eq_true] at hc
      obtain ⟨h1, h2⟩ := hc
      have h2 := eq_of_beq h2
      have h3 := h' (c s) h1
      rw [h2] at h3
      unfold gtF
      rw [h3, h1, h2]
      simp
    · rw [if_neg hc] at hr; cases hr
  cases e : gtF c s with
  | some r => exact (key h' r e).symm
  | none =>
    cases e' : gtF c' s with
    | none => rfl
    | some r => rw [key h r e'] at e; cases e
def gtL (s : Tx) : Option Rc := gtF cutG s
def gtR (s : Tx) : Rc := (gtL s).getD ([], 0, [])
def gtE (s : Tx) : Int := if (gtL s).isSome then 0 else 1300
theorem gt_other (s : Tx) : gtF (fun s => (foR s).2) s = gtL s := gtF_of (fun _ h => fo_line h) (fun _ h => cut_line h) s
theorem gt_line {r : Rc} (h : rcOk r = true) : gtL (rcT r) = some r := by
  unfold gtL gtF
  rw [cut_line h, h]; simp
theorem gt_some {s : Tx} {r : Rc} (h : gtL s = some r) : rcOk r = true ∧ rcT r = s := by
  unfold gtL gtF at h
  split at h
  · rename_i hc
    cases h
    rw [Bool.and_eq_true] at hc
    exact ⟨hc.1, eq_of_beq hc.2⟩
  · cases h
theorem gt_nil : gtL [] = none := by
  cases h : gtL [] with
  | none => rfl
  | some r =>
    have := (gt_some h).2
    unfold rcT at this; simp at this

/-! no line begins another -/
theorem line_end {r : Rc} (h : rcOk r = true) : ∃ b, rcT r = b ++ [10] ∧ (10 : UInt8) ∉ b := by
  obtain ⟨h1, h2, h3⟩ := rc_parts h
  obtain ⟨_, _, h4⟩ := sn_parts h3
  refine ⟨r.1 ++ 9 :: (dc r.2.1 ++ 9 :: r.2.2), by unfold rcT; simp, ?_⟩
  have g1 := may_free (pth_may h1) 10 (by decide)
  have g2 := dc_free r.2.1 10 (by decide)
  have g3 := plain_free h4 10 (by decide)
  simp [g1, g2, g3]
theorem rcT_inj {a b : Rc} (ha : rcOk a = true) (hb : rcOk b = true) (h : rcT a = rcT b) : a = b := by
  have h1 := cut_line ha
  rw [h, cut_line hb] at h1
  exact h1.symm
theorem line_pre {a b : Rc} (ha : rcOk a = true) (hb : rcOk b = true) (h : ∃ x, rcT b = rcT a ++ x) : a = b := by
  obtain ⟨x, h⟩ := h
  obtain ⟨p, e1, h1⟩ := line_end ha
  obtain ⟨q, e2, h2⟩ := line_end hb
  rw [e1, e2] at h
  have h' : p ++ 10 :: x = q ++ 10 :: [] := by simpa using h.symm
  obtain ⟨h3, _⟩ := cut_one 10 p q h1 h2 h'
  exact rcT_inj ha hb (by rw [e1, e2, h3])
theorem un_like {a b : Rc} (ha : rcOk a = true) (hb : rcOk b = true) : ((rcT a).take (min (rcT a).length (rcT b).length) == (rcT b).take (min (rcT a).length (rcT b).length)) = decide (a = b) := by
  by_cases h : a = b
  · subst h; simp
  · rw [decide_eq_false h]
    refine beq_eq_false_iff_ne.2 fun he => h ?_
    rcases Nat.le_total (rcT a).length (rcT b).length with hl | hl
    · rw [Nat.min_eq_left hl, List.take_length] at he
      exact line_pre ha hb ⟨(rcT b).drop (rcT a).length, by rw [he, List.length_take, Nat.min_eq_left hl, List.take_append_drop]⟩
    · rw [Nat.min_eq_right hl, List.take_length] at he
      refine (line_pre hb ha ⟨(rcT a).drop (rcT b).length, ?_⟩).symm
      rw [← he, List.length_take, Nat.min_eq_left hl, List.take_append_drop]

end Go.Proofs.YtgbegdgacjodcaaDoor
