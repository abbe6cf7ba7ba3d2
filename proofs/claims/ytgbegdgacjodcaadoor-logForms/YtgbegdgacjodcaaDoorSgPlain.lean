/- What a sign is, how long it is, and that one sign has but one making: plain facts, no program in them; no conditions. -/
import Derived.Test.YtgbegdgacjodcaaDoorGfPlain
namespace Go.Proofs.YtgbegdgacjodcaaDoor
open Go.RowKit

/-- Names with a blank between each two. -/
abbrev jb (ws : Ws) : Tx := Lib.join ws [32]
def tlB (d : Bool) : Tx := if d then [100] else [110]
/-- A sign. -/
def sgL (e : Ed) : Tx := jb e.1 ++ 124 :: (jb e.2.1 ++ 124 :: (jb e.2.2.1 ++ 124 :: (tlB e.2.2.2.2.2.1 ++ 124 :: e.2.2.2.2.1)))
def sgS (e : Ed) : Tx := if edOk e then sgL e else []
def sgE (e : Ed) : Int := if edOk e then 0 else 1100

theorem sg_yes {e : Ed} (h : edOk e = true) : sgS e = sgL e ∧ sgE e = 0 := by unfold sgS sgE; rw [if_pos h, if_pos h]; exact ⟨rfl, rfl⟩
theorem sg_no {e : Ed} (h : edOk e = false) : sgS e = [] ∧ sgE e = 1100 := by
  have : ¬ edOk e = true := by rw [h]; simp
  unfold sgS sgE; rw [if_neg this, if_neg this]; exact ⟨rfl, rfl⟩

theorem sg_five (e : Ed) : Lib.join [jb e.1, jb e.2.1, jb e.2.2.1, tlB e.2.2.2.2.2.1, e.2.2.2.2.1] [124] = sgL e := by
  unfold sgL Lib.join List.intercalate
  simp

theorem pth_may {x : Tx} (h : pthB x = true) : mayL x = true := by
  unfold pthB cleanL at h
  by_cases hc : mayL x = true ∧ x.head? ≠ some 47
  · exact hc.1
  · rw [if_neg hc] at h; simp at h
theorem may_len {x : Tx} (h : mayL x = true) : 1 ≤ x.length ∧ x.length ≤ 16 := by
  unfold mayL at h
  simp at h
  exact ⟨by omega, by omega⟩
theorem may_free {x : Tx} (h : mayL x = true) (c : UInt8) (hc : okb c.toNat = false) : c ∉ x := by
  unfold mayL allOk at h
  rw [Bool.and_eq_true] at h
  intro hm
  have := List.all_eq_true.1 h.2 c hm
  rw [hc] at this; cases this
theorem pts_all {ws : Ws} (h : ptsB ws = true) : ws.length ≤ 8 ∧ ∀ x ∈ ws, pthB x = true := by
  unfold ptsB at h
  rw [Bool.and_eq_true, decide_eq_true_iff] at h
  exact ⟨h.1, fun x hx => List.all_eq_true.1 h.2 x hx⟩
theorem ed_ok {e : Ed} (h : edOk e = true) : e.1 ≠ [] ∧ ptsB e.1 = true ∧ ptsB e.2.1 = true ∧ ptsB e.2.2.1 = true ∧ ptsB e.2.2.2.1 = true ∧ cmB e.2.2.2.2.1 = true ∧ plB e.2.2.2.2.2.2 = true := by
  unfold edOk at h
  simp only [Bool.and_eq_true] at h
  obtain ⟨h0, h1, h2, h3, h4, h5, h6⟩ := h
  exact ⟨fun h => by rw [h] at h0; simp at h0, h1, h2, h3, h4, h5, h6⟩

theorem join_two (x y : Tx) (r : Ws) (c : UInt8) : Lib.join (x :: y :: r) [c] = x ++ c :: Lib.join (y :: r) [c] := by
  rw [Lib.join_cons, Lib.join_cons]
  simp [Lib.joinTail]
theorem join_len (c : UInt8) (m : Nat) : ∀ ws : Ws, (∀ x ∈ ws, x.length ≤ m) → (Lib.join ws [c]).length ≤ ws.length * (m + 1)
  | [], _ => by rw [Lib.join_nil]; simp
  | [x], h => by rw [Lib.join_one]; have := h x (by simp); simp; omega
  | x :: y :: r, h => by
    have h1 := h x (by simp)
    have h2 := join_len c m (y :: r) (fun z hz => h z (by simp [hz]))
    rw [join_two, List.length_append, List.length_cons, List.length_cons (a := x), Nat.add_mul]
    omega
theorem jb_len {ws : Ws} (h : ptsB ws = true) : (jb ws).length ≤ 136 := by
  obtain ⟨h1, h2⟩ := pts_all h
  have := join_len 32 16 ws (fun x hx => (may_len (pth_may (h2 x hx))).2)
  have h3 : ws.length * 17 ≤ 8 * 17 := Nat.mul_le_mul_right _ h1
  unfold jb; omega
theorem cm_len {c : Tx} (h : cmB c = true) : c.length ≤ 256 := by
  unfold cmB at h
  simp at h; omega
theorem tl_len (d : Bool) : (tlB d).length = 1 := by cases d <;> rfl
theorem sg_len {e : Ed} (h : edOk e = true) : (sgL e).length ≤ 700 := by
  obtain ⟨_, h1, h2, h3, _, h5, _⟩ := ed_ok h
  have g1 := jb_len h1
  have g2 := jb_len h2
  have g3 := jb_len h3
  have g5 := cm_len h5
  have g4 := tl_len e.2.2.2.2.2.1
  unfold sgL
  simp only [List.length_append, List.length_cons]
  omega

/-! one sign, one making -/
theorem cut_one (c : UInt8) : ∀ (a b : Tx) {r s : Tx}, c ∉ a → c ∉ b → a ++ c :: r = b ++ c :: s → a = b ∧ r = s
  | [], [], r, s, _, _, h => by simpa using h
  | [], y :: b, r, s, _, hb, h => by
    simp at h
    exact absurd (show c ∈ y :: b by rw [← h.1]; simp) hb
  | x :: a, [], r, s, ha, _, h => by
    simp at h
    exact absurd (show c ∈ x :: a by rw [h.1]; simp) ha
  | x :: a, y :: b, r, s, ha, hb, h => by
    simp at h
    obtain ⟨h1, h2⟩ := cut_one c a b (fun hm => ha (by simp [hm])) (fun hm => hb (by simp [hm])) h.2
    exact ⟨by rw [h.1, h1], h2⟩
theorem join_inj (c : UInt8) : ∀ (a b : Ws), (∀ x ∈ a, c ∉ x ∧ x ≠ []) → (∀ x ∈ b, c ∉ x ∧ x ≠ []) → Lib.join a [c] = Lib.join b [c] → a = b
  | [], [], _, _, _ => rfl
  | [], [y], _, hb, h => by
    rw [Lib.join_nil, Lib.join_one] at h
    exact absurd h.symm (hb y (by simp)).2
  | [], y :: z :: r, _, hb, h => by
    rw [Lib.join_nil, join_two] at h
    simp at h
  | [x], [], ha, _, h => by
    rw [Lib.join_nil, Lib.join_one] at h
    exact absurd h (ha x (by simp)).2
  | x :: z :: r, [], ha, _, h => by
    rw [Lib.join_nil, join_two] at h
    simp at h
  | [x], [y], _, _, h => by rw [Lib.join_one, Lib.join_one] at h; rw [h]
  | [x], y :: z :: r, ha, _, h => by
    rw [Lib.join_one, join_two] at h
    exact absurd (show c ∈ x by rw [h]; simp) (ha x (by simp)).1
  | x :: z :: r, [y], _, hb, h => by
    rw [Lib.join_one, join_two] at h
    exact absurd (show c ∈ y by rw [← h]; simp) (hb y (by simp)).1
  | x :: z :: r, y :: u :: s, ha, hb, h => by
    rw [join_two, join_two] at h
    obtain ⟨h1, h2⟩ := cut_one c x y (ha x (by simp)).1 (hb y (by simp)).1 h
    rw [h1, join_inj c (z :: r) (u :: s) (fun w hw => ha w (by simp [hw])) (fun w hw => hb w (by simp [hw])) h2]
theorem pts_free {ws : Ws} (h : ptsB ws = true) (c : UInt8) (hc : okb c.toNat = false) : ∀ x ∈ ws, c ∉ x ∧ x ≠ [] := by
  intro x hx
  have hm := pth_may ((pts_all h).2 x hx)
  refine ⟨may_free hm c hc, fun h0 => ?_⟩
  have := (may_len hm).1
  rw [h0] at this; simp at this
theorem join_free (c d : UInt8) (hd : d ≠ c) : ∀ ws : Ws, (∀ x ∈ ws, d ∉ x) → d ∉ Lib.join ws [c]
  | [], _ => by rw [Lib.join_nil]; simp
  | [x], h => by rw [Lib.join_one]; exact h x (by simp)
  | x :: y :: r, h => by
    have h1 := h x (by simp)
    have h2 := join_free c d hd (y :: r) (fun z hz => h z (by simp [hz]))
    rw [join_two]
    simp only [List.mem_append, List.mem_cons]
    rintro (h3 | h3 | h3)
    · exact h1 h3
    · exact hd h3
    · exact h2 h3
theorem jb_free {ws : Ws} (h : ptsB ws = true) : (124 : UInt8) ∉ jb ws := join_free 32 124 (by decide) ws (fun x hx => (pts_free h 124 (by decide) x hx).1)
theorem tl_free (d : Bool) : (124 : UInt8) ∉ tlB d := by cases d <;> decide
theorem tl_inj {d d' : Bool} (h : tlB d = tlB d') : d = d' := by cases d <;> cases d' <;> first | rfl | (revert h; decide)

/-- What two edges of one sign have in common. -/
def sgEq (a b : Ed) : Bool := decide (a.1 = b.1) && (decide (a.2.1 = b.2.1) && (decide (a.2.2.1 = b.2.2.1) && ((a.2.2.2.2.2.1 == b.2.2.2.2.2.1) && (a.2.2.2.2.1 == b.2.2.2.2.1))))
theorem sg_inj {a b : Ed} (ha : edOk a = true) (hb : edOk b = true) : (sgL a == sgL b) = sgEq a b := by
  obtain ⟨_, a1, a2, a3, _⟩ := ed_ok ha
  obtain ⟨_, b1, b2, b3, _⟩ := ed_ok hb
  have h32 := fun {ws : Ws} (h : ptsB ws = true) => pts_free h 32 (by decide)
  rw [Bool.eq_iff_iff, beq_iff_eq]
  unfold sgEq
  simp only [Bool.and_eq_true, decide_eq_true_iff, beq_iff_eq]
  constructor
  · intro h
    unfold sgL at h
    obtain ⟨e1, h⟩ := cut_one 124 _ _ (jb_free a1) (jb_free b1) h
    obtain ⟨e2, h⟩ := cut_one 124 _ _ (jb_free a2) (jb_free b2) h
    obtain ⟨e3, h⟩ := cut_one 124 _ _ (jb_free a3) (jb_free b3) h
    obtain ⟨e4, h⟩ := cut_one 124 _ _ (tl_free _) (tl_free _) h
    exact ⟨join_inj 32 _ _ (h32 a1) (h32 b1) e1, join_inj 32 _ _ (h32 a2) (h32 b2) e2, join_inj 32 _ _ (h32 a3) (h32 b3) e3, tl_inj e4, h⟩
  · rintro ⟨e1, e2, e3, e4, e5⟩
    unfold sgL
    rw [e1, e2, e3, e4, e5]

end Go.Proofs.YtgbegdgacjodcaaDoor
