/- Plain facts on values of texts one behind the other, of texts without a variable, of variables that hide others; with no program in them; no conditions. -/
import Derived.Test.YtdkbjbcchpenaaaEvPlain
import Derived.Test.YtdkbjbcchpenaaaPcTwo
namespace Go.Proofs.Ytdkbjbcchpenaaa
open Go.RowKit

/-- What a part of a text stands for. -/
def tokT (ins outs : List Bd) : Tok → List UInt8
  | .inl c => [c]
  | .inr n => txt ins outs (true, n)

theorem evT_add (ins outs : List Bd) (ps : List Pc) (x : Tok) : evT ins outs (add ps x) = evT ins outs ps ++ tokT ins outs x := by
  cases x with
  | inr n => exact evT_snoc ins outs ps (true, n)
  | inl c =>
    unfold add
    simp only
    split
    · rename_i l hl
      obtain ⟨qs, rfl⟩ := List.getLast?_eq_some_iff.1 hl
      rw [List.dropLast_concat, evT_snoc, evT_snoc, txt_text, txt_text, List.append_assoc]; rfl
    · rw [evT_snoc, txt_text]; rfl
theorem evT_addAll (ins outs : List Bd) : ∀ (ts : List Tok) (ps : List Pc), evT ins outs (addAll ps ts) = evT ins outs ps ++ ts.flatMap (tokT ins outs)
  | [], ps => by simp [addAll]
  | x :: r, ps => by
    show evT ins outs (addAll (add ps x) r) = _
    rw [evT_addAll ins outs r (add ps x), evT_add, List.flatMap_cons, List.append_assoc]

theorem cut_some {l : List UInt8} (h : cutE l = 0) : l.length ≤ 2048 ∧ plainL l = true ∧ ∃ ts, tks l = some ts ∧ cutP l = addAll [] ts := by
  by_cases hp : l.length ≤ 2048 ∧ plainL l = true
  · cases hk : tks l with
    | none => rw [(cut_bad hk).2] at h; cases h
    | some ts => exact ⟨hp.1, hp.2, ts, rfl, (cut_of hp.1 hp.2 hk).1⟩
  · unfold cutE cutL at h
    rw [if_neg hp] at h; simp at h

theorem evE_zero {l : List UInt8} {ins outs : List Bd} (h : evE l ins outs = 0) : cutE l = 0 ∧ scOk ins = true ∧ scOk outs = true ∧ (evT ins outs (cutP l)).length ≤ 256 ∧ evS l ins outs = evT ins outs (cutP l) := by
  cases ho : evOk l ins outs
  · rw [(ev_bad ho).2] at h; cases h
  · by_cases hl : (evT ins outs (cutP l)).length ≤ 256
    · have h2 := Bool.and_eq_true_iff.1 ho
      have h3 := Bool.and_eq_true_iff.1 h2.1
      exact ⟨of_decide_eq_true h3.1, h3.2, h2.2, hl, (ev_good ho hl).1⟩
    · rw [(ev_long ho (by omega)).2] at h; cases h
theorem evE_not {l : List UInt8} {ins outs : List Bd} (h : evE l ins outs ≠ 0) : evS l ins outs = [] := by
  cases ho : evOk l ins outs
  · exact (ev_bad ho).1
  · by_cases hl : (evT ins outs (cutP l)).length ≤ 256
    · exact absurd (ev_good ho hl).2 h
    · exact (ev_long ho (by omega)).1
theorem evS_le (l : List UInt8) (ins outs : List Bd) : (evS l ins outs).length ≤ 256 := by
  unfold evS
  split
  · rename_i h; have := (Bool.and_eq_true_iff.1 h).2; simpa using this
  · simp

/-- Two texts' values, a blank between. -/
theorem ev_parts {s t : List UInt8} {ins outs : List Bd} (h1 : evE s ins outs = 0) (h2 : evE t ins outs = 0) (hl : s.length + t.length + 2 ≤ 2048) :
    scOk ins = true ∧ ((evS s ins outs).length + (evS t ins outs).length + 1 ≤ 256 → evS (s ++ 36 :: 32 :: t) ins outs = evS s ins outs ++ 32 :: evS t ins outs ∧ evE (s ++ 36 :: 32 :: t) ins outs = 0) ∧
      (256 < (evS s ins outs).length + (evS t ins outs).length + 1 → evE (s ++ 36 :: 32 :: t) ins outs = 501) := by
  obtain ⟨c1, k1, k2, l1, e1⟩ := evE_zero h1
  obtain ⟨c2, _, _, l2, e2⟩ := evE_zero h2
  obtain ⟨_, ps, ts, hts, hcs⟩ := cut_some c1
  obtain ⟨_, pt, us, hus, hct⟩ := cut_some c2
  have hp : plainL (36 :: 32 :: t) = true := by
    rw [show (36 :: 32 :: t : List UInt8) = [36, 32] ++ t from rfl, plainL_app, pt]; decide
  have hb : tks (36 :: 32 :: t) = some (.inl 32 :: us) := by rw [tks_step (x := .inl 32) (k := 2) (by simp [tk])]; simp [hus]
  have hc : tks (s ++ 36 :: 32 :: t) = some (ts ++ .inl 32 :: us) := by
    rw [tks_app (32 :: t) s.length s ts (Nat.le_refl _) hts, hb]; rfl
  have cc := cut_of (l := s ++ 36 :: 32 :: t) (by simp; omega) (by rw [plainL_app, ps, hp]; rfl) hc
  have hev : evT ins outs (cutP (s ++ 36 :: 32 :: t)) = evS s ins outs ++ 32 :: evS t ins outs := by
    rw [cc.1, evT_addAll, e1, e2, hcs, hct, evT_addAll, evT_addAll, List.flatMap_append]
    simp [evT_nil, tokT]
  have hok := evOk_all cc.2 k1 k2
  refine ⟨k1, fun h => ?_, fun h => ?_⟩
  · have := ev_good hok (by rw [hev]; simp; omega)
    rw [hev] at this; exact this
  · exact (ev_long hok (by rw [hev]; simp; omega)).2

/-- Each $ doubled. -/
def dbl (u : List UInt8) : List UInt8 := u.flatMap fun c => if c = 36 then [36, 36] else [c]
theorem dbl_snoc (u : List UInt8) (c : UInt8) : dbl (u ++ [c]) = dbl u ++ (if c = 36 then [36, 36] else [c]) := by unfold dbl; rw [List.flatMap_append]; simp
theorem dbl_cons (c : UInt8) (u : List UInt8) : dbl (c :: u) = (if c = 36 then [36, 36] else [c]) ++ dbl u := by unfold dbl; rw [List.flatMap_cons]
theorem dbl_le : ∀ u : List UInt8, u.length ≤ (dbl u).length
  | [] => by simp [dbl]
  | c :: r => by have := dbl_le r; rw [dbl_cons]; split <;> simp <;> omega
theorem tks_dbl : ∀ u : List UInt8, tks (dbl u) = some (u.map .inl)
  | [] => rfl
  | c :: r => by
    rw [dbl_cons]
    by_cases hc : c = 36
    · subst hc
      rw [if_pos rfl]
      have : tk ([36, 36] ++ dbl r) = some (.inl 36, 2) := by simp [tk]
      rw [tks_step this]
      simp [tks_dbl r]
    · rw [if_neg hc]
      have : tk ([c] ++ dbl r) = some (.inl c, 1) := by simp [tk, hc]
      rw [tks_step this]
      simp [tks_dbl r]
theorem plain_dbl : ∀ u : List UInt8, plainL u = true → plainL (dbl u) = true
  | [], _ => rfl
  | c :: r, h => by
    rw [show c :: r = [c] ++ r from rfl, plainL_app] at h
    have h2 := Bool.and_eq_true_iff.1 h
    rw [dbl_cons, plainL_app, plain_dbl r h2.2, Bool.and_true]
    split
    · decide
    · exact h2.1
theorem flat_inl (ins outs : List Bd) : ∀ u : List UInt8, (u.map (Sum.inl : UInt8 → Tok)).flatMap (tokT ins outs) = u
  | [] => rfl
  | c :: r => by rw [List.map_cons, List.flatMap_cons, flat_inl ins outs r]; rfl
theorem ev_dbl {u : List UInt8} {ins outs : List Bd} (hp : plainL u = true) (hl : (dbl u).length ≤ 256) (hi : scOk ins = true) (ho : scOk outs = true) : evS (dbl u) ins outs = u ∧ evE (dbl u) ins outs = 0 := by
  have cc := cut_of (l := dbl u) (by omega) (plain_dbl u hp) (tks_dbl u)
  have hev : evT ins outs (cutP (dbl u)) = u := by rw [cc.1, evT_addAll, flat_inl]; rfl
  have := ev_good (evOk_all cc.2 hi ho) (by rw [hev]; exact Nat.le_trans (dbl_le u) hl)
  rw [hev] at this; exact this

/-- A scope of one bind. -/
theorem one_ok {n t : ByteArray} (hn : mayB n = true) (ht : txB t = true) : scOk [(n, t)] = true := by
  refine scOk_of (by simp) ?_
  intro k b hb
  cases k with
  | zero => simp at hb; subst hb; exact ⟨by unfold mayBd; rw [hn, ht]; rfl, rfl⟩
  | succ k => simp at hb
theorem one_get {n t : ByteArray} (hn : mayB n = true) (ht : txB t = true) : getB [(n, t)] n = t :=
  get_hit (k := 0) (b := (n, t)) (one_ok hn ht) (hit_at (k := 0) (b := (n, t)) rfl rfl (by simp [named])) rfl
theorem one_other {n m t : ByteArray} (h : bl n ≠ bl m) : getB [(n, t)] m = ByteArray.empty :=
  get_none (hit_none (by simp [named, h]))

theorem name_v : mayB ⟨#[118]⟩ = true := by decide +kernel
theorem name_w : mayB ⟨#[119]⟩ = true := by decide +kernel
theorem cut_v : cutP (bl ⟨#[60, 36, 118, 62]⟩) = [(false, [60]), (true, [118]), (false, [62])] ∧ cutE (bl ⟨#[60, 36, 118, 62]⟩) = 0 := by decide +kernel
theorem cut_vw : cutP (bl ⟨#[36, 118, 36, 119]⟩) = [(true, [118]), (true, [119])] ∧ cutE (bl ⟨#[36, 118, 36, 119]⟩) = 0 := by decide +kernel

theorem inner_one {a b : ByteArray} (ha : txB a = true) (hb : txB b = true) (la : a.size ≤ 100) (lb : b.size ≤ 100) :
    evS (bl ⟨#[60, 36, 118, 62]⟩) [(⟨#[118]⟩, a)] [(⟨#[118]⟩, b)] = 60 :: ((if bl a = [] then bl b else bl a) ++ [62]) ∧ evE (bl ⟨#[60, 36, 118, 62]⟩) [(⟨#[118]⟩, a)] [(⟨#[118]⟩, b)] = 0 := by
  have hev : evT [(⟨#[118]⟩, a)] [(⟨#[118]⟩, b)] (cutP (bl ⟨#[60, 36, 118, 62]⟩)) = 60 :: ((if bl a = [] then bl b else bl a) ++ [62]) := by
    rw [cut_v.1]
    have e1 : getB [(⟨#[118]⟩, a)] ⟨[118].toArray⟩ = a := one_get name_v ha
    have e2 : getB [(⟨#[118]⟩, b)] ⟨[118].toArray⟩ = b := one_get name_v hb
    simp only [evT, List.flatMap_cons, List.flatMap_nil, txt, e1, e2]
    simp
  have hsz := bl_size a
  have hsz2 := bl_size b
  have := ev_good (evOk_all cut_v.2 (one_ok name_v ha) (one_ok name_v hb)) (by rw [hev]; simp; split <;> omega)
  rw [hev] at this; exact this
theorem inner_two {a b : ByteArray} (ha : txB a = true) (hb : txB b = true) (la : a.size ≤ 100) (lb : b.size ≤ 100) :
    evS (bl ⟨#[36, 118, 36, 119]⟩) [(⟨#[118]⟩, a)] [(⟨#[119]⟩, b)] = bl a ++ bl b ∧ evE (bl ⟨#[36, 118, 36, 119]⟩) [(⟨#[118]⟩, a)] [(⟨#[119]⟩, b)] = 0 := by
  have hev : evT [(⟨#[118]⟩, a)] [(⟨#[119]⟩, b)] (cutP (bl ⟨#[36, 118, 36, 119]⟩)) = bl a ++ bl b := by
    rw [cut_vw.1]
    have e1 : getB [(⟨#[118]⟩, a)] ⟨[118].toArray⟩ = a := one_get name_v ha
    have e2 : getB [(⟨#[119]⟩, b)] ⟨[118].toArray⟩ = ByteArray.empty := one_other (by decide)
    have e3 : getB [(⟨#[118]⟩, a)] ⟨[119].toArray⟩ = ByteArray.empty := one_other (by decide)
    have e4 : getB [(⟨#[119]⟩, b)] ⟨[119].toArray⟩ = b := one_get name_w hb
    have e0 : bl ByteArray.empty = [] := rfl
    simp only [evT, List.flatMap_cons, List.flatMap_nil, txt, e1, e2, e3, e4, e0]
    by_cases h : bl a = [] <;> simp [h]
  have hsz := bl_size a
  have hsz2 := bl_size b
  have := ev_good (evOk_all cut_vw.2 (one_ok name_v ha) (one_ok name_w hb)) (by rw [hev]; simp; omega)
  rw [hev] at this; exact this

end Go.Proofs.Ytdkbjbcchpenaaa
