/- Several texts of mine in one: NmPlain, PtPlain, RfPlain, PcPlain, SpPlain, LnPlain, WdPlain, PcMore, StPlain, ScPlain, EvPlain, MfPlain, MfIx, GfPlain, SgPlain, LgPlain, LoPlain, LoMore. -/
import Derived.WalkKit
import Derived.Deep.QuietTactic
import Derived.BigQuiet
import Derived.Lib.Bytealg
import Derived.Lib.IndexLaws
import Derived.Lib.SplitLaws
import Derived.Lib.Join
import Derived.Lib.TrimByte
import Derived.Below
import Derived.OneCell
import Derived.Deep.AppendLies
import Derived.Lib.UnsafeStr
import Derived.Lib.Builder
import Derived.Lib.ItoaNum
import Derived.Lib.AtoiTie
import Derived.Lib.AtoiAllCases
/- Plain facts on bytes and names, with no program in them: what a name is (one to sixteen bytes, each a small letter, a digit or one of four signs); no conditions. -/
namespace Go.Proofs.YtgbegdgacjodcaaGreatDoor
open Go.RowKit

theorem hide {p : Prop} (h : p) : Hid p := h
theorem unhide {p : Prop} (h : Hid p) : p := h

theorem ret_bool {a b : Bool} (h : a = b) : Ending.returned (.bool a) = .returned (.bool b) := by rw [h]
theorem ret_int {k : IntKind} {a b : Int} (h : a = b) : Ending.returned (.int k a) = .returned (.int k b) := by rw [h]

def okb (c : Int) : Bool := decide (97 ≤ c ∧ c ≤ 122) || decide (48 ≤ c ∧ c ≤ 57) || decide (c = 46) || decide (c = 95) || decide (c = 45) || decide (c = 47)

def smallB (c : Int) : Bool := decide (97 ≤ c ∧ c ≤ 122) || decide (48 ≤ c ∧ c ≤ 57)

def allOk (l : List UInt8) : Bool := l.all fun c => okb c.toNat

def mayB (s : ByteArray) : Bool := decide (1 ≤ s.size) && decide (s.size ≤ 16) && allOk s.data.toList

abbrev Q (w w' : World) : Prop := Below w.heap.size w w'

theorem Q.refl (w : World) : Q w w := Below.refl _ _
theorem Q.trans {a b c : World} (h : Q a b) (k : Q b c) : Q a c := Below.trans h (Below.mono k h.size)
theorem Q.drew {a b : World} (h : Q a b) : Q a b.drew := Below.drew h
theorem Q.alloc {a b : World} (h : Q a b) (o : Obj) : Q a (b.alloc o) := Below.alloc h h.size o

theorem Q.drewN {a b : World} (h : Q a b) (n : Nat) : Q a (b.drewN n) := ⟨h.os, h.tape, h.output, h.size, h.block⟩

theorem signs_index (c : Int) (h0 : 0 ≤ c) (h1 : c ≤ 255) :
    Lib.indexByte [46, 95, 45, 47] c.toNat.toUInt8 = if c = 46 then 0 else if c = 95 then 1 else if c = 45 then 2 else if c = 47 then 3 else -1 := by
  obtain ⟨k, rfl⟩ := Int.eq_ofNat_of_zero_le h0
  have hk : k < 256 := by omega
  clear h0 h1
  revert k
  decide +kernel

theorem okb_not_small (c : Int) (h : smallB c = false) : okb c = (decide (c = 46) || decide (c = 95) || decide (c = 45) || decide (c = 47)) := by
  unfold smallB at h; unfold okb; rw [h]; simp
theorem okb_small (c : Int) (h : smallB c = true) : okb c = true := by
  unfold smallB at h; unfold okb; rw [h]; simp

theorem okb_false (c : Int) (h : okb c = false) : smallB c = false ∧ (c != 46) = true ∧ (c != 95) = true ∧ (c != 45) = true ∧ (c != 47) = true := by
  unfold okb at h; unfold smallB
  simp at h ⊢; omega
theorem okb_true (c : Int) (h : okb c = true) : smallB c = true ∨ (smallB c = false ∧ (c != 46) = false) ∨ (smallB c = false ∧ (c != 46) = true ∧ (c != 95) = false) ∨ (smallB c = false ∧ (c != 46) = true ∧ (c != 95) = true ∧ (c != 45) = false) ∨ (smallB c = false ∧ (c != 46) = true ∧ (c != 95) = true ∧ (c != 45) = true ∧ (c != 47) = false) := by
  unfold okb at h; unfold smallB
  simp at h ⊢; omega

theorem okb_parts (c : Int) : (97 ≤ c ∧ c ≤ 122 ∧ okb c = true) ∨ (¬ 97 ≤ c ∧ 48 ≤ c ∧ c ≤ 57 ∧ okb c = true) ∨ (smallB c = false ∧ c = 46 ∧ okb c = true) ∨ (smallB c = false ∧ ¬ c = 46 ∧ c = 95 ∧ okb c = true)
    ∨ (smallB c = false ∧ ¬ c = 46 ∧ ¬ c = 95 ∧ c = 45 ∧ okb c = true) ∨ (smallB c = false ∧ ¬ c = 46 ∧ ¬ c = 95 ∧ ¬ c = 45 ∧ c = 47 ∧ okb c = true) ∨ (smallB c = false ∧ ¬ c = 46 ∧ ¬ c = 95 ∧ ¬ c = 45 ∧ ¬ c = 47 ∧ okb c = false) := by
  unfold okb smallB
  simp; omega

theorem allOk_nil : allOk [] = true := rfl
theorem allOk_append (a b : List UInt8) : allOk (a ++ b) = (allOk a && allOk b) := by simp [allOk]
theorem take_snoc (s : ByteArray) (k : Nat) (h : k < s.size) : s.data.toList.take (k + 1) = s.data.toList.take k ++ [s[k]] := by
  rw [List.take_succ_eq_append_getElem (by simpa using h)]; rfl
theorem allOk_take_succ (s : ByteArray) (k : Nat) (h : k < s.size) : allOk (s.data.toList.take (k + 1)) = (allOk (s.data.toList.take k) && okb (s[k].toNat : Int)) := by
  rw [take_snoc s k h, allOk_append]; simp [allOk]
theorem allOk_bad (s : ByteArray) (k : Nat) (h : k < s.size) (hb : okb (s[k].toNat : Int) = false) : allOk s.data.toList = false := by
  have := allOk_take_succ s k h
  rw [hb, Bool.and_false] at this
  rw [← List.take_append_drop (k + 1) s.data.toList, allOk_append, this, Bool.false_and]
theorem allOk_full (s : ByteArray) (k : Nat) (h : s.size ≤ k) : allOk (s.data.toList.take k) = allOk s.data.toList := by
  rw [List.take_of_length_le (by simpa using h)]

end Go.Proofs.YtgbegdgacjodcaaGreatDoor

/- Plain facts on paths, with no program in them: a text cut at each slash, the pieces that stay, the path that they make; no conditions. -/
namespace Go.Proofs.YtgbegdgacjodcaaGreatDoor
open Go.RowKit

/-- A text cut at each slash. -/
def sp : List UInt8 → List (List UInt8)
  | [] => [[]]
  | c :: r => if c = 47 then [] :: sp r else (c :: (sp r).headD []) :: (sp r).tail

/-- One piece more, from the left. -/
def kst (ks : List (List UInt8)) (p : List UInt8) : Option (List (List UInt8)) :=
  if p = [] ∨ p = [46] then some ks else if p = [46, 46] then (if ks = [] then none else some ks.dropLast) else some (ks ++ [p])

def kf : List (List UInt8) → List (List UInt8) → Option (List (List UInt8))
  | ks, [] => some ks
  | ks, p :: r => match kst ks p with
    | none => none
    | some k => kf k r

def mayL (l : List UInt8) : Bool := decide (1 ≤ l.length) && decide (l.length ≤ 16) && allOk l

def cleanL (l : List UInt8) : Option (List UInt8) :=
  if mayL l = true ∧ l.head? ≠ some 47 then
    match kf [] (sp l) with
    | none => none
    | some [] => none
    | some (p :: ps) => some (Lib.join (p :: ps) [47])
  else none

def cstr (l : List UInt8) : List UInt8 := (cleanL l).getD []
def cerr (l : List UInt8) : Int := if (cleanL l).isSome then 0 else 200

theorem mayB_mayL (s : ByteArray) : mayB s = mayL s.data.toList := by
  have e : s.size = s.data.toList.length := by rw [Array.length_toList]; rfl
  unfold mayB mayL; rw [e]

theorem sp_ne (l : List UInt8) : sp l ≠ [] := by
  cases l with
  | nil => simp [sp]
  | cons c r => unfold sp; split <;> simp

theorem sp_cons_tail (l : List UInt8) : (sp l).headD [] :: (sp l).tail = sp l := by
  have := sp_ne l
  cases h : sp l with
  | nil => exact absurd h this
  | cons a b => rfl

theorem sp_plain : ∀ (p : List UInt8), (47 : UInt8) ∉ p → sp p = [p]
  | [], _ => rfl
  | c :: r, h => by
    have hc : c ≠ 47 := fun e => h (by simp [e])
    have hr : (47 : UInt8) ∉ r := fun e => h (by simp [e])
    rw [sp, if_neg hc, sp_plain r hr]; rfl

theorem sp_app : ∀ (a b : List UInt8), sp (a ++ 47 :: b) = sp a ++ sp b
  | [], b => by simp [sp]
  | c :: r, b => by
    have ih := sp_app r b
    rw [List.cons_append, sp, sp, ih]
    have hn := sp_ne r
    by_cases hc : c = 47
    · simp [hc]
    · rw [if_neg hc, if_neg hc]
      cases h : sp r with
      | nil => exact absurd h hn
      | cons x y => simp

theorem sp_mem47 : ∀ (l : List UInt8) p, p ∈ sp l → (47 : UInt8) ∉ p
  | [], p, h => by simp [sp] at h; simp [h]
  | c :: r, p, h => by
    have ih := sp_mem47 r
    have hn := sp_cons_tail r
    rw [sp] at h
    by_cases hc : c = 47
    · rw [if_pos hc] at h
      rcases List.mem_cons.1 h with rfl | h
      · simp
      · exact ih p h
    · rw [if_neg hc] at h
      rcases List.mem_cons.1 h with rfl | h
      · intro h47
        rcases List.mem_cons.1 h47 with h47 | h47
        · exact hc h47.symm
        · exact ih ((sp r).headD []) (by rw [← hn]; simp) h47
      · exact ih p (by rw [← hn]; simp [h])

theorem join_snoc (ps : List (List UInt8)) (p : List UInt8) (h : ps ≠ []) : Lib.join (ps ++ [p]) [47] = Lib.join ps [47] ++ 47 :: p := by
  cases ps with
  | nil => exact absurd rfl h
  | cons a r => rw [List.cons_append, Lib.join_cons, Lib.join_cons]; simp [Lib.joinTail]

theorem join_cons2 (p q : List UInt8) (r : List (List UInt8)) : Lib.join (p :: q :: r) [47] = p ++ 47 :: Lib.join (q :: r) [47] := by
  rw [Lib.join_cons, Lib.join_cons]; simp [Lib.joinTail]

theorem sp_join : ∀ (ps : List (List UInt8)), ps ≠ [] → (∀ p ∈ ps, (47 : UInt8) ∉ p) → sp (Lib.join ps [47]) = ps
  | [], h, _ => absurd rfl h
  | [p], _, h => by rw [Lib.join_one]; exact sp_plain p (h p (by simp))
  | p :: q :: r, _, h => by
    rw [join_cons2, sp_app, sp_plain p (h p (by simp)), sp_join (q :: r) (by simp) (fun x hx => h x (List.mem_cons_of_mem _ hx))]
    rfl

/-- How long pieces are, each with a slash behind it. -/
def tot (ps : List (List UInt8)) : Nat := (ps.map fun p => p.length + 1).sum

theorem tot_app (a b : List (List UInt8)) : tot (a ++ b) = tot a + tot b := by simp [tot]
theorem tot_cons (a : List UInt8) (b : List (List UInt8)) : tot (a :: b) = a.length + 1 + tot b := by simp [tot]

theorem tot_one (a : List UInt8) : tot [a] = a.length + 1 := by simp [tot]

theorem tot_sp : ∀ (l : List UInt8), tot (sp l) = l.length + 1
  | [] => by simp [sp, tot]
  | c :: r => by
    have ih := tot_sp r
    have hn := sp_cons_tail r
    rw [sp]
    by_cases hc : c = 47
    · rw [if_pos hc, tot_cons, ih]; simp only [List.length_nil, List.length_cons]; omega
    · rw [if_neg hc, tot_cons]
      rw [← hn, tot_cons] at ih
      simp only [List.length_cons]; omega

theorem tot_join : ∀ (ps : List (List UInt8)), ps ≠ [] → (Lib.join ps [47]).length + 1 = tot ps
  | [], h => absurd rfl h
  | [p], _ => by simp [Lib.join_one, tot]
  | p :: q :: r, _ => by
    have := tot_join (q :: r) (by simp)
    rw [join_cons2, tot_cons]; simp; omega

theorem tot_dropLast (ps : List (List UInt8)) : tot ps.dropLast ≤ tot ps := by
  by_cases h : ps = []
  · simp [h]
  · have e : ps = ps.dropLast ++ [ps.getLast h] := (List.dropLast_concat_getLast h).symm
    have := tot_app ps.dropLast [ps.getLast h]
    rw [← e] at this; omega

/-- Pieces that stay: none is empty, a point, two points; none holds a slash; all bytes are a name's. -/
def Good (ks : List (List UInt8)) : Prop := ∀ p ∈ ks, p ≠ [] ∧ p ≠ [46] ∧ p ≠ [46, 46] ∧ (47 : UInt8) ∉ p ∧ allOk p = true

theorem kst_good {ks : List (List UInt8)} {p : List UInt8} {ks' : List (List UInt8)} (h : kst ks p = some ks') (hk : Good ks) (hp : (47 : UInt8) ∉ p) (ho : allOk p = true) : Good ks' ∧ tot ks' ≤ tot ks + p.length + 1 := by
  unfold kst at h
  split at h
  · cases h; exact ⟨hk, by omega⟩
  · rename_i h1
    split at h
    · split at h
      · cases h
      · cases h
        exact ⟨fun q hq => hk q (List.dropLast_subset _ hq), by have := tot_dropLast ks; omega⟩
    · rename_i h2
      cases h
      refine ⟨?_, by rw [tot_app, tot_cons]; simp only [tot, List.map_nil, List.sum_nil]; omega⟩
      intro q hq
      rcases List.mem_append.1 hq with hq | hq
      · exact hk q hq
      · simp at hq; subst hq
        exact ⟨fun e => h1 (Or.inl e), fun e => h1 (Or.inr e), h2, hp, ho⟩

theorem kf_good : ∀ (ps ks ks' : List (List UInt8)), kf ks ps = some ks' → Good ks → (∀ p ∈ ps, (47 : UInt8) ∉ p) → (∀ p ∈ ps, allOk p = true) → Good ks' ∧ tot ks' ≤ tot ks + tot ps
  | [], ks, ks', h, hk, _, _ => by simp [kf] at h; subst h; exact ⟨hk, by omega⟩
  | p :: r, ks, ks', h, hk, h47, ho => by
    unfold kf at h
    split at h
    · cases h
    · rename_i k hk1
      have g := kst_good hk1 hk (h47 p (by simp)) (ho p (by simp))
      have := kf_good r k ks' h g.1 (fun q hq => h47 q (by simp [hq])) (fun q hq => ho q (by simp [hq]))
      refine ⟨this.1, ?_⟩
      rw [tot_cons]; have := this.2; have := g.2; omega

theorem kf_id : ∀ (ps ks : List (List UInt8)), Good ps → kf ks ps = some (ks ++ ps)
  | [], ks, _ => by simp [kf]
  | p :: r, ks, h => by
    have hp := h p (by simp)
    have e : kst ks p = some (ks ++ [p]) := by
      unfold kst; rw [if_neg (by rintro (e | e); exact hp.1 e; exact hp.2.1 e), if_neg hp.2.2.1]
    unfold kf; rw [e]
    show kf (ks ++ [p]) r = _
    rw [kf_id r _ (fun q hq => h q (by simp [hq]))]; simp

theorem kf_app : ∀ (a b ks : List (List UInt8)), kf ks (a ++ b) = match kf ks a with | none => none | some k => kf k b
  | [], b, ks => rfl
  | p :: r, b, ks => by
    rw [List.cons_append, kf, kf]
    cases kst ks p with
    | none => rfl
    | some k => exact kf_app r b k

theorem kf_snoc {a : List (List UInt8)} {p : List UInt8} {ks k k' : List (List UInt8)} (h : kf ks a = some k) (h' : kst k p = some k') : kf ks (a ++ [p]) = some k' := by
  rw [kf_app, h]; show kf k [p] = _; unfold kf; rw [h']; rfl

theorem kf_fail {a b : List (List UInt8)} {p : List UInt8} {ks k : List (List UInt8)} (h : kf ks a = some k) (h' : kst k p = none) : kf ks (a ++ p :: b) = none := by
  rw [kf_app, h]; show kf k (p :: b) = _; unfold kf; rw [h']

theorem allOk_mem : ∀ (l : List UInt8) p, p ∈ sp l → allOk l = true → allOk p = true
  | [], p, h, _ => by simp [sp] at h; subst h; rfl
  | c :: r, p, h, ho => by
    have ih := allOk_mem r
    have hn := sp_cons_tail r
    have ho2 : okb c.toNat = true ∧ allOk r = true := by simpa [allOk] using ho
    rw [sp] at h
    by_cases hc : c = 47
    · rw [if_pos hc] at h
      rcases List.mem_cons.1 h with rfl | h
      · rfl
      · exact ih p h ho2.2
    · rw [if_neg hc] at h
      rcases List.mem_cons.1 h with rfl | h
      · have := ih ((sp r).headD []) (by rw [← hn]; simp) ho2.2
        have e : allOk (c :: (sp r).headD []) = (okb c.toNat && allOk ((sp r).headD [])) := by simp [allOk]
        rw [e, ho2.1, this]; rfl
      · exact ih p (by rw [← hn]; simp [h]) ho2.2

theorem join_allOk : ∀ (ps : List (List UInt8)), (∀ p ∈ ps, allOk p = true) → allOk (Lib.join ps [47]) = true
  | [], _ => rfl
  | [p], h => by rw [Lib.join_one]; exact h p (by simp)
  | p :: q :: r, h => by
    have ih := join_allOk (q :: r) (fun x hx => h x (List.mem_cons_of_mem _ hx))
    rw [join_cons2, allOk_append, h p (by simp)]
    have e : allOk (47 :: Lib.join (q :: r) [47]) = (okb (47 : UInt8).toNat && allOk (Lib.join (q :: r) [47])) := by simp [allOk]
    rw [e, ih]; rfl

/-- What is told: pieces, joined. -/
theorem clean_some {l a : List UInt8} (h : cleanL l = some a) : ∃ ks, ks ≠ [] ∧ Good ks ∧ a = Lib.join ks [47] ∧ kf [] (sp l) = some ks ∧ tot ks ≤ l.length + 1 ∧ l.length ≤ 16 := by
  unfold cleanL at h
  split at h
  · rename_i h1
    split at h
    · cases h
    · cases h
    · rename_i p ps hk
      cases h
      have hm := h1.1
      have ho : allOk l = true := by unfold mayL at hm; simp at hm; exact hm.2
      have hl : l.length ≤ 16 := by unfold mayL at hm; simp at hm; exact hm.1.2
      have g := kf_good (sp l) [] (p :: ps) hk (fun q hq => by simp at hq) (sp_mem47 l) (fun q hq => allOk_mem l q hq ho)
      exact ⟨p :: ps, by simp, g.1, rfl, hk, by have := g.2; rw [tot_sp] at this; simp [tot] at this ⊢; omega, hl⟩
  · cases h

/-- Pieces, joined, that are no longer than a name: they are a path. -/
theorem clean_join {ks : List (List UInt8)} (h0 : ks ≠ []) (hg : Good ks) (hl : tot ks ≤ 17) : cleanL (Lib.join ks [47]) = some (Lib.join ks [47]) := by
  have h47 := fun p hp => (hg p hp).2.2.2.1
  have ht := tot_join ks h0
  cases ks with
  | nil => exact absurd rfl h0
  | cons p ps =>
    have hp := hg p (by simp)
    have e : Lib.join (p :: ps) [47] = p ++ Lib.joinTail [47] ps := Lib.join_cons p ps [47]
    have hh : (Lib.join (p :: ps) [47]).head? ≠ some 47 := by
      cases p with
      | nil => exact absurd rfl hp.1
      | cons c r => rw [e]; simp; intro e47; exact hp.2.2.2.1 (by simp [e47])
    have h1 : 1 ≤ (Lib.join (p :: ps) [47]).length := by
      cases p with
      | nil => exact absurd rfl hp.1
      | cons c r => rw [e]; simp
    have hm : mayL (Lib.join (p :: ps) [47]) = true := by
      unfold mayL
      rw [join_allOk _ (fun q hq => (hg q hq).2.2.2.2)]
      simp; omega
    unfold cleanL
    rw [if_pos ⟨hm, hh⟩, sp_join _ h0 h47, kf_id _ _ hg]
    rfl

theorem clean_again {l a : List UInt8} (h : cleanL l = some a) : cleanL a = some a := by
  obtain ⟨ks, h0, hg, rfl, _, ht, hl⟩ := clean_some h
  exact clean_join h0 hg (by omega)

theorem clean_le {l a : List UInt8} (h : cleanL l = some a) : a.length ≤ l.length ∧ l.length ≤ 16 ∧ a ≠ [] := by
  obtain ⟨ks, h0, hg, rfl, _, ht, hl⟩ := clean_some h
  have := tot_join ks h0
  refine ⟨by omega, hl, ?_⟩
  cases ks with
  | nil => exact absurd rfl h0
  | cons p ps =>
    have hp := hg p (by simp)
    rw [Lib.join_cons]
    intro e
    exact hp.1 (List.append_eq_nil_iff.1 e).1

theorem index47_none (l : List UInt8) (h : Lib.index l [47] = -1) : (47 : UInt8) ∉ l := by
  induction l with
  | nil => simp
  | cons c r ih =>
    rw [Lib.index] at h
    split at h
    · omega
    · rename_i h1
      split at h
      · rename_i h2
        have := ih (beq_iff_eq.1 h2)
        intro h47
        rcases List.mem_cons.1 h47 with e | e
        · subst e; simp [List.isPrefixOf] at h1
        · exact this e
      · have := Lib.index_ge r [47]; omega

theorem index47_some (l : List UInt8) (i : Nat) (h : Lib.index l [47] = i) : l = l.take i ++ 47 :: l.drop (i + 1) ∧ (47 : UInt8) ∉ l.take i := by
  induction l generalizing i with
  | nil => exact absurd h (by unfold Lib.index; simp)
  | cons c r ih =>
    rw [Lib.index] at h
    split at h
    · rename_i h1
      have e : i = 0 := by omega
      subst e
      have hc : c = 47 := by simp [List.isPrefixOf] at h1; exact h1.symm
      subst hc; simp
    · rename_i h1
      split at h
      · omega
      · have hg := Lib.index_ge r [47]
        obtain ⟨j, rfl⟩ : ∃ j, i = j + 1 := ⟨i - 1, by rename_i h2; have : Lib.index r [47] ≠ -1 := fun e => h2 (beq_iff_eq.2 e); omega⟩
        have := ih j (by omega)
        have hc : c ≠ 47 := fun e => by subst e; simp [List.isPrefixOf] at h1
        refine ⟨?_, ?_⟩
        · rw [List.take_succ_cons, List.drop_succ_cons, List.cons_append, ← this.1]
        · rw [List.take_succ_cons]; intro h47
          rcases List.mem_cons.1 h47 with e | e
          · exact hc e.symm
          · exact this.2 e

theorem splitK_sp : ∀ (k : Nat) (l : List UInt8), Lib.count l [47] = k → Lib.splitK [47] 0 k l = sp l
  | 0, l, h => by
    by_cases hi : Lib.index l [47] = -1
    · rw [sp_plain l (index47_none l hi)]; rfl
    · have hg := Lib.index_ge l [47]
      obtain ⟨i, hi'⟩ : ∃ i : Nat, Lib.index l [47] = i := ⟨(Lib.index l [47]).toNat, by omega⟩
      rw [Lib.count_hit (by simp) hi'] at h; omega
  | k + 1, l, h => by
    by_cases hi : Lib.index l [47] = -1
    · rw [Lib.count_miss hi] at h; omega
    · have hg := Lib.index_ge l [47]
      obtain ⟨i, hi'⟩ : ∃ i : Nat, Lib.index l [47] = i := ⟨(Lib.index l [47]).toNat, by omega⟩
      have hc := Lib.count_hit (sub := [47]) (by simp) hi'
      have e := index47_some l i hi'
      rw [Lib.splitK, if_neg (fun e => hi (beq_iff_eq.1 e)), hi']
      have ih := splitK_sp k (l.drop (i + 1)) (by simp at hc; omega)
      simp only [Int.toNat_natCast, Nat.add_zero, List.length_cons, List.length_nil, Nat.zero_add]
      rw [ih]
      conv => rhs; rw [e.1]
      rw [sp_app, sp_plain _ e.2]; rfl

theorem splitB_sp (s : ByteArray) : (Lib.splitB ⟨#[47]⟩ 0 (Lib.countB s ⟨#[47]⟩) s).map (·.data.toList) = sp s.data.toList := by
  rw [Lib.splitB_data]; exact splitK_sp _ _ rfl

theorem clean_of_pieces {ps ks : List (List UInt8)} (h0 : ps ≠ []) (hh : ps.head? ≠ some []) (h47 : ∀ p ∈ ps, (47 : UInt8) ∉ p) (hok : ∀ p ∈ ps, allOk p = true) (ht : tot ps ≤ 17)
    (hk : kf [] ps = some ks) (hne : ks ≠ []) : cleanL (Lib.join ps [47]) = some (Lib.join ks [47]) := by
  have htj := tot_join ps h0
  have hsp := sp_join ps h0 h47
  cases ps with
  | nil => exact absurd rfl h0
  | cons p r =>
    cases p with
    | nil => exact absurd rfl hh
    | cons c q =>
      have e : Lib.join ((c :: q) :: r) [47] = (c :: q) ++ Lib.joinTail [47] r := Lib.join_cons (c :: q) r [47]
      have hh2 : (Lib.join ((c :: q) :: r) [47]).head? ≠ some 47 := by
        rw [e]; simp; intro e47; exact h47 (c :: q) (by simp) (by simp [e47])
      have h1 : 1 ≤ (Lib.join ((c :: q) :: r) [47]).length := by rw [e]; simp
      have hm : mayL (Lib.join ((c :: q) :: r) [47]) = true := by
        unfold mayL
        rw [join_allOk _ hok]
        simp; omega
      unfold cleanL
      rw [if_pos ⟨hm, hh2⟩, hsp, hk]
      cases ks with
      | nil => exact absurd rfl hne
      | cons a b => rfl

theorem clean_of_cleanL {l a : List UInt8} (h : cleanL l = some a) : cstr l = a ∧ cerr l = 0 := by
  unfold cstr cerr; rw [h]; exact ⟨rfl, rfl⟩
theorem clean_of_none {l : List UInt8} (h : cleanL l = none) : cstr l = [] ∧ cerr l = 200 := by
  unfold cstr cerr; rw [h]; exact ⟨rfl, rfl⟩

theorem clean_cases (l : List UInt8) : (cleanL l = none ∧ cstr l = [] ∧ cerr l = 200) ∨ ∃ a, cleanL l = some a ∧ cstr l = a ∧ cerr l = 0 ∧ cstr a = a ∧ cerr a = 0 ∧ a.length ≤ 16 := by
  cases h : cleanL l with
  | none => exact Or.inl ⟨rfl, clean_of_none h⟩
  | some a =>
    have h2 := clean_again h
    have h3 := clean_le h
    exact Or.inr ⟨a, rfl, (clean_of_cleanL h).1, (clean_of_cleanL h).2, (clean_of_cleanL h2).1, (clean_of_cleanL h2).2, by omega⟩

theorem Good.ok {ks : List (List UInt8)} (h : Good ks) : ∀ p ∈ ks, allOk p = true := fun p hp => (h p hp).2.2.2.2
theorem Good.no47 {ks : List (List UInt8)} (h : Good ks) : ∀ p ∈ ks, (47 : UInt8) ∉ p := fun p hp => (h p hp).2.2.2.1

/-- Points, and a name and a way back, turn nothing. -/
theorem dots {l a : List UInt8} (h : cleanL l = some a) (h9 : a.length ≤ 9) :
    cleanL ([46, 47] ++ a) = some a ∧ cleanL (a ++ [47, 46]) = some a ∧ cleanL (a ++ [47]) = some a ∧ cleanL ([120, 47, 46, 46, 47] ++ a) = some a ∧ cleanL (a ++ [47, 120, 47, 46, 46]) = some a ∧ cleanL (a ++ [47, 47, 46]) = some a := by
  obtain ⟨ks, h0, hg, rfl, _, _, _⟩ := clean_some h
  have ht := tot_join ks h0
  have hid := kf_id ks [] hg
  rw [List.nil_append] at hid
  have hh : ks.head? ≠ some [] := by
    cases ks with
    | nil => simp
    | cons p r => simp; exact (hg p (by simp)).1
  have hhs : ∀ r, (ks ++ r).head? ≠ some [] := by
    intro r
    cases ks with
    | nil => exact absurd rfl h0
    | cons p q => simpa using hh
  have nil_ok : allOk [] = true := rfl
  have dot_ok : allOk [46] = true := by decide
  have dots_ok : allOk [46, 46] = true := by decide
  have x_ok : allOk [120] = true := by decide
  obtain ⟨p, r, rfl⟩ : ∃ p r, ks = p :: r := by
    cases ks with
    | nil => exact absurd rfl h0
    | cons p r => exact ⟨p, r, rfl⟩
  refine ⟨?_, ?_, ?_, ?_, ?_, ?_⟩
  · have e : [46, 47] ++ Lib.join (p :: r) [47] = Lib.join ([46] :: p :: r) [47] := by rw [join_cons2]; rfl
    rw [e]
    refine clean_of_pieces (by simp) (by simp) ?_ ?_ ?_ ?_ h0
    · intro q hq; rcases List.mem_cons.1 hq with rfl | hq; decide; exact hg.no47 q hq
    · intro q hq; rcases List.mem_cons.1 hq with rfl | hq; exact dot_ok; exact hg.ok q hq
    · rw [tot_cons]; simp only [List.length_cons, List.length_nil]; omega
    · exact hid
  · have e : Lib.join (p :: r) [47] ++ [47, 46] = Lib.join ((p :: r) ++ [[46]]) [47] := by rw [join_snoc _ _ h0]
    rw [e]
    refine clean_of_pieces (by simp) (hhs _) ?_ ?_ ?_ ?_ h0
    · intro q hq; rcases List.mem_append.1 hq with hq | hq; exact hg.no47 q hq; simp at hq; subst hq; decide
    · intro q hq; rcases List.mem_append.1 hq with hq | hq; exact hg.ok q hq; simp at hq; subst hq; exact dot_ok
    · rw [tot_app, tot_one]; simp only [List.length_cons, List.length_nil]; omega
    · exact kf_snoc hid (by simp [kst])
  · have e : Lib.join (p :: r) [47] ++ [47] = Lib.join ((p :: r) ++ [[]]) [47] := by rw [join_snoc _ _ h0]
    rw [e]
    refine clean_of_pieces (by simp) (hhs _) ?_ ?_ ?_ ?_ h0
    · intro q hq; rcases List.mem_append.1 hq with hq | hq; exact hg.no47 q hq; simp at hq; subst hq; decide
    · intro q hq; rcases List.mem_append.1 hq with hq | hq; exact hg.ok q hq; simp at hq; subst hq; exact nil_ok
    · rw [tot_app, tot_one]; simp only [List.length_nil]; omega
    · exact kf_snoc hid (by simp [kst])
  · have e : [120, 47, 46, 46, 47] ++ Lib.join (p :: r) [47] = Lib.join ([120] :: [46, 46] :: p :: r) [47] := by rw [join_cons2, join_cons2]; rfl
    rw [e]
    refine clean_of_pieces (by simp) (by simp) ?_ ?_ ?_ ?_ h0
    · intro q hq; rcases List.mem_cons.1 hq with rfl | hq; decide; rcases List.mem_cons.1 hq with rfl | hq; decide; exact hg.no47 q hq
    · intro q hq; rcases List.mem_cons.1 hq with rfl | hq; exact x_ok; rcases List.mem_cons.1 hq with rfl | hq; exact dots_ok; exact hg.ok q hq
    · rw [tot_cons, tot_cons]; simp only [List.length_cons, List.length_nil]; omega
    · exact hid
  · have e : Lib.join (p :: r) [47] ++ [47, 120, 47, 46, 46] = Lib.join (((p :: r) ++ [[120]]) ++ [[46, 46]]) [47] := by rw [join_snoc _ _ (by simp), join_snoc _ _ h0]; simp
    rw [e]
    refine clean_of_pieces (by simp) (by rw [List.append_assoc]; exact hhs _) ?_ ?_ ?_ ?_ h0
    · intro q hq; rcases List.mem_append.1 hq with hq | hq; rcases List.mem_append.1 hq with hq | hq; exact hg.no47 q hq; simp at hq; subst hq; decide; simp at hq; subst hq; decide
    · intro q hq; rcases List.mem_append.1 hq with hq | hq; rcases List.mem_append.1 hq with hq | hq; exact hg.ok q hq; simp at hq; subst hq; exact x_ok; simp at hq; subst hq; exact dots_ok
    · rw [tot_app, tot_app, tot_one, tot_one]; simp only [List.length_cons, List.length_nil]; omega
    · have k1 : kf [] ((p :: r) ++ [[120]]) = some ((p :: r) ++ [[120]]) := kf_snoc hid (by simp [kst])
      refine kf_snoc k1 ?_
      unfold kst; rw [if_neg (by decide), if_pos rfl, if_neg (by simp), List.dropLast_concat]
  · have e : Lib.join (p :: r) [47] ++ [47, 47, 46] = Lib.join (((p :: r) ++ [[]]) ++ [[46]]) [47] := by rw [join_snoc _ _ (by simp), join_snoc _ _ h0]; simp
    rw [e]
    refine clean_of_pieces (by simp) (by rw [List.append_assoc]; exact hhs _) ?_ ?_ ?_ ?_ h0
    · intro q hq; rcases List.mem_append.1 hq with hq | hq; rcases List.mem_append.1 hq with hq | hq; exact hg.no47 q hq; simp at hq; subst hq; decide; simp at hq; subst hq; decide
    · intro q hq; rcases List.mem_append.1 hq with hq | hq; rcases List.mem_append.1 hq with hq | hq; exact hg.ok q hq; simp at hq; subst hq; exact nil_ok; simp at hq; subst hq; exact dot_ok
    · rw [tot_app, tot_app, tot_one, tot_one]; simp only [List.length_cons, List.length_nil]; omega
    · have k1 : kf [] ((p :: r) ++ [[]]) = some (p :: r) := kf_snoc hid (by simp [kst])
      exact kf_snoc k1 (by simp [kst])

end Go.Proofs.YtgbegdgacjodcaaGreatDoor

/- Plain facts on texts that are cut at a sign and joined, with no program in them; no conditions. -/
namespace Go.Proofs.YtgbegdgacjodcaaGreatDoor
open Go.RowKit

def bl (x : ByteArray) : List UInt8 := x.data.toList

theorem bl_toList (x : ByteArray) : x.toList = bl x := Lib.toList_data x
theorem bl_size (x : ByteArray) : (bl x).length = x.size := by unfold bl; rw [Array.length_toList]; rfl
theorem of_bl {t : ByteArray} {l : List UInt8} (h : bl t = l) : t = ⟨l.toArray⟩ := by
  obtain ⟨⟨d⟩⟩ := t; unfold bl at h; subst h; rfl
theorem bl_mk (l : List UInt8) : bl ⟨l.toArray⟩ = l := rfl
theorem bl_app (a b : ByteArray) : bl (a ++ b) = bl a ++ bl b := by unfold bl; rw [ByteArray.data_append, Array.toList_append]
theorem bl_extract (s : ByteArray) (a b : Nat) : bl (s.extract a b) = ((bl s).take b).drop a := by
  unfold bl; rw [Lib.extract_data, List.drop_take]
theorem bl_getElem (s : ByteArray) (k : Nat) (h : k < s.size) : (bl s)[k]? = some s[k] := Lib.data_getElem? s k h

/-- A text cut at each sign d. -/
def spc (d : UInt8) : List UInt8 → List (List UInt8)
  | [] => [[]]
  | c :: r => if c = d then [] :: spc d r else (c :: (spc d r).headD []) :: (spc d r).tail

theorem spc_47 : ∀ l, spc 47 l = sp l
  | [] => rfl
  | c :: r => by rw [spc, sp, spc_47 r]

theorem spc_ne (d : UInt8) (l : List UInt8) : spc d l ≠ [] := by
  cases l with
  | nil => simp [spc]
  | cons c r => unfold spc; split <;> simp

theorem spc_plain (d : UInt8) : ∀ (p : List UInt8), d ∉ p → spc d p = [p]
  | [], _ => rfl
  | c :: r, h => by
    have hc : c ≠ d := fun e => h (by simp [e])
    have hr : d ∉ r := fun e => h (by simp [e])
    rw [spc, if_neg hc, spc_plain d r hr]; rfl

theorem spc_app (d : UInt8) : ∀ (a b : List UInt8), spc d (a ++ d :: b) = spc d a ++ spc d b
  | [], b => by simp [spc]
  | c :: r, b => by
    have ih := spc_app d r b
    rw [List.cons_append, spc, spc, ih]
    have hn := spc_ne d r
    by_cases hc : c = d
    · simp [hc]
    · rw [if_neg hc, if_neg hc]
      cases h : spc d r with
      | nil => exact absurd h hn
      | cons x y => simp

theorem spc_len (d : UInt8) : ∀ l : List UInt8, (spc d l).length ≤ l.length + 1
  | [] => by simp [spc]
  | c :: r => by
    have := spc_len d r
    rw [spc]; split <;> simp <;> omega

/-- The round in which the sign is met. -/
theorem spc_hit (d : UInt8) (l : List UInt8) (f k : Nat) (hf : f ≤ k) (hk : l[k]? = some d) (hno : d ∉ (l.drop f).take (k - f)) :
    spc d (l.drop f) = (l.take k).drop f :: spc d (l.drop (k + 1)) := by
  have hl : k < l.length := by
    rcases Nat.lt_or_ge k l.length with h | h
    · exact h
    · rw [List.getElem?_eq_none h] at hk; cases hk
  have e1 : l.drop f = (l.drop f).take (k - f) ++ d :: l.drop (k + 1) := by
    conv => lhs; rw [← List.take_append_drop (k - f) (l.drop f)]
    rw [List.drop_drop, show f + (k - f) = k by omega, List.drop_eq_getElem_cons hl]
    rw [List.getElem?_eq_getElem hl] at hk
    cases hk; rfl
  rw [e1, spc_app, spc_plain d _ hno]
  rw [List.drop_take]; rfl

theorem spc_last (d : UInt8) (l : List UInt8) (f : Nat) (hno : d ∉ (l.drop f).take (l.length - f)) : spc d (l.drop f) = [l.drop f] := by
  rw [List.take_of_length_le (by simp)] at hno
  exact spc_plain d _ hno

theorem no_next (d : UInt8) (l : List UInt8) (f k : Nat) (hf : f ≤ k) (x : UInt8) (hk : l[k]? = some x) (hx : x ≠ d) (hno : d ∉ (l.drop f).take (k - f)) : d ∉ (l.drop f).take (k + 1 - f) := by
  rw [show k + 1 - f = (k - f) + 1 by omega, List.take_add_one, List.getElem?_drop, show f + (k - f) = k by omega, hk]
  simp only [Option.toList_some, List.mem_append, List.mem_singleton]
  rintro (h | h)
  · exact hno h
  · exact hx h.symm

/-- Joined, one more. -/
theorem join_next (sep : List UInt8) (xs : List (List UInt8)) (k : Nat) (x : List UInt8) (h : xs[k]? = some x) :
    Lib.join (xs.take (k + 1)) sep = Lib.join (xs.take k) sep ++ (if k = 0 then [] else sep) ++ x := by
  rw [List.take_add_one, h]
  cases k with
  | zero => simp [Lib.join_one, Lib.join_nil]
  | succ k =>
    cases xs with
    | nil => simp at h
    | cons a r =>
      rw [List.take_succ_cons, List.cons_append, Lib.join_cons, Lib.join_cons]
      simp [Lib.joinTail]

theorem join_take_le (sep : List UInt8) (xs : List (List UInt8)) (k : Nat) : (Lib.join (xs.take k) sep).length ≤ (Lib.join xs sep).length := by
  cases xs with
  | nil => simp
  | cons a r =>
    cases k with
    | zero => simp [Lib.join_nil]
    | succ k =>
      rw [List.take_succ_cons, Lib.join_cons, Lib.join_cons]
      have := Lib.joinTail_take_le sep r k
      simp; omega

end Go.Proofs.YtgbegdgacjodcaaGreatDoor

/- Plain facts on texts with variables, with no program in them: how they are cut into pieces; no conditions. -/
namespace Go.Proofs.YtgbegdgacjodcaaGreatDoor
open Go.RowKit

/-- May the byte stand in a variable's name? -/
def vb (c : UInt8) : Bool := smallB (c.toNat : Int) || decide ((c.toNat : Int) = 95)

def nlen : List UInt8 → Nat
  | [] => 0
  | c :: r => if vb c then nlen r + 1 else 0

/-- A part of a text: a byte of text, or a variable's name. -/
abbrev Tok := UInt8 ⊕ List UInt8

/-- What a text begins with, and how many bytes stand for it. -/
def tk : List UInt8 → Option (Tok × Nat)
  | [] => none
  | c :: r =>
    if c ≠ 36 then some (.inl c, 1) else
    match r with
    | [] => none
    | d :: r' =>
      if d = 36 ∨ d = 32 ∨ d = 58 then some (.inl d, 2) else
      if d = 123 then (if 1 ≤ nlen r' ∧ nlen r' ≤ 16 ∧ r'[nlen r']? = some 125 then some (.inr (r'.take (nlen r')), nlen r' + 3) else none)
      else (if 1 ≤ nlen (d :: r') ∧ nlen (d :: r') ≤ 16 then some (.inr ((d :: r').take (nlen (d :: r'))), nlen (d :: r') + 1) else none)

def tksF : Nat → List UInt8 → Option (List Tok)
  | _, [] => some []
  | 0, _ :: _ => none
  | n + 1, c :: r => match tk (c :: r) with
    | none => none
    | some (x, k) => (tksF n ((c :: r).drop k)).map (x :: ·)

def tks (l : List UInt8) : Option (List Tok) := tksF l.length l

abbrev Pc := Bool × List UInt8

def add (ps : List Pc) : Tok → List Pc
  | .inl c => match ps.getLast? with
    | some (false, l) => ps.dropLast ++ [(false, l ++ [c])]
    | _ => ps ++ [(false, [c])]
  | .inr n => ps ++ [(true, n)]

def addAll (ps : List Pc) (ts : List Tok) : List Pc := ts.foldl add ps

def plainL (l : List UInt8) : Bool := l.all fun c => decide (32 ≤ (c.toNat : Int)) && decide ((c.toNat : Int) ≤ 126)

/-- The document's cut. -/
def cutL (l : List UInt8) : Option (List Pc) :=
  if l.length ≤ 2048 ∧ plainL l = true then (tks l).map (addAll []) else none

def cutP (l : List UInt8) : List Pc := (cutL l).getD []
def cutE (l : List UInt8) : Int := if (cutL l).isSome then 0 else 300

theorem nlen_le : ∀ l : List UInt8, nlen l ≤ l.length
  | [] => by simp [nlen]
  | c :: r => by have := nlen_le r; unfold nlen; split <;> simp <;> omega

theorem tk_pos {l : List UInt8} {x : Tok} {k : Nat} (h : tk l = some (x, k)) : 1 ≤ k ∧ k ≤ l.length := by
  unfold tk at h
  split at h
  · cases h
  · rename_i c r
    split at h
    · simp at h; obtain ⟨_, rfl⟩ := h; simp
    · split at h
      · cases h
      · rename_i d r'
        split at h
        · simp at h; obtain ⟨_, rfl⟩ := h; simp
        · split at h
          · split at h
            · rename_i hk
              have hl : nlen r' < r'.length := (List.getElem?_eq_some_iff.1 hk.2.2).1
              simp at h; obtain ⟨_, rfl⟩ := h; simp; omega
            · cases h
          · split at h
            · have hl := nlen_le (d :: r')
              simp at h; obtain ⟨_, rfl⟩ := h; simp at hl ⊢; omega
            · cases h

theorem tksF_more : ∀ (n m : Nat) (l : List UInt8), l.length ≤ n → l.length ≤ m → tksF n l = tksF m l
  | _, _, [], _, _ => by simp [tksF]
  | 0, _, c :: r, h, _ => by simp at h
  | _ + 1, 0, c :: r, _, h => by simp at h
  | n + 1, m + 1, c :: r, h1, h2 => by
    unfold tksF
    cases ht : tk (c :: r) with
    | none => rfl
    | some xk =>
      obtain ⟨x, k⟩ := xk
      have hk := tk_pos ht
      simp only
      rw [tksF_more n m ((c :: r).drop k) (by simp at h1 ⊢; omega) (by simp at h2 ⊢; omega)]

theorem tks_nil : tks [] = some [] := rfl
theorem tks_step {l : List UInt8} {x : Tok} {k : Nat} (h : tk l = some (x, k)) : tks l = (tks (l.drop k)).map (x :: ·) := by
  cases l with
  | nil => simp [tk] at h
  | cons c r =>
    have hk := tk_pos h
    unfold tks
    rw [List.length_cons, tksF, h]
    simp only
    rw [tksF_more r.length ((c :: r).drop k).length _ (by simp at hk ⊢; omega) (Nat.le_refl _)]
theorem tks_none {l : List UInt8} (hl : l ≠ []) (h : tk l = none) : tks l = none := by
  cases l with
  | nil => exact absurd rfl hl
  | cons c r => unfold tks; rw [List.length_cons, tksF, h]

/-- Under way: what is read, what is left. -/
def At (l : List UInt8) (i : Nat) (pre : List Tok) : Prop := tks l = (tks (l.drop i)).map (pre ++ ·)

theorem At.start (l : List UInt8) : At l 0 [] := by unfold At; simp
theorem At.step {l : List UInt8} {i : Nat} {pre : List Tok} {x : Tok} {k : Nat} (h : At l i pre) (ht : tk (l.drop i) = some (x, k)) : At l (i + k) (pre ++ [x]) := by
  unfold At at *
  rw [h, tks_step ht, List.drop_drop, Option.map_map]
  congr 1
  funext a; simp
theorem At.fail {l : List UInt8} {i : Nat} {pre : List Tok} (h : At l i pre) (hi : i < l.length) (ht : tk (l.drop i) = none) : tks l = none := by
  unfold At at h
  rw [h, tks_none (by intro e; have := congrArg List.length e; simp at this; omega) ht]; rfl
theorem At.done {l : List UInt8} {i : Nat} {pre : List Tok} (h : At l i pre) (hi : l.length ≤ i) : tks l = some pre := by
  unfold At at h
  rw [h, List.drop_eq_nil_of_le hi, tks_nil]; simp

theorem addAll_snoc (ps : List Pc) (ts : List Tok) (x : Tok) : addAll ps (ts ++ [x]) = add (addAll ps ts) x := by unfold addAll; simp
theorem addAll_app (ps : List Pc) (ts us : List Tok) : addAll ps (ts ++ us) = addAll (addAll ps ts) us := by unfold addAll; simp

/-- What is cut, with text under way. -/
def flush (cs : List Pc) (tb : List UInt8) : List Pc := if tb = [] then cs else cs ++ [(false, tb)]
def noText (cs : List Pc) : Prop := ∀ l, cs.getLast? ≠ some (false, l)

theorem noText_nil : noText [] := by intro l; simp
theorem noText_var (cs : List Pc) (n : List UInt8) : noText (cs ++ [(true, n)]) := by intro l; simp

theorem add_t_flush {cs : List Pc} {tb : List UInt8} (h : noText cs) (c : UInt8) : add (flush cs tb) (.inl c) = flush cs (tb ++ [c]) := by
  unfold flush add
  by_cases ht : tb = []
  · subst ht
    simp only [if_true, List.nil_append]
    rw [if_neg (by simp)]
    split
    · rename_i l hl; exact absurd hl (h l)
    · rfl
  · rw [if_neg ht, if_neg (by simp)]
    simp
theorem add_v_flush {cs : List Pc} {tb : List UInt8} (n : List UInt8) : add (flush cs tb) (.inr n) = flush cs tb ++ [(true, n)] := rfl
theorem flush_nil (cs : List Pc) : flush cs [] = cs := by simp [flush]
theorem flush_some (cs : List Pc) (tb : List UInt8) (h : tb ≠ []) : flush cs tb = cs ++ [(false, tb)] := by simp [flush, h]

theorem flush_len (cs : List Pc) (tb : List UInt8) : (flush cs tb).length ≤ cs.length + tb.length ∧ cs.length ≤ (flush cs tb).length := by
  unfold flush
  split
  · omega
  · rename_i h
    have := List.length_pos_iff.2 h
    simp; omega

theorem cut_of {l : List UInt8} {ts : List Tok} (h1 : l.length ≤ 2048) (h2 : plainL l = true) (h : tks l = some ts) : cutP l = addAll [] ts ∧ cutE l = 0 := by
  unfold cutP cutE cutL
  rw [if_pos ⟨h1, h2⟩, h]; simp
theorem cut_bad {l : List UInt8} (h : tks l = none) : cutP l = [] ∧ cutE l = 300 := by
  unfold cutP cutE cutL
  split <;> simp [h]
theorem cut_long {l : List UInt8} (h : 2048 < l.length) : cutP l = [] ∧ cutE l = 300 := by
  unfold cutP cutE cutL
  rw [if_neg (by omega)]; simp
theorem cut_odd {l : List UInt8} (h : plainL l = false) : cutP l = [] ∧ cutE l = 300 := by
  unfold cutP cutE cutL
  rw [if_neg (by rw [h]; simp)]; simp

/-- How long pieces are. -/
def most (n : Nat) (ps : List Pc) : Prop := ∀ p ∈ ps, p.2.length ≤ n
theorem most_nil (n : Nat) : most n [] := by intro p hp; simp at hp
theorem most_mono {n m : Nat} {ps : List Pc} (h : most n ps) (hm : n ≤ m) : most m ps := fun p hp => Nat.le_trans (h p hp) hm
theorem most_snoc {n : Nat} {ps : List Pc} {p : Pc} (h : most n ps) (hp : p.2.length ≤ n) : most n (ps ++ [p]) := by
  intro q hq
  rcases List.mem_append.1 hq with hq | hq
  · exact h q hq
  · rw [List.mem_singleton.1 hq]; exact hp
theorem most_t {n : Nat} {ps : List Pc} (h : most n ps) (c : UInt8) : most (n + 1) (add ps (.inl c)) := by
  unfold add
  simp only
  split
  · rename_i l hl
    have hm : (false, l) ∈ ps := List.mem_of_getLast? hl
    refine most_snoc (fun p hp => Nat.le_trans (h p ((List.dropLast_sublist _).subset hp)) (by omega)) ?_
    have := h _ hm; simp at this ⊢; omega
  · exact most_snoc (most_mono h (by omega)) (by simp)
theorem add_len (ps : List Pc) (x : Tok) : (add ps x).length ≤ ps.length + 1 := by
  cases x with
  | inr n => simp [add]
  | inl c =>
    unfold add; simp only; split
    · simp
    · simp

/-- The variable that a text begins with: its name, how many bytes stand for it; 0: there is none. -/
def vr (l : List UInt8) : List UInt8 × Nat :=
  if l.take 2 = [36, 123] then (if 1 ≤ nlen (l.drop 2) ∧ nlen (l.drop 2) ≤ 16 ∧ (l.drop 2)[nlen (l.drop 2)]? = some 125 then ((l.drop 2).take (nlen (l.drop 2)), nlen (l.drop 2) + 3) else ([], 0))
  else (if 1 ≤ nlen (l.drop 1) ∧ nlen (l.drop 1) ≤ 16 then ((l.drop 1).take (nlen (l.drop 1)), nlen (l.drop 1) + 1) else ([], 0))

def escB (d : UInt8) : Bool := d == 36 || d == 32 || d == 58

theorem vr_tk {l : List UInt8} (h0 : l.head? = some 36) (h1 : ∀ d, l[1]? = some d → escB d = false) :
    ((vr l).2 = 0 ∧ tk l = none) ∨ (1 ≤ (vr l).2 ∧ (vr l).1.length ≤ 16 ∧ tk l = some (.inr (vr l).1, (vr l).2)) := by
  cases l with
  | nil => simp at h0
  | cons c r =>
    simp at h0; subst h0
    cases r with
    | nil => left; decide
    | cons d r' =>
      have hd : ¬ (d = 36 ∨ d = 32 ∨ d = 58) := by
        have := h1 d (by simp)
        unfold escB at this; simp at this
        rintro (h | h | h) <;> simp_all
      unfold tk
      simp only [ne_eq, not_true_eq_false, if_false, if_neg hd]
      unfold vr
      by_cases hb : d = 123
      · subst hb
        simp only [List.take_succ_cons, List.take_zero, if_true, List.drop_succ_cons, List.drop_zero]
        split
        · rename_i hk; right; simp; omega
        · left; simp
      · simp only [List.take_succ_cons, List.take_zero, List.drop_succ_cons, List.drop_zero, List.cons.injEq, true_and, and_true, if_neg hb]
        split
        · rename_i hk; right; refine ⟨by simp, ?_, rfl⟩; simp; omega
        · left; simp

theorem tk_text {l : List UInt8} {c : UInt8} (h : l.head? = some c) (hc : c ≠ 36) : tk l = some (.inl c, 1) := by
  cases l with
  | nil => simp at h
  | cons a r => simp at h; subst h; simp [tk, hc]
theorem tk_esc {l : List UInt8} {d : UInt8} (h : l.head? = some 36) (h1 : l[1]? = some d) (hd : escB d = true) : tk l = some (.inl d, 2) := by
  cases l with
  | nil => simp at h
  | cons a r =>
    simp at h; subst h
    cases r with
    | nil => simp at h1
    | cons b r' =>
      simp at h1; subst h1
      unfold tk
      have : b = 36 ∨ b = 32 ∨ b = 58 := by unfold escB at hd; simp at hd; rcases hd with (h | h) | h <;> simp [h]
      simp [this]

theorem nlen_yes {l : List UInt8} {p : Nat} {c : UInt8} (h : l[p]? = some c) (hv : vb c = true) : nlen (l.drop p) = nlen (l.drop (p + 1)) + 1 := by
  obtain ⟨hp, he⟩ := List.getElem?_eq_some_iff.1 h
  rw [List.drop_eq_getElem_cons hp, he]
  conv => lhs; unfold nlen
  rw [if_pos hv]
theorem nlen_no {l : List UInt8} {p : Nat} {c : UInt8} (h : l[p]? = some c) (hv : vb c = false) : nlen (l.drop p) = 0 := by
  obtain ⟨hp, he⟩ := List.getElem?_eq_some_iff.1 h
  rw [List.drop_eq_getElem_cons hp, he]
  unfold nlen
  rw [if_neg (by rw [hv]; decide)]
theorem nlen_end {l : List UInt8} {p : Nat} (h : l.length ≤ p) : nlen (l.drop p) = 0 := by
  rw [List.drop_eq_nil_of_le h]; rfl

theorem plainL_app (a b : List UInt8) : plainL (a ++ b) = (plainL a && plainL b) := by simp [plainL]

end Go.Proofs.YtgbegdgacjodcaaGreatDoor

/- Plain facts on a text that the library cuts at one sign, or takes a sign out of, with no program in them; no conditions. -/
namespace Go.Proofs.YtgbegdgacjodcaaGreatDoor
open Go.RowKit

theorem idx_none (d : UInt8) (l : List UInt8) (h : Lib.index l [d] = -1) : d ∉ l := by
  rw [Lib.index_one] at h
  intro hm
  obtain ⟨k, hk, e⟩ := List.getElem_of_mem hm
  exact Lib.indexByte_none h k (by rw [List.getElem?_eq_getElem hk, e])

theorem idx_some (d : UInt8) (l : List UInt8) (i : Nat) (h : Lib.index l [d] = i) : i < l.length ∧ l = l.take i ++ d :: l.drop (i + 1) ∧ d ∉ l.take i := by
  rw [Lib.index_one] at h
  obtain ⟨h1, h2⟩ := Lib.indexByte_some h
  obtain ⟨hi, e⟩ := List.getElem?_eq_some_iff.1 h1
  refine ⟨hi, ?_, ?_⟩
  · conv => lhs; rw [← List.take_append_drop i l, List.drop_eq_getElem_cons hi, e]
  · intro hm
    obtain ⟨k, hk, e2⟩ := List.getElem_of_mem hm
    have hki : k < i := by simp at hk; omega
    refine h2 k hki ?_
    rw [← e2, List.getElem_take, ← List.getElem?_eq_getElem]

theorem splitK_spc (d : UInt8) : ∀ (k : Nat) (l : List UInt8), Lib.count l [d] = k → Lib.splitK [d] 0 k l = spc d l
  | 0, l, h => by
    by_cases hi : Lib.index l [d] = -1
    · rw [spc_plain d l (idx_none d l hi)]; rfl
    · have hg := Lib.index_ge l [d]
      obtain ⟨i, hi'⟩ : ∃ i : Nat, Lib.index l [d] = i := ⟨(Lib.index l [d]).toNat, by omega⟩
      rw [Lib.count_hit (by simp) hi'] at h; omega
  | k + 1, l, h => by
    by_cases hi : Lib.index l [d] = -1
    · rw [Lib.count_miss hi] at h; omega
    · have hg := Lib.index_ge l [d]
      obtain ⟨i, hi'⟩ : ∃ i : Nat, Lib.index l [d] = i := ⟨(Lib.index l [d]).toNat, by omega⟩
      have hc := Lib.count_hit (sub := [d]) (by simp) hi'
      have e := (idx_some d l i hi').2
      rw [Lib.splitK, if_neg (fun e => hi (beq_iff_eq.1 e)), hi']
      have ih := splitK_spc d k (l.drop (i + 1)) (by simp at hc; omega)
      simp only [Int.toNat_natCast, Nat.add_zero, List.length_cons, List.length_nil, Nat.zero_add]
      rw [ih]
      conv => rhs; rw [e.1]
      rw [spc_app, spc_plain d _ e.2]; rfl

theorem splitB_spc (d : UInt8) (s : ByteArray) : (Lib.splitB ⟨#[d]⟩ 0 (Lib.countB s ⟨#[d]⟩) s).map bl = spc d (bl s) := by
  have := splitK_spc d (Lib.count (bl s) [d]) (bl s) rfl
  rw [← this]
  exact Lib.splitB_data ⟨#[d]⟩ 0 _ s

/-- A text without a sign. -/
def without (d : UInt8) (l : List UInt8) : List UInt8 := l.filter (· != d)

theorem without_app (d : UInt8) (a b : List UInt8) : without d (a ++ b) = without d a ++ without d b := List.filter_append ..
theorem without_len (d : UInt8) (l : List UInt8) : (without d l).length ≤ l.length := List.length_filter_le ..
theorem without_self (d : UInt8) (l : List UInt8) (h : d ∉ l) : without d l = l :=
  List.filter_eq_self.2 fun a ha => by simp only [bne_iff_ne]; exact fun e => h (e ▸ ha)
theorem without_one (d : UInt8) : without d [d] = [] := by simp [without]

theorem take_mid (a b c : List UInt8) (d : UInt8) : (a ++ (b ++ d :: c)).take (a.length + b.length + 1) = a ++ (b ++ [d]) := by
  rw [show a ++ (b ++ d :: c) = (a ++ (b ++ [d])) ++ c by simp, List.take_left' (by simp; omega)]

/-- The round of a taking out: the sign is met at place i of what is left. -/
theorem without_step (d : UInt8) (l : List UInt8) (f i : Nat) (h : Lib.index (l.drop f) [d] = i) :
    f + i < l.length ∧ without d (l.take (f + i + 1)) = without d (l.take f) ++ (l.take (f + i)).drop f ∧ (l.drop f).count d = (l.drop (f + i + 1)).count d + 1 := by
  obtain ⟨h1, h2, h3⟩ := idx_some d _ i h
  rw [List.length_drop] at h1
  have e1 : (l.drop f).take i = (l.take (f + i)).drop f := by rw [List.drop_take]; congr 1; omega
  have e2 : (l.drop f).drop (i + 1) = l.drop (f + i + 1) := by rw [List.drop_drop]; congr 1
  rw [e1] at h2 h3
  rw [e2] at h2
  refine ⟨by omega, ?_, ?_⟩
  · have e3 : l.take (f + i + 1) = l.take f ++ ((l.take (f + i)).drop f ++ [d]) := by
      have : l = l.take f ++ ((l.take (f + i)).drop f ++ d :: l.drop (f + i + 1)) := by rw [← h2, List.take_append_drop]
      have hl : (l.take f).length = f := by rw [List.length_take]; omega
      have hl2 : ((l.take (f + i)).drop f).length = i := by rw [List.length_drop, List.length_take]; omega
      have hT := take_mid (l.take f) ((l.take (f + i)).drop f) (l.drop (f + i + 1)) d
      rw [← this, hl, hl2] at hT
      exact hT
    rw [e3, without_app, without_app, without_self d _ h3, without_one, List.append_nil]
  · rw [h2, List.count_append, List.count_cons_self, List.count_eq_zero.2 h3]; omega

theorem without_none (d : UInt8) (l : List UInt8) (f : Nat) (h : (l.drop f).count d = 0) : without d l = without d (l.take f) ++ l.drop f := by
  conv => lhs; rw [← List.take_append_drop f l]
  rw [without_app, without_self d (l.drop f) (List.count_eq_zero.1 h)]

theorem index_of_count (d : UInt8) (l : List UInt8) (h : 0 < l.count d) : ∃ i : Nat, Lib.index l [d] = i := by
  have hg := Lib.index_ge l [d]
  by_cases hi : Lib.index l [d] = -1
  · have := List.count_eq_zero.2 (idx_none d l hi); omega
  · exact ⟨(Lib.index l [d]).toNat, by omega⟩

theorem without_zero (d : UInt8) (l : List UInt8) (h : l.count d = 0) : without d l = l := without_self d l (List.count_eq_zero.1 h)

end Go.Proofs.YtgbegdgacjodcaaGreatDoor

/- Plain facts on a manifest's lines: what a text is cut into, with no program in them; no conditions. -/
namespace Go.Proofs.YtgbegdgacjodcaaGreatDoor
open Go.RowKit

abbrev Ln := Bool × List UInt8

/-- Does a row end with an odd number of 36? -/
def goL (l : List UInt8) : Bool := (l.length - (Lib.trimRightB l 36).length) % 2 == 1
def frL (l : List UInt8) : List UInt8 := Lib.trimLeftB l 32
def trL (l : List UInt8) : List UInt8 := Lib.trimB l 32
/-- A row, as it is joined: b: there is something ahead of it. -/
def rowL (b : Bool) (r : List UInt8) : List UInt8 := if b then frL r else r
def lnOf (t : List UInt8) : Option Ln := if trL t = [] ∨ (trL t).head? = some 35 then none else some (decide (t.head? = some 32), trL t)

/-- The lines of rows, a: what is joined so far. -/
def cutR : Bool → List UInt8 → List (List UInt8) → Option (List Ln)
  | b, _, [] => if b then none else some []
  | b, a, r :: rs => if goL (rowL b r) then cutR true (a ++ (rowL b r).dropLast) rs else (cutR false [] rs).map ((lnOf (a ++ rowL b r)).toList ++ ·)

/-- The line that rows begin with, and how many it takes. -/
def jn : Bool → List UInt8 → List (List UInt8) → Option (List UInt8 × Nat)
  | _, _, [] => none
  | b, a, r :: rs => if goL (rowL b r) then (jn true (a ++ (rowL b r).dropLast) rs).map (fun x => (x.1, x.2 + 1)) else some (a ++ rowL b r, 1)

def endL (l : List UInt8) : Bool := l.isEmpty || l.getLast? == some 10
def lnT (l : List UInt8) : Option (List Ln) := if endL l && plainL (without 10 l) then cutR false [] (spc 10 l).dropLast else none
def lnC (l : List UInt8) : Option (List Ln) := if l.length ≤ 2048 then lnT l else none
def lnS (l : List UInt8) : List Ln := (lnC l).getD []
def lnE (l : List UInt8) : Int := if (lnC l).isSome then 0 else 600

theorem ln_bad {l : List UInt8} (h : lnC l = none) : lnS l = [] ∧ lnE l = 600 := by unfold lnS lnE; rw [h]; exact ⟨rfl, rfl⟩
theorem ln_good {l : List UInt8} {x : List Ln} (h : lnC l = some x) : lnS l = x ∧ lnE l = 0 := by unfold lnS lnE; rw [h]; exact ⟨rfl, rfl⟩
theorem ln_long {l : List UInt8} (h : 2048 < l.length) : lnC l = none := by unfold lnC; rw [if_neg (by omega)]
theorem ln_end {l : List UInt8} (h : endL l = false) : lnC l = none := by unfold lnC lnT; rw [h]; simp
theorem ln_odd {l : List UInt8} (h : plainL (without 10 l) = false) : lnC l = none := by unfold lnC lnT; rw [h]; simp
theorem ln_rows {l : List UInt8} (h1 : l.length ≤ 2048) (h2 : endL l = true) (h3 : plainL (without 10 l) = true) : lnC l = cutR false [] (spc 10 l).dropLast := by
  unfold lnC lnT; rw [if_pos h1, h2, h3]; rfl

theorem cutR_nil : cutR false [] [] = some [] := rfl

theorem jn_none : ∀ (rs : List (List UInt8)) (b : Bool) (a : List UInt8), jn b a rs = none → (rs ≠ [] ∨ b = true) → cutR b a rs = none
  | [], b, a, _, h => by
    rcases h with h | h
    · exact absurd rfl h
    · subst h; rfl
  | r :: rs, b, a, h, _ => by
    rw [jn] at h
    rw [cutR]
    split at h
    · rename_i hg
      rw [if_pos hg]
      exact jn_none rs true _ (by simpa using h) (Or.inr rfl)
    · cases h

theorem jn_some : ∀ (rs : List (List UInt8)) (b : Bool) (a t : List UInt8) (k : Nat), jn b a rs = some (t, k) → 1 ≤ k ∧ k ≤ rs.length ∧ cutR b a rs = (cutR false [] (rs.drop k)).map ((lnOf t).toList ++ ·)
  | [], b, a, t, k, h => by simp [jn] at h
  | r :: rs, b, a, t, k, h => by
    rw [jn] at h
    rw [cutR]
    split at h
    · rename_i hg
      rw [if_pos hg]
      obtain ⟨⟨t', k'⟩, h1, h2⟩ := Option.map_eq_some_iff.1 h
      cases h2
      obtain ⟨i1, i2, i3⟩ := jn_some rs true _ _ _ h1
      exact ⟨by omega, by simp; omega, by rw [i3]; rfl⟩
    · rename_i hg
      rw [if_neg hg]
      cases h
      exact ⟨Nat.le_refl _, by simp, rfl⟩

/-- One round of a join, as the walk meets it: i rows are taken. -/
theorem jn_step {rows : List (List UInt8)} {i : Nat} {a r : List UInt8} (hr : rows[i]? = some r) :
    jn (decide (0 < i)) a (rows.drop i) = if goL (rowL (decide (0 < i)) r) then (jn true (a ++ (rowL (decide (0 < i)) r).dropLast) (rows.drop (i + 1))).map (fun x => (x.1, x.2 + 1)) else some (a ++ rowL (decide (0 < i)) r, 1) := by
  obtain ⟨hi, e⟩ := List.getElem?_eq_some_iff.1 hr
  rw [List.drop_eq_getElem_cons hi, e, jn]

theorem go_ne {l : List UInt8} (h : goL l = true) : l ≠ [] := by
  rintro rfl; exact absurd h (by decide)

theorem go_len {l : List UInt8} (h : goL l = true) : 1 ≤ l.length := List.length_pos_iff.2 (go_ne h)

/-! Trims from both sides. -/

theorem trimR_cons (c x : UInt8) (r : List UInt8) : Lib.trimRightB (x :: r) c = if Lib.trimRightB r c = [] then (if x = c then [] else [x]) else x :: Lib.trimRightB r c := by
  unfold Lib.trimRightB
  rw [List.reverse_cons, List.dropWhile_append]
  by_cases h : (List.dropWhile (· == c) r.reverse) = []
  · rw [h]; simp only [List.isEmpty_nil, if_true, List.reverse_nil]
    by_cases hx : x = c
    · simp [hx]
    · simp [hx]
  · have h2 : (List.dropWhile (· == c) r.reverse).isEmpty = false := by simpa using h
    rw [h2]; simp [h]

theorem trim_comm (c : UInt8) : ∀ l : List UInt8, Lib.trimRightB (Lib.trimLeftB l c) c = Lib.trimB l c
  | [] => rfl
  | x :: r => by
    have ih := trim_comm c r
    unfold Lib.trimB at ih ⊢
    rw [trimR_cons]
    by_cases hx : x = c
    · subst hx
      have e : Lib.trimLeftB (x :: r) x = Lib.trimLeftB r x := by simp [Lib.trimLeftB]
      rw [e, ih]
      split
      · rename_i h; rw [h]; simp
      · simp [Lib.trimLeftB]
    · have e : Lib.trimLeftB (x :: r) c = x :: r := by simp [Lib.trimLeftB, hx]
      rw [e, trimR_cons]
      split
      · simp [hx, Lib.trimLeftB]
      · simp [hx, Lib.trimLeftB]

theorem trimR_len (c : UInt8) (l : List UInt8) : (Lib.trimRightB l c).length ≤ l.length := by
  unfold Lib.trimRightB
  rw [List.length_reverse]
  exact Nat.le_trans (List.dropWhile_sublist _).length_le (by simp)
theorem trimL_len (c : UInt8) (l : List UInt8) : (Lib.trimLeftB l c).length ≤ l.length := (List.dropWhile_sublist _).length_le
theorem tr_len (l : List UInt8) : (trL l).length ≤ l.length := Nat.le_trans (trimL_len _ _) (trimR_len _ _)
theorem fr_len (l : List UInt8) : (frL l).length ≤ l.length := trimL_len _ _
theorem rowL_len (b : Bool) (l : List UInt8) : (rowL b l).length ≤ l.length := by unfold rowL; split; exact fr_len l; exact Nat.le_refl _

theorem tr_ne {l : List UInt8} (h : trL l ≠ []) : l ≠ [] := by rintro rfl; exact h rfl

/-! Two texts, one behind the other. -/

theorem rows_end {l : List UInt8} (h : endL l = true) : spc 10 l = (spc 10 l).dropLast ++ [[]] := by
  unfold endL at h
  cases l with
  | nil => rfl
  | cons c r =>
    have h2 : (c :: r).getLast? = some 10 := by simpa using h
    have hd := List.dropLast_concat_getLast (l := c :: r) (by simp)
    have hg : (c :: r).getLast (by simp) = 10 := by
      rw [List.getLast?_eq_some_getLast (by simp)] at h2; exact Option.some.inj h2
    rw [hg] at hd
    rw [← hd, spc_app]
    simp [spc]

theorem rows_nl (l : List UInt8) : (spc 10 (l ++ [10])).dropLast = spc 10 l := by
  rw [spc_app]; simp [spc]

theorem end_nl (l : List UInt8) : endL (l ++ [10]) = true := by unfold endL; simp

theorem end_split {l : List UInt8} (h : endL l = true) : l = [] ∨ ∃ m, l = m ++ [10] := by
  unfold endL at h
  cases l with
  | nil => exact Or.inl rfl
  | cons c r =>
    right
    have h2 : (c :: r).getLast? = some 10 := by simpa using h
    refine ⟨(c :: r).dropLast, ?_⟩
    have hd := List.dropLast_concat_getLast (l := c :: r) (by simp)
    rw [List.getLast?_eq_some_getLast (by simp)] at h2
    rw [Option.some.inj h2] at hd
    exact hd.symm

theorem rows_app {a b : List UInt8} (h : endL a = true) : (spc 10 (a ++ b)).dropLast = (spc 10 a).dropLast ++ (spc 10 b).dropLast := by
  rcases end_split h with rfl | ⟨m, rfl⟩
  · rfl
  · rw [rows_nl, List.append_assoc, List.singleton_append, spc_app, List.dropLast_append_of_ne_nil (spc_ne 10 b)]

theorem end_app {a b : List UInt8} (ha : endL a = true) (hb : endL b = true) : endL (a ++ b) = true := by
  rcases end_split hb with rfl | ⟨m, rfl⟩
  · rw [List.append_nil]; exact ha
  · rw [← List.append_assoc]; exact end_nl _

theorem cutR_app : ∀ (rs qs : List (List UInt8)) (b : Bool) (a : List UInt8) (x : List Ln), (b = false → a = []) → cutR b a rs = some x → cutR b a (rs ++ qs) = (cutR false [] qs).map (x ++ ·)
  | [], qs, b, a, x, ha, h => by
    cases b with
    | true => simp [cutR] at h
    | false =>
      simp [cutR] at h
      subst h
      rw [ha rfl, List.nil_append]
      cases cutR false [] qs <;> simp
  | r :: rs, qs, b, a, x, ha, h => by
    rw [List.cons_append, cutR]
    rw [cutR] at h
    split at h
    · rename_i hg
      rw [if_pos hg]
      exact cutR_app rs qs true _ x (fun e => by cases e) h
    · rename_i hg
      rw [if_neg hg]
      obtain ⟨y, h1, rfl⟩ := Option.map_eq_some_iff.1 h
      rw [cutR_app rs qs false [] y (fun _ => rfl) h1]
      cases cutR false [] qs <;> simp

theorem lnT_some {l : List UInt8} {x : List Ln} (h : lnT l = some x) : endL l = true ∧ plainL (without 10 l) = true ∧ cutR false [] (spc 10 l).dropLast = some x := by
  unfold lnT at h
  split at h
  · rename_i hc
    exact ⟨(Bool.and_eq_true_iff.1 hc).1, (Bool.and_eq_true_iff.1 hc).2, h⟩
  · cases h

theorem lnT_of {l : List UInt8} (h1 : endL l = true) (h2 : plainL (without 10 l) = true) : lnT l = cutR false [] (spc 10 l).dropLast := by
  unfold lnT; rw [h1, h2]; rfl

theorem lnT_app {a b : List UInt8} {x y : List Ln} (ha : lnT a = some x) (hb : lnT b = some y) : lnT (a ++ b) = some (x ++ y) := by
  obtain ⟨a1, a2, a3⟩ := lnT_some ha
  obtain ⟨b1, b2, b3⟩ := lnT_some hb
  rw [lnT_of (end_app a1 b1) (by rw [without_app, plainL_app, a2, b2]; rfl), rows_app a1, cutR_app _ _ _ _ x (fun _ => rfl) a3, b3]; rfl

theorem lnC_of {l : List UInt8} {x : List Ln} (h : lnT l = some x) (hl : l.length ≤ 2048) : lnC l = some x := by unfold lnC; rw [if_pos hl, h]
theorem lnC_some {l : List UInt8} {x : List Ln} (h : lnC l = some x) : l.length ≤ 2048 ∧ lnT l = some x := by
  unfold lnC at h; split at h
  · exact ⟨by assumption, h⟩
  · cases h

theorem ln_cases (l : List UInt8) : (lnC l = none ∧ lnS l = [] ∧ lnE l = 600) ∨ ∃ x, lnC l = some x ∧ lnS l = x ∧ lnE l = 0 := by
  cases h : lnC l with
  | none => exact Or.inl ⟨rfl, ln_bad h⟩
  | some x => exact Or.inr ⟨x, rfl, ln_good h⟩

/-! How many, how long. -/

theorem tot_spc (d : UInt8) : ∀ (l : List UInt8), tot (spc d l) = l.length + 1
  | [] => rfl
  | c :: r => by
    have ih := tot_spc d r
    have hn := spc_ne d r
    rw [spc]
    cases h : spc d r with
    | nil => exact absurd h hn
    | cons x y =>
      rw [h, tot_cons] at ih
      split
      · rw [tot_cons, tot_cons]; simp; omega
      · simp only [List.headD_cons, List.tail_cons]; rw [tot_cons]; simp; omega

theorem tot_mem : ∀ (rs : List (List UInt8)) (r : List UInt8), r ∈ rs → r.length + 1 ≤ tot rs
  | [], r, h => by simp at h
  | x :: xs, r, h => by
    rw [tot_cons]
    rcases List.mem_cons.1 h with rfl | h
    · omega
    · have := tot_mem xs r h; omega

theorem spc_mem_len {d : UInt8} {l r : List UInt8} (h : r ∈ spc d l) : r.length ≤ l.length := by
  have := tot_mem _ _ h
  rw [tot_spc] at this; omega

theorem lnOf_len {t : List UInt8} {x : Ln} (h : lnOf t = some x) : x.2.length ≤ t.length := by
  unfold lnOf at h
  split at h
  · cases h
  · cases h; exact tr_len t

theorem cutR_len : ∀ (rs : List (List UInt8)) (b : Bool) (a : List UInt8) (x : List Ln), cutR b a rs = some x → x.length ≤ rs.length ∧ ∀ y ∈ x, y.2.length ≤ a.length + tot rs
  | [], b, a, x, h => by
    cases b with
    | true => simp [cutR] at h
    | false => simp [cutR] at h; subst h; simp
  | r :: rs, b, a, x, h => by
    rw [cutR] at h
    have hrl := rowL_len b r
    split at h
    · obtain ⟨h1, h2⟩ := cutR_len rs true _ x h
      refine ⟨by simp; omega, fun y hy => ?_⟩
      have := h2 y hy
      rw [List.length_append, List.length_dropLast] at this
      rw [tot_cons]; omega
    · obtain ⟨y, h1, rfl⟩ := Option.map_eq_some_iff.1 h
      obtain ⟨i1, i2⟩ := cutR_len rs false [] y h1
      refine ⟨?_, ?_⟩
      · cases lnOf (a ++ rowL b r) <;> simp <;> omega
      · intro z hz
        rw [tot_cons]
        rcases List.mem_append.1 hz with hz | hz
        · have := lnOf_len (Option.mem_toList.1 hz)
          rw [List.length_append] at this; omega
        · have := i2 z hz
          simp at this; omega

theorem lnS_len (l : List UInt8) : (lnS l).length ≤ 2048 ∧ ∀ y ∈ lnS l, y.2.length ≤ 4096 := by
  rcases ln_cases l with ⟨_, h, _⟩ | ⟨x, h, hx, _⟩
  · rw [h]; simp
  · rw [hx]
    obtain ⟨h1, h2⟩ := lnC_some h
    obtain ⟨h3, h4, h5⟩ := lnT_some h2
    obtain ⟨h6, h7⟩ := cutR_len _ _ _ _ h5
    have h8 := spc_len 10 l
    rw [List.length_dropLast] at h6
    refine ⟨by omega, fun y hy => ?_⟩
    have h9 := h7 y hy
    have h10 : tot (spc 10 l).dropLast ≤ tot (spc 10 l) := by
      rw [rows_end h3, tot_app]; simp
    rw [tot_spc] at h10
    simp at h9; omega

/-! Each row by itself. -/

theorem rows_plain : ∀ (l : List UInt8), plainL (without 10 l) = (spc 10 l).all plainL
  | [] => rfl
  | c :: r => by
    have ih := rows_plain r
    have hn := spc_ne 10 r
    rw [spc]
    by_cases hc : c = 10
    · subst hc
      rw [if_pos rfl, List.all_cons, ← ih]
      simp [without, plainL]
    · rw [if_neg hc]
      have e : without 10 (c :: r) = c :: without 10 r := by simp [without, hc]
      rw [e]
      cases h : spc 10 r with
      | nil => exact absurd h hn
      | cons x y =>
        rw [h, List.all_cons] at ih
        simp only [List.headD_cons, List.tail_cons, List.all_cons]
        rw [show plainL (c :: without 10 r) = (plainL [c] && plainL (without 10 r)) from plainL_app [c] _, show plainL (c :: x) = (plainL [c] && plainL x) from plainL_app [c] _, ih, Bool.and_assoc]

theorem rows_plain' {l : List UInt8} (h : endL l = true) : plainL (without 10 l) = (spc 10 l).dropLast.all plainL := by
  rw [rows_plain, rows_end h, List.all_append, List.dropLast_concat]
  simp [plainL]

end Go.Proofs.YtgbegdgacjodcaaGreatDoor

/- Plain facts on words between blanks and on a build line's parts, with no program in them; no conditions. -/
namespace Go.Proofs.YtgbegdgacjodcaaGreatDoor
open Go.RowKit

abbrev Ws := List (List UInt8)

/-- A name, as bytes. -/
def okN (l : List UInt8) : Bool := decide (1 ≤ l.length) && decide (l.length ≤ 16) && allOk l

theorem may_okN (s : ByteArray) : mayB s = okN (bl s) := by
  unfold mayB okN; rw [bl_size]; rfl

theorem okN_len {l : List UInt8} (h : okN l = true) : 1 ≤ l.length ∧ l.length ≤ 16 ∧ allOk l = true := by
  unfold okN at h; simp at h; exact ⟨h.1.1, h.1.2, h.2⟩
theorem okN_ne {l : List UInt8} (h : okN l = true) : l ≠ [] := by
  rintro rfl; simp [okN] at h
theorem okN_no {l : List UInt8} (h : okN l = true) (d : UInt8) (hd : okb d.toNat = false) : d ∉ l := by
  intro hm
  have := List.all_eq_true.1 (okN_len h).2.2 d hm
  rw [hd] at this; cases this
theorem okN_32 {l : List UInt8} (h : okN l = true) : 32 ∉ l := okN_no h 32 (by decide)

/-- The words of a text. -/
def wdL (l : List UInt8) : Ws := (spc 32 l).filter fun x => !x.isEmpty

def one (x : List UInt8) : Ws := if x = [] then [] else [x]

theorem wdL_nil : wdL [] = [] := rfl
theorem wdL_plain {x : List UInt8} (h : 32 ∉ x) : wdL x = one x := by
  unfold wdL one; rw [spc_plain 32 x h]; cases x <;> simp
theorem wdL_app (a b : List UInt8) : wdL (a ++ 32 :: b) = wdL a ++ wdL b := by
  unfold wdL; rw [spc_app, List.filter_append]
theorem wdL_blank (b : List UInt8) : wdL (32 :: b) = wdL b := by
  have := wdL_app [] b; simpa [wdL_nil] using this
theorem wdL_end (a : List UInt8) : wdL (a ++ [32]) = wdL a := by
  have := wdL_app a []; simpa [wdL_nil] using this
theorem wdL_trim : ∀ l : List UInt8, wdL (Lib.trimLeftB l 32) = wdL l
  | [] => rfl
  | c :: r => by
    unfold Lib.trimLeftB
    by_cases h : c = 32
    · subst h; rw [List.dropWhile_cons_of_pos (by simp), wdL_blank]; exact wdL_trim r
    · rw [List.dropWhile_cons_of_neg (by simpa using h)]
theorem trim_head (l r : List UInt8) : Lib.trimLeftB l 32 ≠ 32 :: r := by
  intro h
  unfold Lib.trimLeftB at h
  have := List.head?_dropWhile_not (fun x : UInt8 => x == 32) l
  rw [h] at this
  simp at this

theorem wdL_ne {l : List UInt8} : ∀ x ∈ wdL l, x ≠ [] := by
  intro x hx
  unfold wdL at hx
  have := (List.mem_filter.1 hx).2
  rintro rfl; simp at this

theorem spc_no (d : UInt8) : ∀ (l : List UInt8), ∀ x ∈ spc d l, d ∉ x
  | [], x, h => by simp [spc] at h; subst h; simp
  | c :: r, x, h => by
    rw [spc] at h
    by_cases hc : c = d
    · rw [if_pos hc] at h
      rcases List.mem_cons.1 h with rfl | h
      · simp
      · exact spc_no d r x h
    · rw [if_neg hc] at h
      cases hs : spc d r with
      | nil => exact absurd hs (spc_ne d r)
      | cons y z =>
        rw [hs] at h
        rcases List.mem_cons.1 h with rfl | h
        · have := spc_no d r y (by rw [hs]; simp)
          simp only [List.headD_cons, List.mem_cons, not_or]
          exact ⟨fun e => hc e.symm, this⟩
        · exact spc_no d r x (by rw [hs]; exact List.mem_cons_of_mem _ h)

/-- The first word's step, no blank behind it. -/
theorem next_none {l : List UInt8} (h : Lib.index (Lib.trimLeftB l 32) [32] = -1) : wdL l = one (Lib.trimLeftB l 32) := by
  rw [← wdL_trim, wdL_plain (idx_none 32 _ h)]

theorem next_some {l : List UInt8} {i : Nat} (h : Lib.index (Lib.trimLeftB l 32) [32] = i) :
    i < (Lib.trimLeftB l 32).length ∧ wdL l = (Lib.trimLeftB l 32).take i :: wdL ((Lib.trimLeftB l 32).drop i) ∧ (Lib.trimLeftB l 32).take i ≠ [] := by
  obtain ⟨h1, h2, h3⟩ := idx_some 32 _ i h
  have hn : (Lib.trimLeftB l 32).take i ≠ [] := by
    intro e; rw [e] at h2; exact trim_head l _ h2
  refine ⟨h1, ?_, hn⟩
  have hd : (Lib.trimLeftB l 32).drop i = 32 :: (Lib.trimLeftB l 32).drop (i + 1) := by
    have e := congrArg (List.drop i) h2
    rw [List.drop_append] at e
    rw [e]; simp
    rw [show i - min i (Lib.trimLeftB l 32).length = 0 by omega]
    rfl
  rw [hd, wdL_blank, ← wdL_trim]
  conv => lhs; rw [h2]
  rw [wdL_app, wdL_plain h3]
  unfold one; rw [if_neg hn]; rfl

/-- What a row of words looks like in memory: the first one, and a text whose words are the others. -/
def StW (a b : List UInt8) (ws : Ws) : Prop := a = ws.headD [] ∧ wdL b = ws.tail ∧ ∀ x ∈ ws, x ≠ []

theorem StW.of_none {l : List UInt8} (h : Lib.index (Lib.trimLeftB l 32) [32] = -1) : StW (Lib.trimLeftB l 32) [] (wdL l) := by
  refine ⟨?_, ?_, wdL_ne⟩
  · rw [next_none h]; unfold one; split
    · next e => rw [e]; rfl
    · rfl
  · rw [next_none h, wdL_nil]; unfold one; split <;> rfl
theorem StW.of_some {l : List UInt8} {i : Nat} (h : Lib.index (Lib.trimLeftB l 32) [32] = i) : StW ((Lib.trimLeftB l 32).take i) ((Lib.trimLeftB l 32).drop i) (wdL l) := by
  obtain ⟨h1, h2, h3⟩ := next_some h
  exact ⟨by rw [h2]; rfl, by rw [h2]; rfl, wdL_ne⟩

theorem StW.of_nil {a b : List UInt8} {ws : Ws} (h : StW a b ws) : (a = []) = (ws = []) := by
  obtain ⟨h1, h2, h3⟩ := h
  cases ws with
  | nil => simp [h1]
  | cons x r =>
    have := h3 x (by simp)
    simp only [List.headD_cons] at h1
    subst h1
    simp [this]
theorem StW.is {a b : List UInt8} {ws : Ws} (h : StW a b ws) (x : List UInt8) (hx : x ≠ []) : (a = x) = (ws.head? = some x) := by
  obtain ⟨h1, h2, h3⟩ := h
  cases ws with
  | nil => simp only [List.headD_nil] at h1; subst h1; simp [Ne.symm hx]
  | cons y r => simp only [List.headD_cons] at h1; subst h1; simp

/-- AtW most eight names that stand ahead, and what stands behind them. -/
def tkW (ws : Ws) : Ws := (ws.takeWhile okN).take 8
def lfW (ws : Ws) : Ws := ws.drop (tkW ws).length

theorem tk_ok {ws : Ws} : ∀ x ∈ tkW ws, okN x = true := by
  intro x hx
  have h1 := List.mem_of_mem_take hx
  exact List.all_eq_true.1 List.all_takeWhile x h1
theorem tk_len (ws : Ws) : (tkW ws).length ≤ 8 := by unfold tkW; rw [List.length_take]; omega

theorem takeWhile_of {p : List UInt8 → Bool} {ys r : Ws} (h : ∀ y ∈ ys, p y = true) (hr : ∀ x, r.head? = some x → p x = false) : (ys ++ r).takeWhile p = ys := by
  induction ys with
  | nil =>
    cases r with
    | nil => rfl
    | cons x r => rw [List.nil_append, List.takeWhile_cons_of_neg]; rw [hr x rfl]; simp
  | cons y ys ih =>
    rw [List.cons_append, List.takeWhile_cons_of_pos (h y (by simp)), ih (fun z hz => h z (List.mem_cons_of_mem _ hz))]

theorem takeWhile_ge {p : List UInt8 → Bool} {ys r : Ws} (h : ∀ y ∈ ys, p y = true) : (ys ++ r).takeWhile p = ys ++ r.takeWhile p := by
  induction ys with
  | nil => rfl
  | cons y ys ih =>
    rw [List.cons_append, List.takeWhile_cons_of_pos (h y (by simp)), ih (fun z hz => h z (List.mem_cons_of_mem _ hz))]; rfl

theorem tk_full {ys r : Ws} (h : ∀ y ∈ ys, okN y = true) (hl : ys.length = 8) : tkW (ys ++ r) = ys ∧ lfW (ys ++ r) = r := by
  have e : tkW (ys ++ r) = ys := by
    unfold tkW; rw [takeWhile_ge h, List.take_append_of_le_length (by omega), List.take_of_length_le (by omega)]
  refine ⟨e, ?_⟩
  unfold lfW; rw [e, List.drop_left]
theorem tk_stop {ys r : Ws} (h : ∀ y ∈ ys, okN y = true) (hl : ys.length ≤ 8) (hr : ∀ x, r.head? = some x → okN x = false) : tkW (ys ++ r) = ys ∧ lfW (ys ++ r) = r := by
  have e : tkW (ys ++ r) = ys := by
    unfold tkW; rw [takeWhile_of h hr, List.take_of_length_le (by omega)]
  refine ⟨e, ?_⟩
  unfold lfW; rw [e, List.drop_left]
theorem tk_over {ys r : Ws} (h : ∀ y ∈ ys, okN y = true) (hl : 8 < ys.length) : ∃ x q, lfW (ys ++ r) = x :: q ∧ okN x = true := by
  have e : tkW (ys ++ r) = ys.take 8 := by
    unfold tkW; rw [takeWhile_ge h, List.take_append_of_le_length (by omega)]
  have e2 : lfW (ys ++ r) = ys.drop 8 ++ r := by
    unfold lfW; rw [e, List.length_take, show min 8 ys.length = 8 by omega, List.drop_append_of_le_length (by omega)]
  rw [e2, List.drop_eq_getElem_cons hl]
  exact ⟨_, _, rfl, h _ (List.getElem_mem _)⟩

/-- A sign and the names behind it, if the sign stands there: what is taken, what is left, whether it may be. -/
def prW (x : List UInt8) (ws : Ws) : Ws × Ws × Bool :=
  if ws.head? = some x then (tkW ws.tail, lfW ws.tail, !(tkW ws.tail).isEmpty) else ([], ws, true)

abbrev Bt := Ws × List UInt8 × Ws × Ws × Ws

/-- A build line, as words. -/
def bdW (ws : Ws) : Option Bt :=
  let a := tkW ws
  let r1 := lfW ws
  if a.isEmpty || !(r1.head? == some [58]) then none else
  let r2 := r1.tail
  let rule := r2.headD []
  if !okN rule then none else
  let r3 := r2.tail
  let b := tkW r3
  let c := prW [124] (lfW r3)
  let d := prW [124, 124] c.2.1
  if c.2.2 && d.2.2 && d.2.1.isEmpty then some (a, rule, b, c.1, d.1) else none

theorem bd_none1 {ws : Ws} (h : tkW ws = []) : bdW ws = none := by
  unfold bdW; simp [h]
theorem bd_none2 {ws : Ws} (h : (lfW ws).head? ≠ some [58]) : bdW ws = none := by
  unfold bdW; simp [h]
theorem bd_none3 {ws : Ws} (h : okN ((lfW ws).tail.headD []) = false) : bdW ws = none := by
  unfold bdW
  simp only [h]
  split <;> rfl
theorem bd_last {ws : Ws} (h1 : tkW ws ≠ []) (h2 : (lfW ws).head? = some [58]) (h3 : okN ((lfW ws).tail.headD []) = true) :
    bdW ws = (if (prW [124] (lfW (lfW ws).tail.tail)).2.2 && (prW [124, 124] (prW [124] (lfW (lfW ws).tail.tail)).2.1).2.2 && (prW [124, 124] (prW [124] (lfW (lfW ws).tail.tail)).2.1).2.1.isEmpty then
      some (tkW ws, (lfW ws).tail.headD [], tkW (lfW ws).tail.tail, (prW [124] (lfW (lfW ws).tail.tail)).1, (prW [124, 124] (prW [124] (lfW (lfW ws).tail.tail)).2.1).1) else none) := by
  unfold bdW
  have e1 : (tkW ws).isEmpty = false := by cases h : tkW ws with
    | nil => exact absurd h h1
    | cons x y => rfl
  have e2 : ((lfW ws).head? == some [58]) = true := by rw [h2]; rfl
  simp only [e1, e2, h3]
  rfl

def btS (x : Option Bt) : Bt := x.getD ([], [], [], [], [])
def btE (x : Option Bt) : Int := if x.isSome then 0 else 700

def bdR (l : List UInt8) : Option Bt := bdW (wdL l)

end Go.Proofs.YtgbegdgacjodcaaGreatDoor

/- Plain facts on cut texts: how many pieces there are, how long they are; texts one behind the other; with no program in them; no conditions. -/
namespace Go.Proofs.YtgbegdgacjodcaaGreatDoor
open Go.RowKit

def vsize : Tok → Nat
  | .inl _ => 0
  | .inr n => n.length

theorem tk_vsize {l : List UInt8} {x : Tok} {k : Nat} (h : tk l = some (x, k)) : vsize x ≤ 16 := by
  unfold tk at h
  split at h
  · cases h
  · split at h
    · simp at h; obtain ⟨rfl, _⟩ := h; simp [vsize]
    · split at h
      · cases h
      · split at h
        · simp at h; obtain ⟨rfl, _⟩ := h; simp [vsize]
        · split at h
          · split at h
            · simp at h; obtain ⟨rfl, _⟩ := h; simp [vsize]; omega
            · cases h
          · split at h
            · simp at h; obtain ⟨rfl, _⟩ := h; simp [vsize]; omega
            · cases h

theorem tksF_facts : ∀ (n : Nat) (l : List UInt8) (ts : List Tok), tksF n l = some ts → ts.length ≤ l.length ∧ ∀ x ∈ ts, vsize x ≤ 16
  | _, [], ts, h => by simp [tksF] at h; subst h; simp
  | 0, c :: r, ts, h => by simp [tksF] at h
  | n + 1, c :: r, ts, h => by
    unfold tksF at h
    cases ht : tk (c :: r) with
    | none => rw [ht] at h; cases h
    | some xk =>
      obtain ⟨x, k⟩ := xk
      rw [ht] at h
      simp only [Option.map_eq_some_iff] at h
      obtain ⟨us, hu, rfl⟩ := h
      obtain ⟨h1, h2⟩ := tksF_facts n _ us hu
      have hk := tk_pos ht
      refine ⟨?_, ?_⟩
      · rw [List.length_drop] at h1; simp only [List.length_cons] at *; omega
      · intro y hy
        rcases List.mem_cons.1 hy with rfl | hy
        · exact tk_vsize ht
        · exact h2 y hy

theorem tks_facts {l : List UInt8} {ts : List Tok} (h : tks l = some ts) : ts.length ≤ l.length ∧ ∀ x ∈ ts, vsize x ≤ 16 := tksF_facts _ _ _ h

theorem addAll_facts : ∀ (ts : List Tok) (ps : List Pc) (n : Nat), 16 ≤ n → most n ps → (∀ x ∈ ts, vsize x ≤ 16) → most (n + ts.length) (addAll ps ts) ∧ (addAll ps ts).length ≤ ps.length + ts.length
  | [], ps, n, _, hm, _ => ⟨hm, by simp [addAll]⟩
  | x :: r, ps, n, h16, hm, hv => by
    have hx : most (n + 1) (add ps x) := by
      cases x with
      | inl c => exact most_t hm c
      | inr m => exact most_snoc (most_mono hm (by omega)) (by have := hv (.inr m) (by simp); simp [vsize] at this ⊢; omega)
    have := addAll_facts r (add ps x) (n + 1) (by omega) hx (fun y hy => hv y (by simp [hy]))
    have hl := add_len ps x
    have e : addAll ps (x :: r) = addAll (add ps x) r := rfl
    rw [e]
    exact ⟨most_mono this.1 (by simp; omega), by simp; omega⟩

theorem cutP_facts (l : List UInt8) : (cutP l).length ≤ 2048 ∧ most 2064 (cutP l) := by
  unfold cutP cutL
  split
  · rename_i h
    cases ht : tks l with
    | none => simp [most_nil]
    | some ts =>
      obtain ⟨h1, h2⟩ := tks_facts ht
      have := addAll_facts ts [] 16 (by omega) (most_nil _) h2
      simp at this
      exact ⟨by simp; omega, most_mono this.1 (by omega)⟩
  · simp [most_nil]

/-- A part of a text, told so that it stands alone. -/
def wrT : Tok → List UInt8
  | .inl c => if c = 36 then [36, 36] else [c]
  | .inr n => 36 :: 123 :: (n ++ [125])
def wrAll (ts : List Tok) : List UInt8 := ts.flatMap wrT
def goodT : Tok → Bool
  | .inl c => plainL [c]
  | .inr n => decide (1 ≤ n.length) && decide (n.length ≤ 16) && n.all vb && plainL n

theorem wrAll_snoc (ts : List Tok) (x : Tok) : wrAll (ts ++ [x]) = wrAll ts ++ wrT x := by unfold wrAll; rw [List.flatMap_append]; simp

theorem nlen_all (l : List UInt8) : ∀ n : List UInt8, n.all vb = true → nlen (n ++ 125 :: l) = n.length
  | [], _ => by simp [nlen]; decide
  | c :: r, h => by
    rw [List.all_cons, Bool.and_eq_true_iff] at h
    rw [List.cons_append, nlen, if_pos h.1, nlen_all l r h.2]; rfl

theorem tk_wr (x : Tok) (l : List UInt8) (h : goodT x = true) : tk (wrT x ++ l) = some (x, (wrT x).length) := by
  cases x with
  | inl c =>
    unfold wrT
    by_cases hc : c = 36
    · subst hc; simp [tk]
    · simp [tk, hc]
  | inr n =>
    unfold goodT at h
    simp only [Bool.and_eq_true, decide_eq_true_eq] at h
    obtain ⟨⟨⟨h1, h2⟩, h3⟩, h4⟩ := h
    have hn := nlen_all l n h3
    have e : wrT (.inr n) ++ l = 36 :: 123 :: (n ++ 125 :: l) := by simp [wrT]
    rw [e]
    simp only [tk, ne_eq, not_true_eq_false, if_false]
    rw [if_neg (by decide), if_pos trivial, hn, if_pos ⟨h1, h2, by rw [List.getElem?_append_right (Nat.le_refl _)]; simp⟩]
    simp [wrT]

theorem tks_wr : ∀ (ts : List Tok), (∀ x ∈ ts, goodT x = true) → tks (wrAll ts) = some ts
  | [], _ => rfl
  | x :: r, h => by
    have e : wrAll (x :: r) = wrT x ++ wrAll r := by simp [wrAll]
    rw [e, tks_step (tk_wr x (wrAll r) (h x (by simp))), List.drop_left, tks_wr r (fun y hy => h y (by simp [hy]))]; rfl

theorem plain_wr : ∀ (ts : List Tok), (∀ x ∈ ts, goodT x = true) → plainL (wrAll ts) = true
  | [], _ => rfl
  | x :: r, h => by
    have e : wrAll (x :: r) = wrT x ++ wrAll r := by simp [wrAll]
    rw [e, plainL_app, plain_wr r (fun y hy => h y (by simp [hy])), Bool.and_true]
    have hx := h x (by simp)
    cases x with
    | inl c =>
      by_cases hc : c = 36
      · subst hc; decide
      · rw [show wrT (.inl c) = [c] by simp [wrT, hc]]; exact hx
    | inr n =>
      unfold goodT at hx
      simp only [Bool.and_eq_true, decide_eq_true_eq] at hx
      have e2 : wrT (.inr n) = [36, 123] ++ (n ++ [125]) := rfl
      rw [e2, plainL_app, plainL_app, hx.2]; decide

theorem cut_wr (ts : List Tok) (h : ∀ x ∈ ts, goodT x = true) (hl : (wrAll ts).length ≤ 2048) : cutP (wrAll ts) = addAll [] ts ∧ cutE (wrAll ts) = 0 :=
  cut_of hl (plain_wr ts h) (tks_wr ts h)

/-- What the statement's loop holds. -/
structure JS (k : Nat) (t : ByteArray) (ps : List Pc) (ts : List Tok) : Prop where
  len : ts.length ≤ k
  txt : bl t = wrAll ts
  good : ∀ x ∈ ts, goodT x = true
  ps : ps = addAll [] ts
  size : t.size ≤ 6 * k

theorem good_vsize {x : Tok} (h : goodT x = true) : vsize x ≤ 16 := by
  cases x with
  | inl c => simp [vsize]
  | inr n => unfold goodT at h; simp only [Bool.and_eq_true, decide_eq_true_eq] at h; simp [vsize]; omega

theorem JS.start : JS 0 ⟨#[]⟩ [] [] := ⟨by simp, rfl, by simp, rfl, by decide⟩
theorem JS.step {k : Nat} {t u : ByteArray} {ps : List Pc} {ts : List Tok} {x : Tok} (h : JS k t ps ts) (hg : goodT x = true) (hu : bl u = wrT x) (hs : u.size ≤ 6) : JS (k + 1) (t ++ u) (add ps x) (ts ++ [x]) := by
  refine ⟨by have := h.len; simp; omega, by rw [bl_app, h.txt, hu, wrAll_snoc], ?_, by rw [addAll_snoc, h.ps], ?_⟩
  · intro y hy
    rcases List.mem_append.1 hy with hy | hy
    · exact h.good y hy
    · rw [List.mem_singleton.1 hy]; exact hg
  · rw [← bl_size, bl_app, List.length_append, bl_size, bl_size]; have := h.size; omega
theorem JS.facts {k : Nat} {t : ByteArray} {ps : List Pc} {ts : List Tok} (h : JS k t ps ts) : ps.length ≤ k ∧ most (16 + k) ps := by
  have := addAll_facts ts [] 16 (by omega) (most_nil _) (fun x hx => good_vsize (h.good x hx))
  rw [← h.ps] at this
  have hl := h.len
  simp at this
  exact ⟨by omega, most_mono this.1 (by omega)⟩
theorem JS.done {k : Nat} {t : ByteArray} {ps : List Pc} {ts : List Tok} (h : JS k t ps ts) (hk : k ≤ 20) : cutP (bl t) = ps ∧ cutE (bl t) = 0 := by
  have hs := h.size
  rw [h.txt, h.ps]
  exact cut_wr ts h.good (by rw [← h.txt, bl_size]; omega)

end Go.Proofs.YtgbegdgacjodcaaGreatDoor

/- Plain facts on rows of structs in memory: how they lie, what stays of them when memory is made, what a write into one does; with no program in them; no conditions. -/
namespace Go.Proofs.YtgbegdgacjodcaaGreatDoor
open Go.RowKit

/-- A row's cells: each element's, one behind the other. -/
def lay {α : Type} (f : α → List Value) (xs : List α) : List Value := xs.flatMap f

theorem lay_nil {α : Type} (f : α → List Value) : lay f [] = [] := rfl
theorem lay_app {α : Type} (f : α → List Value) (xs ys : List α) : lay f (xs ++ ys) = lay f xs ++ lay f ys := by unfold lay; rw [List.flatMap_append]
theorem lay_snoc {α : Type} (f : α → List Value) (xs : List α) (y : α) : lay f (xs ++ [y]) = lay f xs ++ f y := by rw [lay_app]; simp [lay]
theorem lay_cons {α : Type} (f : α → List Value) (x : α) (xs : List α) : lay f (x :: xs) = f x ++ lay f xs := by simp [lay]

theorem lay_length {α : Type} {f : α → List Value} {sz : Nat} (hf : ∀ x, (f x).length = sz) : ∀ xs : List α, (lay f xs).length = xs.length * sz
  | [] => by simp [lay]
  | x :: r => by rw [lay_cons, List.length_append, hf, lay_length hf r, List.length_cons, Nat.add_mul]; omega

theorem lay_get {α : Type} {f : α → List Value} {sz : Nat} (hf : ∀ x, (f x).length = sz) : ∀ (xs : List α) (j i : Nat) (x : α), xs[j]? = some x → i < sz → (lay f xs)[j * sz + i]? = (f x)[i]?
  | [], j, i, x, h, _ => by simp at h
  | y :: r, 0, i, x, h, hi => by
    simp at h; subst h
    rw [lay_cons, List.getElem?_append_left (by rw [hf]; omega)]; simp
  | y :: r, j + 1, i, x, h, hi => by
    simp at h
    rw [lay_cons, List.getElem?_append_right (by rw [hf, Nat.add_mul]; omega), hf, show (j + 1) * sz + i - sz = j * sz + i by rw [Nat.add_mul]; omega]
    exact lay_get hf r j i x h hi

theorem lay_set {α : Type} {f : α → List Value} {sz : Nat} (hf : ∀ x, (f x).length = sz) : ∀ (xs : List α) (j i : Nat) (x y : α) (v : Value), xs[j]? = some x → i < sz → f y = (f x).set i v → lay f (xs.set j y) = (lay f xs).set (j * sz + i) v
  | [], j, i, x, y, v, h, _, _ => by simp at h
  | z :: r, 0, i, x, y, v, h, hi, he => by
    simp at h; subst h
    rw [List.set_cons_zero, lay_cons, lay_cons, he, List.set_append_left _ _ (by rw [hf]; omega)]; simp
  | z :: r, j + 1, i, x, y, v, h, hi, he => by
    simp at h
    rw [List.set_cons_succ, lay_cons, lay_cons, List.set_append_right _ _ (by rw [hf, Nat.add_mul]; omega), hf, show (j + 1) * sz + i - sz = j * sz + i by rw [Nat.add_mul]; omega]
    rw [lay_set hf r j i x y v h hi he]

/-- What is owned stays owned where all that was there is as it was. -/
theorem own_q {w w' : World} {B e size n : Nat} {v : Value} {xs : List Value} (h : w.ownsRow B e size v n xs) (hb : Q w w') : w'.ownsRow B e size v n xs := by
  obtain ⟨h1, h2⟩ := h
  rcases h2 with hn | ⟨g, cap, cur, e1, hg, hgg, rest⟩
  · exact ⟨h1, Or.inl hn⟩
  · exact ⟨h1, Or.inr ⟨g, cap, cur, e1, hg, (hb.block g (Array.getElem?_eq_some_iff.1 hgg).1).trans hgg, rest⟩⟩

theorem own_low {w : World} {B B' e size n : Nat} {v : Value} {xs : List Value} (h : w.ownsRow B e size v n xs) (hb : B' ≤ B) : w.ownsRow B' e size v n xs := by
  obtain ⟨h1, h2⟩ := h
  rcases h2 with hn | ⟨g, cap, cur, e1, hg, rest⟩
  · exact ⟨h1, Or.inl hn⟩
  · exact ⟨h1, Or.inr ⟨g, cap, cur, e1, Nat.le_trans hb hg, rest⟩⟩

/-- Rows whose elements are of two types lie apart. -/
theorem own_apart {w : World} {B B' e e' size size' n n' : Nat} {v v' : Value} {xs xs' : List Value} (h : w.ownsRow B e size v n xs) (h' : w.ownsRow B' e' size' v' n' xs') (hne : e ≠ e') : v.ownBlock = none ∨ v.ownBlock ≠ v'.ownBlock := by
  rcases h.2 with ⟨e1, _⟩ | ⟨g, cap, cur, e1, _, hgg, _⟩
  · left; rw [e1]; rfl
  · right
    rcases h'.2 with ⟨e2, _⟩ | ⟨g', cap', cur', e2, _, hgg', _⟩
    · rw [e1, e2]; simp [Value.ownBlock]
    · rw [e1, e2]
      intro he
      simp only [Value.ownBlock, Option.some.injEq] at he
      subst he
      rw [hgg] at hgg'
      simp only [Option.some.injEq, Obj.cells.injEq] at hgg'
      exact hne hgg'.2.1

theorem own_le {w : World} {B e size n cap : Nat} {ao : Option Addr} {m : Nat} {xs : List Value} (h : w.ownsRow B e size (.slice ao m cap) n xs) : n ≤ cap ∧ cap ≤ maxLen ∧ m = n := by
  rcases h.2 with ⟨e1, h2⟩ | ⟨g, cap', cur, e1, hb, hh, hn, hm, hs, ht⟩
  · cases e1; exact ⟨by omega, by unfold maxLen; omega, by omega⟩
  · cases e1; exact ⟨hn, hm, rfl⟩

/-- Elements that lie in a row, to be read. -/
def RowG {α : Type} (f : α → List Value) (sz : Nat) (w : World) (ao : Option Addr) (xs : List α) : Prop :=
  (xs = []) ∨ ∃ g o, ao = some ⟨g, o, none⟩ ∧ g < w.heap.size ∧ ∀ (j i : Nat) x v, xs[j]? = some x → i < sz → (f x)[i]? = some v → w.cell? ⟨g, o + (j * sz + i), none⟩ = some v

theorem RowG.q {α : Type} {f : α → List Value} {sz : Nat} {w w' : World} {ao : Option Addr} {xs : List α} (h : RowG f sz w ao xs) (hb : Q w w') : RowG f sz w' ao xs := by
  rcases h with h | ⟨g, o, e, hg, hc⟩
  · exact Or.inl h
  · exact Or.inr ⟨g, o, e, Nat.lt_of_lt_of_le hg hb.size, fun j i x v h1 h2 h3 => (hb.cell (p := ⟨g, o + (j * sz + i), none⟩) hg).trans (hc j i x v h1 h2 h3)⟩

theorem RowG.own {α : Type} {f : α → List Value} {sz : Nat} (hf : ∀ x, (f x).length = sz) (hz : 0 < sz) {w : World} {B e cap n : Nat} {ao : Option Addr} {xs : List α} (h : w.ownsRow B e sz (.slice ao n cap) n (lay f xs)) : RowG f sz w ao xs := by
  obtain ⟨h1, h2⟩ := h
  rw [lay_length hf] at h1
  rcases h2 with ⟨e1, h2⟩ | ⟨g, cap', cur, e1, hb, hh, hn, hm, hs, ht⟩
  · left
    rw [h2, Nat.zero_mul] at h1
    rcases Nat.mul_eq_zero.1 h1 with h | h
    · exact List.eq_nil_of_length_eq_zero h
    · omega
  · cases e1
    refine Or.inr ⟨g, 0, rfl, (Array.getElem?_eq_some_iff.1 hh).1, ?_⟩
    intro j i x v hx hi hv
    rw [Nat.zero_add, cell_of_row w g (j * sz + i) cur e (0, 0) hh, ← Array.getElem?_toList]
    have hj : j < xs.length := (List.getElem?_eq_some_iff.1 hx).1
    have hlt : j * sz + i < n * sz := by
      rw [← h1]
      have : (j + 1) * sz ≤ xs.length * sz := Nat.mul_le_mul_right _ hj
      rw [Nat.add_mul] at this; omega
    have hg := lay_get hf xs j i x hx hi
    rw [← ht, List.getElem?_take, if_pos hlt, hv] at hg
    exact hg

/-- An owned row that is not empty: where it lies, that it may be written. -/
theorem own_some {α : Type} {f : α → List Value} {sz : Nat} (hf : ∀ x, (f x).length = sz) (hz : 0 < sz) {w : World} {B e cap n : Nat} {ao : Option Addr} {xs : List α} (hn : 0 < n) (h : w.ownsRow B e sz (.slice ao n cap) n (lay f xs)) :
    ∃ g, ao = some ⟨g, 0, none⟩ ∧ B ≤ g ∧ g < w.heap.size ∧ (∀ o, w.frozen? ⟨g, o, none⟩ = false) ∧ ∀ (j i : Nat) x v, xs[j]? = some x → i < sz → (f x)[i]? = some v → w.cell? ⟨g, j * sz + i, none⟩ = some v := by
  have hr := RowG.own hf hz h
  obtain ⟨h1, h2⟩ := h
  rw [lay_length hf] at h1
  rcases h2 with ⟨e1, h2⟩ | ⟨g, cap', cur, e1, hb, hh, hnn, hm, hs, ht⟩
  · omega
  · cases e1
    refine ⟨g, rfl, hb, (Array.getElem?_eq_some_iff.1 hh).1, fun o => frozen_of_row w g o cur e hh, ?_⟩
    intro j i x v hx hi hv
    rcases hr with hr | ⟨g', o, e2, hg, hc⟩
    · rw [hr] at hx; simp at hx
    · cases e2
      have := hc j i x v hx hi hv
      rwa [Nat.zero_add] at this

/-- A cell of an owned row is written. -/
theorem own_set {α : Type} {f : α → List Value} {sz : Nat} (hf : ∀ x, (f x).length = sz) {w : World} {B e cap n g : Nat} {xs : List α} (h : w.ownsRow B e sz (.slice (some ⟨g, 0, none⟩) n cap) n (lay f xs))
    (j i : Nat) (x y : α) (v : Value) (hx : xs[j]? = some x) (hi : i < sz) (he : f y = (f x).set i v) :
    (w.setCell ⟨g, j * sz + i, none⟩ v).ownsRow B e sz (.slice (some ⟨g, 0, none⟩) n cap) n (lay f (xs.set j y)) := by
  obtain ⟨h1, h2⟩ := h
  have hl : (lay f (xs.set j y)).length = n * sz := by
    rw [lay_length hf, List.length_set, ← lay_length hf, h1]
  rcases h2 with ⟨e1, h2⟩ | ⟨g', cap', cur, e1, hb, hh, hn, hm, hs, ht⟩
  · cases e1
  · cases e1
    refine ⟨hl, Or.inr ⟨g, cap, cur.setIfInBounds (j * sz + i) v, rfl, hb, heap_setCell_same w g _ cur e v hh, hn, hm, by simpa using hs, ?_⟩⟩
    rw [lay_set hf xs j i x y v hx hi he, ← ht, Array.toList_setIfInBounds, List.take_set]

/-- What an append asks of a block that has just been made. -/
theorem news_new (w : World) (cs : Array Value) (t : TypeId) : ∀ j u, cs.toList[j]? = some u → (w.alloc (.cells cs t)).cell? ((⟨w.heap.size, 0, none⟩ : Addr).add j) = some u :=
  World.news_of_block (heap_alloc_new w _)
theorem news_at {w : World} {n : Nat} (h : n = w.heap.size) (cs : Array Value) (t : TypeId) : ∀ j u, cs.toList[j]? = some u → (w.alloc (.cells cs t)).cell? ((⟨n, 0, none⟩ : Addr).add j) = some u := by
  subst h; exact news_new w cs t
theorem rowG_block {α : Type} {f : α → List Value} {sz : Nat} (hf : ∀ x, (f x).length = sz) (w : World) (cs : Array Value) (t : TypeId) (xs : List α) (h : cs.toList = lay f xs) : RowG f sz (w.alloc (.cells cs t)) (some ⟨w.heap.size, 0, none⟩) xs := by
  refine Or.inr ⟨w.heap.size, 0, rfl, by simp, ?_⟩
  intro j i x v hx hi hv
  have h1 := news_new w cs t (j * sz + i) v (by rw [h, lay_get hf xs j i x hx hi]; exact hv)
  rw [← h1]
  congr 1
  unfold Addr.add; split <;> simp_all

theorem le_alloc {B : Nat} {w : World} (h : B ≤ w.heap.size) (o : Obj) : B ≤ (w.alloc o).heap.size := Nat.le_trans h (by simp)
theorem size_alloc (w : World) (o : Obj) : (w.alloc o).heap.size = w.heap.size + 1 := by simp
theorem one_int (k : IntKind) (n : Int) : ∀ u ∈ [Value.int k n], u.oneCell' = true := by intro u hu; simp at hu; subst hu; rfl
theorem one_str (s : ByteArray) : ∀ u ∈ [Value.string s], u.oneCell' = true := by intro u hu; simp at hu; subst hu; rfl
theorem one_bs (b : Bool) (s : ByteArray) : ∀ u ∈ [Value.bool b, .string s], u.oneCell' = true := by intro u hu; simp at hu; rcases hu with rfl | rfl <;> rfl

end Go.Proofs.YtgbegdgacjodcaaGreatDoor

/- Plain facts on scopes, with no program in them: binds, which may be, where a name stands, one set, one told; no conditions. -/
namespace Go.Proofs.YtgbegdgacjodcaaGreatDoor
open Go.RowKit

/-- A bind: its name, its text. -/
abbrev Bd := ByteArray × ByteArray

def dv (b : Bd) : List Value := [.string b.1, .string b.2]
theorem dv_len (b : Bd) : (dv b).length = 2 := rfl

theorem bl_inj {x y : ByteArray} (h : bl x = bl y) : x = y := (of_bl h).trans (of_bl rfl).symm

def named (n : ByteArray) (b : Bd) : Bool := bl b.1 == bl n
theorem named_toList (n : ByteArray) (b : Bd) : (b.1.toList == n.toList) = named n b := by rw [bl_toList, bl_toList]; rfl
theorem named_eq {n : ByteArray} {b : Bd} (h : named n b = true) : b.1 = n := bl_inj (by simpa [named] using h)

/-- May the text be one's? -/
def txB (t : ByteArray) : Bool := decide ((t.size : Int) ≤ 256) && plainL (bl t)
def mayBd (b : Bd) : Bool := mayB b.1 && txB b.2

def okAt (bs : List Bd) (k : Nat) (b : Bd) : Bool := mayBd b && !(bs.take k).any (named b.1)
def okK (bs : List Bd) : Nat → Bool
  | 0 => true
  | k + 1 => okK bs k && (match bs[k]? with | some b => okAt bs k b | none => true)

/-- May the scope be? -/
def scOk (bs : List Bd) : Bool := decide (bs.length ≤ 16) && okK bs bs.length

theorem okK_succ {bs : List Bd} {k : Nat} {b : Bd} (h : bs[k]? = some b) : okK bs (k + 1) = (okK bs k && okAt bs k b) := by
  show (okK bs k && _) = _
  rw [h]

theorem okK_down {bs : List Bd} {m : Nat} (h : okK bs m = true) : ∀ {k : Nat}, k ≤ m → okK bs k = true := by
  induction m with
  | zero => intro k hk; rw [Nat.le_zero.1 hk]; rfl
  | succ m ih =>
    intro k hk
    rcases Nat.lt_or_ge k (m + 1) with h1 | h1
    · refine ih ?_ (Nat.lt_succ_iff.1 h1)
      exact (Bool.and_eq_true_iff.1 (show (okK bs m && _) = true from h)).1
    · rw [Nat.le_antisymm hk h1]; exact h

theorem scOk_bad {bs : List Bd} {k : Nat} {b : Bd} (h : bs[k]? = some b) (hb : okAt bs k b = false) : scOk bs = false := by
  have hlt : k < bs.length := (List.getElem?_eq_some_iff.1 h).1
  unfold scOk
  cases ho : okK bs bs.length
  · simp
  · have := okK_down ho (show k + 1 ≤ bs.length from hlt)
    rw [okK_succ h, hb, Bool.and_false] at this
    cases this
theorem scOk_long {bs : List Bd} (h : 16 < bs.length) : scOk bs = false := by unfold scOk; rw [decide_eq_false (by omega)]; rfl
theorem scOk_end {bs : List Bd} (h : okK bs bs.length = true) : scOk bs = decide (bs.length ≤ 16) := by unfold scOk; rw [h, Bool.and_true]
theorem scOk_parts {bs : List Bd} (h : scOk bs = true) : bs.length ≤ 16 ∧ ∀ k b, bs[k]? = some b → mayBd b = true ∧ (bs.take k).any (named b.1) = false := by
  have h2 := Bool.and_eq_true_iff.1 h
  refine ⟨by simpa using h2.1, fun k b hb => ?_⟩
  have := okK_down h2.2 (show k + 1 ≤ bs.length from (List.getElem?_eq_some_iff.1 hb).1)
  rw [okK_succ hb] at this
  have h3 := Bool.and_eq_true_iff.1 (Bool.and_eq_true_iff.1 this).2
  exact ⟨h3.1, by simpa using h3.2⟩
theorem scOk_of {bs : List Bd} (hl : bs.length ≤ 16) (h : ∀ k b, bs[k]? = some b → mayBd b = true ∧ (bs.take k).any (named b.1) = false) : scOk bs = true := by
  have : ∀ m, m ≤ bs.length → okK bs m = true := by
    intro m
    induction m with
    | zero => intro _; rfl
    | succ m ih =>
      intro hm
      have hg : bs[m]? = some bs[m] := List.getElem?_eq_getElem (by omega)
      obtain ⟨h1, h2⟩ := h m _ hg
      rw [okK_succ hg, ih (by omega), okAt, h1, h2]; rfl
  unfold scOk
  rw [this _ (Nat.le_refl _), decide_eq_true hl]; rfl

/-- Where the name stands. -/
def hit (bs : List Bd) (n : ByteArray) : Option Nat := bs.findIdx? (named n)
def hitI (bs : List Bd) (n : ByteArray) : Int := match hit bs n with | some k => (k : Int) | none => -1

theorem any_take_succ {bs : List Bd} {k : Nat} {b : Bd} (p : Bd → Bool) (h : bs[k]? = some b) : (bs.take (k + 1)).any p = ((bs.take k).any p || p b) := by
  rw [List.take_add_one, h, List.any_append]; simp

theorem hit_at {bs : List Bd} {n : ByteArray} {k : Nat} {b : Bd} (h : bs[k]? = some b) (hno : (bs.take k).any (named n) = false) (hb : named n b = true) : hit bs n = some k := by
  unfold hit
  obtain ⟨hlt, he⟩ := List.getElem?_eq_some_iff.1 h
  rw [List.findIdx?_eq_some_iff_getElem]
  refine ⟨hlt, by rw [he]; exact hb, ?_⟩
  intro j hj
  have := List.any_eq_false.1 hno bs[j] (by
    rw [List.mem_take_iff_getElem]; exact ⟨j, by omega, rfl⟩)
  simpa using this
theorem hit_none {bs : List Bd} {n : ByteArray} (hno : bs.any (named n) = false) : hit bs n = none := by
  unfold hit
  rw [List.findIdx?_eq_none_iff]
  intro x hx
  simpa using List.any_eq_false.1 hno x hx
theorem hit_some {bs : List Bd} {n : ByteArray} {k : Nat} (h : hit bs n = some k) : ∃ b, bs[k]? = some b ∧ named n b = true ∧ (bs.take k).any (named n) = false := by
  unfold hit at h
  rw [List.findIdx?_eq_some_iff_getElem] at h
  obtain ⟨hlt, h1, h2⟩ := h
  refine ⟨bs[k], List.getElem?_eq_getElem hlt, h1, ?_⟩
  rw [List.any_eq_false]
  intro x hx
  rw [List.mem_take_iff_getElem] at hx
  obtain ⟨j, hj, rfl⟩ := hx
  simpa using h2 j (by omega)
theorem hit_none' {bs : List Bd} {n : ByteArray} (h : hit bs n = none) : bs.any (named n) = false := by
  unfold hit at h
  rw [List.findIdx?_eq_none_iff] at h
  rw [List.any_eq_false]
  intro x hx; simpa using h x hx

/-- One is set: the binds, the number. -/
def setB (bs : List Bd) (n t : ByteArray) : List Bd :=
  if scOk bs && mayB n && txB t then
    match hit bs n with
    | some k => bs.set k (n, t)
    | none => if bs.length = 16 then [] else bs ++ [(n, t)]
  else []
def setE (bs : List Bd) (n t : ByteArray) : Int :=
  if scOk bs && mayB n && txB t then
    match hit bs n with
    | some _ => 0
    | none => if bs.length = 16 then 401 else 0
  else 400
/-- One's text is told. -/
def getB (bs : List Bd) (n : ByteArray) : ByteArray :=
  if scOk bs then match hit bs n with
    | some k => match bs[k]? with | some b => b.2 | none => ByteArray.empty
    | none => ByteArray.empty
  else ByteArray.empty

theorem set_no {bs : List Bd} {n t : ByteArray} (h : (scOk bs && mayB n && txB t) = false) : setB bs n t = [] ∧ setE bs n t = 400 := by
  unfold setB setE; rw [h]; exact ⟨rfl, rfl⟩
theorem set_hit {bs : List Bd} {n t : ByteArray} {k : Nat} (h : (scOk bs && mayB n && txB t) = true) (hh : hit bs n = some k) : setB bs n t = bs.set k (n, t) ∧ setE bs n t = 0 := by
  unfold setB setE; rw [h, hh]; exact ⟨rfl, rfl⟩
theorem set_full {bs : List Bd} {n t : ByteArray} (h : (scOk bs && mayB n && txB t) = true) (hh : hit bs n = none) (hl : bs.length = 16) : setB bs n t = [] ∧ setE bs n t = 401 := by
  unfold setB setE; rw [h, hh]; simp [hl]
theorem set_more {bs : List Bd} {n t : ByteArray} (h : (scOk bs && mayB n && txB t) = true) (hh : hit bs n = none) (hl : bs.length ≠ 16) : setB bs n t = bs ++ [(n, t)] ∧ setE bs n t = 0 := by
  unfold setB setE; rw [h, hh]; simp [hl]
theorem get_no {bs : List Bd} {n : ByteArray} (h : scOk bs = false) : getB bs n = ByteArray.empty := by unfold getB; rw [h]; rfl
theorem get_hit {bs : List Bd} {n : ByteArray} {k : Nat} {b : Bd} (h : scOk bs = true) (hh : hit bs n = some k) (hb : bs[k]? = some b) : getB bs n = b.2 := by
  unfold getB; rw [h, hh]; simp [hb]
theorem get_none {bs : List Bd} {n : ByteArray} (hh : hit bs n = none) : getB bs n = ByteArray.empty := by
  unfold getB; rw [hh]; simp

/-- Each text is no longer than a string can be. -/
def Fit (bs : List Bd) : Prop := ∀ b ∈ bs, b.1.size ≤ maxLen ∧ b.2.size ≤ maxLen
theorem Fit.at {bs : List Bd} (h : Fit bs) {k : Nat} {b : Bd} (hb : bs[k]? = some b) : b.1.size ≤ maxLen ∧ b.2.size ≤ maxLen := h b (List.mem_of_getElem? hb)

theorem mayB_size {s : ByteArray} (h : mayB s = true) : s.size ≤ 16 := by
  unfold mayB at h
  have := (Bool.and_eq_true_iff.1 (Bool.and_eq_true_iff.1 h).1).2
  simpa using this
theorem txB_size {s : ByteArray} (h : txB s = true) : s.size ≤ 256 := by
  unfold txB at h
  have := (Bool.and_eq_true_iff.1 h).1
  have h2 := of_decide_eq_true this
  omega
theorem mayBd_size {b : Bd} (h : mayBd b = true) : b.1.size ≤ 16 ∧ b.2.size ≤ 256 := by
  have := Bool.and_eq_true_iff.1 h
  exact ⟨mayB_size this.1, txB_size this.2⟩

/-- What is set may be. -/
theorem set_ok {bs : List Bd} {n t : ByteArray} (h : setE bs n t = 0) : scOk (setB bs n t) = true := by
  cases ha : (scOk bs && mayB n && txB t)
  · rw [(set_no ha).2] at h; cases h
  have h3 := Bool.and_eq_true_iff.1 ha
  have h4 := Bool.and_eq_true_iff.1 h3.1
  obtain ⟨hl, hk⟩ := scOk_parts h4.1
  have hnt : mayBd (n, t) = true := by unfold mayBd; rw [h4.2, h3.2]; rfl
  cases hh : hit bs n with
  | none =>
    by_cases h16 : bs.length = 16
    · rw [(set_full ha hh h16).2] at h; cases h
    · rw [(set_more ha hh h16).1]
      refine scOk_of (by rw [List.length_append]; simp; omega) ?_
      intro k b hb
      rcases Nat.lt_or_ge k bs.length with h1 | h1
      · rw [List.getElem?_append_left h1] at hb
        rw [List.take_append_of_le_length (by omega)]
        exact hk k b hb
      · rw [List.getElem?_append_right h1] at hb
        have h0 : k - bs.length = 0 := by
          rcases Nat.eq_zero_or_pos (k - bs.length) with h | h
          · exact h
          · rw [List.getElem?_eq_none (by simp; omega)] at hb; cases hb
        rw [h0] at hb
        simp at hb
        subst hb
        refine ⟨hnt, ?_⟩
        rw [show k = bs.length by omega, List.take_left]
        exact hit_none' hh
  | some i =>
    obtain ⟨c, hc, hcn, hno⟩ := hit_some hh
    rw [(set_hit ha hh).1]
    have hne : ∀ (m : ByteArray) (k : Nat), ((bs.set i (n, t)).take k).any (named m) = (bs.take k).any (named m) := by
      intro m k
      rw [List.take_set]
      rw [Bool.eq_iff_iff, List.any_eq_true, List.any_eq_true]
      have hcm : named m c = named m (n, t) := by unfold named; rw [named_eq hcn]
      constructor
      · rintro ⟨x, hx, hm⟩
        rcases List.mem_or_eq_of_mem_set hx with h1 | h1
        · exact ⟨x, h1, hm⟩
        · subst h1
          rw [List.mem_iff_getElem?] at hx
          obtain ⟨j, hj⟩ := hx
          by_cases hji : j = i
          · subst hji
            have hlen : j < (bs.take k).length := by
              have := (List.getElem?_eq_some_iff.1 hj).1
              simpa using this
            have : (bs.take k)[j]? = some c := by rw [List.getElem?_take, if_pos (by simp at hlen; omega)]; exact hc
            exact ⟨c, List.mem_of_getElem? this, by rw [hcm]; exact hm⟩
          · rw [List.getElem?_set_ne (Ne.symm hji)] at hj
            exact ⟨_, List.mem_of_getElem? hj, hm⟩
      · rintro ⟨x, hx, hm⟩
        rw [List.mem_iff_getElem?] at hx
        obtain ⟨j, hj⟩ := hx
        by_cases hji : j = i
        · subst hji
          have hjl := (List.getElem?_eq_some_iff.1 hj).1
          refine ⟨(n, t), List.mem_of_getElem? (i := j) (by rw [List.getElem?_set_self hjl]), ?_⟩
          have : x = c := by
            rw [List.getElem?_take, if_pos (by simp at hjl; omega)] at hj
            rw [hc] at hj; exact (Option.some.inj hj).symm
          rw [← hcm, ← this]; exact hm
        · exact ⟨x, List.mem_of_getElem? (i := j) (by rw [List.getElem?_set_ne (Ne.symm hji)]; exact hj), hm⟩
    refine scOk_of (by rw [List.length_set]; exact hl) ?_
    intro k b hb
    rw [hne]
    by_cases hki : k = i
    · subst hki
      rw [List.getElem?_set_self (List.getElem?_eq_some_iff.1 hc).1] at hb
      cases hb
      exact ⟨hnt, hno⟩
    · rw [List.getElem?_set_ne (Ne.symm hki)] at hb
      exact hk k b hb

theorem set_fit {bs : List Bd} {n t : ByteArray} : Fit (setB bs n t) ∧ (setB bs n t).length ≤ 16 ∧ ∀ b ∈ setB bs n t, b.1.size ≤ 16 ∧ b.2.size ≤ 256 := by
  by_cases h : setE bs n t = 0
  · have h2 := scOk_parts (set_ok h)
    have h3 : ∀ b ∈ setB bs n t, b.1.size ≤ 16 ∧ b.2.size ≤ 256 := by
      intro b hb
      obtain ⟨k, hk⟩ := List.mem_iff_getElem?.1 hb
      exact mayBd_size (h2.2 k b hk).1
    exact ⟨fun b hb => by have := h3 b hb; unfold maxLen; omega, h2.1, h3⟩
  · have : setB bs n t = [] := by
      unfold setE at h; unfold setB
      split
      · rename_i ha
        rw [ha, if_pos rfl] at h
        cases hh : hit bs n with
        | some k => rw [hh] at h; exact absurd rfl h
        | none =>
          rw [hh] at h
          by_cases h16 : bs.length = 16
          · simp [h16]
          · simp [h16] at h
      · rfl
    rw [this]
    exact ⟨fun b hb => by simp at hb, by simp, fun b hb => by simp at hb⟩

end Go.Proofs.YtgbegdgacjodcaaGreatDoor

/- Plain facts on values, with no program in them: a text's pieces, each told, one behind the other; no conditions. -/
namespace Go.Proofs.YtgbegdgacjodcaaGreatDoor
open Go.RowKit

theorem mk_bl (x : ByteArray) : (⟨(bl x).toArray⟩ : ByteArray) = x := (of_bl rfl).symm

/-- What a piece stands for. -/
def txt (ins outs : List Bd) (p : Pc) : List UInt8 :=
  if p.1 then (if bl (getB ins ⟨p.2.toArray⟩) = [] then bl (getB outs ⟨p.2.toArray⟩) else bl (getB ins ⟨p.2.toArray⟩)) else p.2

/-- What pieces stand for. -/
def evT (ins outs : List Bd) (ps : List Pc) : List UInt8 := ps.flatMap (txt ins outs)

def evOk (l : List UInt8) (ins outs : List Bd) : Bool := decide (cutE l = 0) && scOk ins && scOk outs

/-- The value, or none; the number. -/
def evS (l : List UInt8) (ins outs : List Bd) : List UInt8 :=
  if evOk l ins outs && decide ((evT ins outs (cutP l)).length ≤ 256) then evT ins outs (cutP l) else []
def evE (l : List UInt8) (ins outs : List Bd) : Int :=
  if evOk l ins outs then (if (evT ins outs (cutP l)).length ≤ 256 then 0 else 501) else 500

theorem txt_text {ins outs : List Bd} {l : List UInt8} : txt ins outs (false, l) = l := by simp [txt]
theorem txt_of {ins outs : List Bd} {p : Pc} (h : p.1 = false) : txt ins outs p = p.2 := by simp [txt, h]
theorem txt_out {ins outs : List Bd} {p : Pc} (h : p.1 = true) (h0 : bl (getB ins ⟨p.2.toArray⟩) = []) : txt ins outs p = bl (getB outs ⟨p.2.toArray⟩) := by simp [txt, h, h0]
theorem txt_in {ins outs : List Bd} {p : Pc} (h : p.1 = true) (h0 : bl (getB ins ⟨p.2.toArray⟩) ≠ []) : txt ins outs p = bl (getB ins ⟨p.2.toArray⟩) := by simp [txt, h, h0]

theorem evT_nil (ins outs : List Bd) : evT ins outs [] = [] := rfl
theorem evT_app (ins outs : List Bd) (ps qs : List Pc) : evT ins outs (ps ++ qs) = evT ins outs ps ++ evT ins outs qs := by unfold evT; rw [List.flatMap_append]
theorem evT_snoc (ins outs : List Bd) (ps : List Pc) (p : Pc) : evT ins outs (ps ++ [p]) = evT ins outs ps ++ txt ins outs p := by rw [evT_app]; simp [evT]
theorem evT_take (ins outs : List Bd) {ps : List Pc} {k : Nat} {p : Pc} (h : ps[k]? = some p) : evT ins outs (ps.take (k + 1)) = evT ins outs (ps.take k) ++ txt ins outs p := by
  rw [List.take_add_one, h]; exact evT_snoc _ _ _ _
theorem evT_take_le (ins outs : List Bd) (ps : List Pc) (k : Nat) : (evT ins outs (ps.take k)).length ≤ (evT ins outs ps).length := by
  conv => rhs; rw [← List.take_append_drop k ps, evT_app, List.length_append]
  omega

theorem get_size {bs : List Bd} (n : ByteArray) : (bl (getB bs n)).length ≤ 256 := by
  unfold getB
  split
  · rename_i h
    split
    · split
      · rename_i b hb
        rw [bl_size]
        exact (mayBd_size ((scOk_parts h).2 _ b hb).1).2
      · decide
    · decide
  · decide
theorem txt_le {ins outs : List Bd} {n : Nat} {p : Pc} (hn : 256 ≤ n) (h : p.2.length ≤ n) : (txt ins outs p).length ≤ n := by
  unfold txt
  have h1 := get_size (bs := ins) ⟨p.2.toArray⟩
  have h2 := get_size (bs := outs) ⟨p.2.toArray⟩
  split
  · split <;> omega
  · exact h
theorem txt_cut {ins outs : List Bd} {l : List UInt8} {k : Nat} {p : Pc} (h : (cutP l)[k]? = some p) : (txt ins outs p).length ≤ 2064 :=
  txt_le (by omega) ((cutP_facts l).2 p (List.mem_of_getElem? h))

theorem ev_bad {l : List UInt8} {ins outs : List Bd} (h : evOk l ins outs = false) : evS l ins outs = [] ∧ evE l ins outs = 500 := by
  unfold evS evE; rw [h]; exact ⟨rfl, rfl⟩
theorem ev_long {l : List UInt8} {ins outs : List Bd} (h : evOk l ins outs = true) (h2 : 256 < (evT ins outs (cutP l)).length) : evS l ins outs = [] ∧ evE l ins outs = 501 := by
  unfold evS evE; rw [h, if_neg (by simp; omega), if_pos rfl, if_neg (by omega)]; exact ⟨rfl, rfl⟩
theorem ev_good {l : List UInt8} {ins outs : List Bd} (h : evOk l ins outs = true) (h2 : (evT ins outs (cutP l)).length ≤ 256) : evS l ins outs = evT ins outs (cutP l) ∧ evE l ins outs = 0 := by
  unfold evS evE; rw [h, if_pos (by simp; omega), if_pos rfl, if_pos h2]; exact ⟨rfl, rfl⟩
theorem evOk_cut {l : List UInt8} {ins outs : List Bd} (h : cutE l ≠ 0) : evOk l ins outs = false := by unfold evOk; rw [decide_eq_false h]; rfl
theorem evOk_in {l : List UInt8} {ins outs : List Bd} (h : scOk ins = false) : evOk l ins outs = false := by unfold evOk; rw [h]; simp
theorem evOk_out {l : List UInt8} {ins outs : List Bd} (h : scOk outs = false) : evOk l ins outs = false := by unfold evOk; rw [h]; simp
theorem evOk_all {l : List UInt8} {ins outs : List Bd} (h0 : cutE l = 0) (h1 : scOk ins = true) (h2 : scOk outs = true) : evOk l ins outs = true := by unfold evOk; rw [h1, h2, decide_eq_true h0]; rfl

theorem cut_no_or (l : List UInt8) : cutE l = 0 ∨ cutE l = 300 := by unfold cutE; split <;> simp

end Go.Proofs.YtgbegdgacjodcaaGreatDoor

/- Plain facts on manifests, with no program in them: what a text's lines say, one after the other, and the graph that they make; no conditions. -/
namespace Go.Proofs.YtgbegdgacjodcaaGreatDoor
open Go.RowKit

abbrev Tx := List UInt8
/-- An edge: outs, ins, implicit, order, command, deps, pool. -/
abbrev Ed := Ws × Ws × Ws × Ws × Tx × Bool × Tx
abbrev Pl := Tx × Nat
/-- A rule: name, command, deps, pool. -/
abbrev Rl := Tx × Tx × Bool × Tx
abbrev Gr := List Ed × List Pl × Ws
/-- What is under way: nothing, a rule, a pool, a build line (its edge without a command, its rule, its binds). -/
abbrev Un := Option (Rl ⊕ (Pl ⊕ (Ed × Rl × List Bd)))

structure Sm where
  es : List Ed
  ps : List Pl
  ds : Ws
  rs : List Rl
  bs : List Bd
  un : Un

def mkB (l : Tx) : ByteArray := ⟨l.toArray⟩

/-- Cut at the first sign. -/
def ctL (c : UInt8) : Tx → Option (Tx × Tx)
  | [] => none
  | x :: r => if x = c then some ([], r) else (ctL c r).map fun y => (x :: y.1, y.2)

/-- A bind line: its name, its value. -/
def bnL (l : Tx) : Option (Tx × Tx) := match ctL 61 l with
  | none => none
  | some x => if mayL (trL x.1) then some (trL x.1, trL x.2) else none

/-- The first word, what is behind it. -/
def hdL (l : Tx) : Tx × Tx := (ctL 32 l).getD (l, [])

def rlAt (rs : List Rl) (n : Tx) : Option Rl := rs.find? fun r => r.1 == n
def plHas (ps : List Pl) (n : Tx) : Bool := ps.any fun p => p.1 == n

/-- All as paths. -/
def clL : Ws → Option Ws
  | [] => some []
  | x :: r => match cleanL x, clL r with
    | some a, some b => some (a :: b)
    | _, _ => none

/-- A scope's number, here. -/
def rfE (e : Int) : Int := if e = 0 then 0 else if e = 401 then 801 else 800

/-- A bind is set to what a text stands for in the outer scope. -/
def stL (bs ou : List Bd) (k v : Tx) : Except Int (List Bd) :=
  if evE v ou ou ≠ 0 then .error 800 else
  if setE bs (mkB k) (mkB (evS v ou ou)) ≠ 0 then .error (rfE (setE bs (mkB k) (mkB (evS v ou ou)))) else .ok (setB bs (mkB k) (mkB (evS v ou ou)))

def kIn : Tx := [105, 110]
def kOut : Tx := [111, 117, 116]
def kRule : Tx := [114, 117, 108, 101]
def kPool : Tx := [112, 111, 111, 108]
def kBuild : Tx := [98, 117, 105, 108, 100]
def kDefault : Tx := [100, 101, 102, 97, 117, 108, 116]
def kCommand : Tx := [99, 111, 109, 109, 97, 110, 100]
def kDeps : Tx := [100, 101, 112, 115]
def kDepth : Tx := [100, 101, 112, 116, 104]

/-- The inner scope of an edge that is over. -/
def inS (e : Ed) (own : List Bd) : List Bd := setB own (mkB kIn) (mkB (Lib.join e.2.1 [32]))
def inE (e : Ed) (own : List Bd) : Int := setE own (mkB kIn) (mkB (Lib.join e.2.1 [32]))
def ouS (e : Ed) (own : List Bd) : List Bd := setB (inS e own) (mkB kOut) (mkB (Lib.join e.1 [32]))
def ouE (e : Ed) (own : List Bd) : Int := setE (inS e own) (mkB kOut) (mkB (Lib.join e.1 [32]))

/-- The command of an edge that is over. -/
def cmL (e : Ed) (r : Rl) (own ou : List Bd) : Except Int Tx :=
  if inE e own ≠ 0 then .error (rfE (inE e own)) else
  if ouE e own ≠ 0 then .error (rfE (ouE e own)) else
  if evE r.2.1 (ouS e own) ou ≠ 0 ∨ evS r.2.1 (ouS e own) ou = [] then .error 800 else .ok (evS r.2.1 (ouS e own) ou)

def withC (e : Ed) (c : Tx) : Ed := (e.1, e.2.1, e.2.2.1, e.2.2.2.1, c, e.2.2.2.2.2)

/-- What is under way is over. -/
def ovL (s : Sm) : Except Int Sm := match s.un with
  | none => .ok s
  | some (.inl r) => if r.2.1 = [] then .error 800 else .ok ⟨s.es, s.ps, s.ds, s.rs ++ [r], s.bs, none⟩
  | some (.inr (.inl p)) => if p.2 = 0 then .error 800 else .ok ⟨s.es, s.ps ++ [p], s.ds, s.rs, s.bs, none⟩
  | some (.inr (.inr x)) => match cmL x.1 x.2.1 x.2.2 s.bs with
    | .error n => .error n
    | .ok c => .ok ⟨s.es ++ [withC x.1 c], s.ps, s.ds, s.rs, s.bs, none⟩

/-- The depth that a digit tells; 0: none. -/
def dpth : Tx → Nat
  | [c] => if 49 ≤ c.toNat ∧ c.toNat ≤ 56 then c.toNat - 48 else 0
  | _ => 0

/-- What a bind line below a rule tells. -/
def rlT (ps : List Pl) (r : Rl) (k v : Tx) : Option Rl :=
  if k = kCommand ∧ r.2.1 = [] ∧ v ≠ [] then some (r.1, v, r.2.2)
  else if k = kDeps ∧ r.2.2.1 = false ∧ v = [49] then some (r.1, r.2.1, true, r.2.2.2)
  else if k = kPool ∧ r.2.2.2 = [] ∧ plHas ps v = true then some (r.1, r.2.1, r.2.2.1, v)
  else none

/-- What a bind line below the line under way tells. -/
def tkL (s : Sm) (k v : Tx) : Except Int Sm := match s.un with
  | none => .error 800
  | some (.inl r) => match rlT s.ps r k v with
    | none => .error 800
    | some r' => .ok ⟨s.es, s.ps, s.ds, s.rs, s.bs, some (.inl r')⟩
  | some (.inr (.inl p)) => if k = kDepth ∧ p.2 = 0 ∧ dpth v ≠ 0 then .ok ⟨s.es, s.ps, s.ds, s.rs, s.bs, some (.inr (.inl (p.1, dpth v)))⟩ else .error 800
  | some (.inr (.inr x)) => match stL x.2.2 s.bs k v with
    | .error n => .error n
    | .ok own => .ok ⟨s.es, s.ps, s.ds, s.rs, s.bs, some (.inr (.inr (x.1, x.2.1, own)))⟩

def dpL (s : Sm) (l : Tx) : Except Int Sm := match bnL l with
  | none => .error 800
  | some x => tkL s x.1 x.2

/-- The edge of a build line, without its command, and its rule. -/
def edL (rs : List Rl) (l : Tx) : Option (Ed × Rl) := match bdR l with
  | none => none
  | some b => match rlAt rs b.2.1 with
    | none => none
    | some r => match clL b.1, clL b.2.2.1, clL b.2.2.2.1, clL b.2.2.2.2 with
      | some o, some i, some m, some d => some ((o, i, m, d, [], r.2.2.1, r.2.2.2), r)
      | _, _, _, _ => none

def ruL (s : Sm) (n : Tx) : Except Int Sm :=
  if mayL n = false ∨ (rlAt s.rs n).isSome = true then .error 800 else if s.rs.length = 8 then .error 801 else .ok ⟨s.es, s.ps, s.ds, s.rs, s.bs, some (.inl (n, [], false, []))⟩
def poL (s : Sm) (n : Tx) : Except Int Sm :=
  if mayL n = false ∨ plHas s.ps n = true then .error 800 else if s.ps.length = 4 then .error 801 else .ok ⟨s.es, s.ps, s.ds, s.rs, s.bs, some (.inr (.inl (n, 0)))⟩
def buL (s : Sm) (l : Tx) : Except Int Sm := match edL s.rs l with
  | none => .error 800
  | some x => if s.es.length = 16 then .error 801 else .ok ⟨s.es, s.ps, s.ds, s.rs, s.bs, some (.inr (.inr (x.1, x.2, [])))⟩
def deL (s : Sm) (ws : Ws) : Except Int Sm := match clL ws with
  | none => .error 800
  | some ds => if ws = [] then .error 800 else if 8 < s.ds.length + ds.length then .error 801 else .ok ⟨s.es, s.ps, s.ds ++ ds, s.rs, s.bs, none⟩
def biL (s : Sm) (l : Tx) : Except Int Sm := match bnL l with
  | none => .error 800
  | some x => match stL s.bs s.bs x.1 x.2 with
    | .error n => .error n
    | .ok bs => .ok ⟨s.es, s.ps, s.ds, s.rs, bs, none⟩

/-- A line that is not deep, behind what was over. -/
def fwL (s : Sm) (l : Tx) : Except Int Sm :=
  if (hdL l).1 = kRule then ruL s (trL (hdL l).2) else
  if (hdL l).1 = kPool then poL s (trL (hdL l).2) else
  if (hdL l).1 = kBuild then buL s (hdL l).2 else
  if (hdL l).1 = kDefault then deL s (wdL (hdL l).2) else biL s l

def flL (s : Sm) (l : Tx) : Except Int Sm := match ovL s with
  | .error n => .error n
  | .ok s => fwL s l

/-- One line. -/
def liL (s : Sm) (x : Ln) : Except Int Sm := if x.1 then dpL s x.2 else flL s x.2

def lsL : Sm → List Ln → Except Int Sm
  | s, [] => .ok s
  | s, x :: r => match liL s x with
    | .error n => .error n
    | .ok s => lsL s r

def sm0 : Sm := ⟨[], [], [], [], [], none⟩

def grOf (s : Sm) : Gr := (s.es, s.ps, s.ds)

/-- A text's graph, or the number. -/
def mfL (l : Tx) : Except Int Gr := match lnC l with
  | none => .error 800
  | some ls => match lsL sm0 ls with
    | .error n => .error n
    | .ok s => match ovL s with
      | .error n => .error n
      | .ok s => .ok (grOf s)

def gr0 : Gr := ([], [], [])
def mfG (l : Tx) : Gr := match mfL l with | .ok g => g | .error _ => gr0
def mfE (l : Tx) : Int := match mfL l with | .ok _ => 0 | .error n => n

theorem lsL_app (s : Sm) : ∀ (a b : List Ln), lsL s (a ++ b) = match lsL s a with | .error n => .error n | .ok t => lsL t b
  | [], b => rfl
  | x :: r, b => by
    show (match liL s x with | .error n => _ | .ok s => lsL s (r ++ b)) = _
    rw [lsL]
    cases liL s x with
    | error n => rfl
    | ok t => exact lsL_app t r b

end Go.Proofs.YtgbegdgacjodcaaGreatDoor

/- Where the first of a row is that a test takes; a text cut at its first sign: plain facts, no program in them; no conditions. -/
namespace Go.Proofs.YtgbegdgacjodcaaGreatDoor
open Go.RowKit

theorem txt_beq (a : Tx) (n : ByteArray) : ((⟨a.toArray⟩ : ByteArray).toList == n.toList) = (a == bl n) := by rw [bl_toList, bl_toList]; rfl
theorem is_key {k : ByteArray} {l : Tx} (h : bl k = l) : (k.toList == l) = true := by rw [bl_toList, h]; simp
theorem no_key {k : ByteArray} {l : Tx} (h : bl k ≠ l) : (k.toList == l) = false := by rw [bl_toList]; simpa using h
theorem is_keyn {k : ByteArray} {l : Tx} (h : bl k = l) : (k.toList != l) = false := by unfold bne; rw [is_key h]; rfl
theorem no_keyn {k : ByteArray} {l : Tx} (h : bl k ≠ l) : (k.toList != l) = true := by unfold bne; rw [no_key h]; rfl
theorem is_emp {k : ByteArray} (h : bl k = []) : k.toList.isEmpty = true := by rw [bl_toList, h]; rfl
theorem no_emp {k : ByteArray} (h : bl k ≠ []) : k.toList.isEmpty = false := by
  rw [bl_toList]
  cases hb : bl k with
  | nil => exact absurd hb h
  | cons a b => rfl

def ixB {α : Type} (p : α → Bool) (xs : List α) : Int := match xs.findIdx? p with | some k => (k : Int) | none => -1

theorem anyt_succ {α : Type} {xs : List α} {k : Nat} {x : α} (p : α → Bool) (h : xs[k]? = some x) : (xs.take (k + 1)).any p = ((xs.take k).any p || p x) := by
  rw [List.take_add_one, h, List.any_append]; simp
theorem find_at {α : Type} {p : α → Bool} {xs : List α} {k : Nat} {x : α} (h : xs[k]? = some x) (hno : (xs.take k).any p = false) (hx : p x = true) : xs.findIdx? p = some k := by
  obtain ⟨hlt, he⟩ := List.getElem?_eq_some_iff.1 h
  rw [List.findIdx?_eq_some_iff_getElem]
  refine ⟨hlt, by rw [he]; exact hx, ?_⟩
  intro j hj
  have := List.any_eq_false.1 hno xs[j] (by rw [List.mem_take_iff_getElem]; exact ⟨j, by omega, rfl⟩)
  simpa using this
theorem find_no {α : Type} {p : α → Bool} {xs : List α} (hno : xs.any p = false) : xs.findIdx? p = none := by
  rw [List.findIdx?_eq_none_iff]
  intro x hx
  simpa using List.any_eq_false.1 hno x hx
theorem ixB_at {α : Type} {p : α → Bool} {xs : List α} {k : Nat} {x : α} (h : xs[k]? = some x) (hno : (xs.take k).any p = false) (hx : p x = true) : ixB p xs = k := by
  unfold ixB; rw [find_at h hno hx]
theorem ixB_no {α : Type} {p : α → Bool} {xs : List α} (hno : xs.any p = false) : ixB p xs = -1 := by
  unfold ixB; rw [find_no hno]
theorem ixB_dec {α : Type} (p : α → Bool) (xs : List α) : decide (0 ≤ ixB p xs) = xs.any p := by
  unfold ixB
  cases h : xs.findIdx? p with
  | none =>
    rw [List.findIdx?_eq_none_iff] at h
    have : xs.any p = false := by rw [List.any_eq_false]; intro x hx; simpa using h x hx
    rw [this]; rfl
  | some k =>
    rw [List.findIdx?_eq_some_iff_getElem] at h
    obtain ⟨hlt, h1, _⟩ := h
    have : xs.any p = true := List.any_eq_true.2 ⟨xs[k], List.getElem_mem hlt, h1⟩
    rw [this]; simp
/-- The rule of a name, and where it is. -/
theorem rl_none {rs : List Rl} {n : Tx} (h : rlAt rs n = none) : ixB (fun r : Rl => r.1 == n) rs = -1 := by
  refine ixB_no ?_
  rw [List.any_eq_false]
  intro x hx
  exact (List.find?_eq_none.1 h) x hx
theorem rl_some {rs : List Rl} {n : Tx} {r : Rl} (h : rlAt rs n = some r) : ∃ k : Nat, ixB (fun r : Rl => r.1 == n) rs = k ∧ rs[k]? = some r ∧ k < rs.length ∧ r.1 = n := by
  unfold rlAt at h
  rw [List.find?_eq_some_iff_getElem] at h
  obtain ⟨h1, k, hk, he, h2⟩ := h
  refine ⟨k, ?_, by rw [List.getElem?_eq_getElem hk, he], hk, by simpa using h1⟩
  refine ixB_at (x := r) (by rw [List.getElem?_eq_getElem hk, he]) ?_ h1
  rw [List.any_eq_false]
  intro x hx
  rw [List.mem_take_iff_getElem] at hx
  obtain ⟨j, hj, rfl⟩ := hx
  simpa using h2 j (by omega)

theorem ctL_none {d : UInt8} : ∀ {l : Tx}, Lib.indexByte l d = -1 → ctL d l = none
  | [], _ => rfl
  | x :: r, h => by
    have hg := Lib.indexByte_ge r d
    unfold Lib.indexByte at h
    by_cases hx : (x == d) = true
    · rw [if_pos hx] at h; omega
    · rw [if_neg hx] at h
      by_cases h2 : (Lib.indexByte r d == -1) = true
      · have hne : x ≠ d := by simpa using hx
        show (if x = d then _ else _) = _
        rw [if_neg hne, ctL_none (l := r) (by simpa using h2)]; rfl
      · rw [if_neg h2] at h
        have : Lib.indexByte r d ≠ -1 := by simpa using h2
        omega
theorem ctL_some {d : UInt8} : ∀ {l : Tx} {i : Nat}, Lib.indexByte l d = i → ctL d l = some (l.take i, l.drop (i + 1)) ∧ i < l.length
  | [], i, h => by unfold Lib.indexByte at h; omega
  | x :: r, i, h => by
    have hg := Lib.indexByte_ge r d
    unfold Lib.indexByte at h
    by_cases hx : (x == d) = true
    · rw [if_pos hx] at h
      obtain rfl : i = 0 := by omega
      have he : x = d := by simpa using hx
      refine ⟨?_, by simp⟩
      show (if x = d then _ else _) = _
      rw [if_pos he]; rfl
    · rw [if_neg hx] at h
      have hne : x ≠ d := by simpa using hx
      by_cases h2 : (Lib.indexByte r d == -1) = true
      · rw [if_pos h2] at h; omega
      · rw [if_neg h2] at h
        have h3 : Lib.indexByte r d ≠ -1 := by simpa using h2
        obtain ⟨j, hj⟩ : ∃ j : Nat, Lib.indexByte r d = j := ⟨(Lib.indexByte r d).toNat, by omega⟩
        obtain rfl : i = j + 1 := by omega
        obtain ⟨h4, h5⟩ := ctL_some (l := r) hj
        refine ⟨?_, by simp; omega⟩
        show (if x = d then _ else _) = _
        rw [if_neg hne, h4]; rfl

end Go.Proofs.YtgbegdgacjodcaaGreatDoor

/- When a graph may be, when an output stands twice in it, which edge makes one: plain facts, no program in them; no conditions. -/
namespace Go.Proofs.YtgbegdgacjodcaaGreatDoor
open Go.RowKit

abbrev Po := Tx × Int
abbrev Gh := List Ed × List Po × Ws

def pthB (x : Tx) : Bool := cleanL x == some x
def ptsB (ws : Ws) : Bool := decide (ws.length ≤ 8) && ws.all pthB
def pooB (ps : List Po) (n : Tx) : Bool := ps.any fun p => p.1 == n
def cmB (c : Tx) : Bool := plainL c && decide (1 ≤ c.length) && decide (c.length ≤ 256)
def plB (n : Tx) : Bool := n.isEmpty || mayL n
def edOk (e : Ed) : Bool := !e.1.isEmpty && (ptsB e.1 && (ptsB e.2.1 && (ptsB e.2.2.1 && (ptsB e.2.2.2.1 && (cmB e.2.2.2.2.1 && plB e.2.2.2.2.2.2)))))
def edM' (ps : List Po) (e : Ed) : Bool := edOk e && (e.2.2.2.2.2.2.isEmpty || pooB ps e.2.2.2.2.2.2)
def poOk (p : Po) : Bool := mayL p.1 && (decide (1 ≤ p.2) && decide (p.2 ≤ 8))
def plsF : List Po → List Po → Bool
  | _, [] => true
  | seen, p :: r => (poOk p && !pooB seen p.1) && plsF (seen ++ [p]) r
def plsB (ps : List Po) : Bool := decide (ps.length ≤ 4) && plsF [] ps
def esB (ps : List Po) (es : List Ed) : Bool := decide (es.length ≤ 16) && es.all (edM' ps)
def gmB (g : Gh) : Bool := plsB g.2.1 && (ptsB g.2.2 && esB g.2.1 g.1)
def ouL (es : List Ed) : Ws := es.flatMap fun e => e.1
def twB (ws : Ws) : Bool := !decide ws.Nodup
def ckE (g : Gh) : Int := if gmB g then (if twB (ouL g.1) then 901 else 0) else 900
def mkA (es : List Ed) (n : Tx) : Int := ixB (fun e : Ed => e.1.contains n) es

theorem plsF_at {ps : List Po} {k : Nat} {p : Po} (h : ps[k]? = some p) : plsF (ps.take k) (ps.drop k) = ((poOk p && !pooB (ps.take k) p.1) && plsF (ps.take (k + 1)) (ps.drop (k + 1))) := by
  obtain ⟨hlt, he⟩ := List.getElem?_eq_some_iff.1 h
  rw [List.drop_eq_getElem_cons hlt, plsF, he, List.take_add_one, h]
  rfl
theorem plsF_end {ps : List Po} {k : Nat} (h : ps.length ≤ k) : plsF (ps.take k) (ps.drop k) = true := by
  rw [List.drop_eq_nil_of_le h, plsF]
theorem all_succ {α : Type} {xs : List α} {k : Nat} {x : α} (p : α → Bool) (h : xs[k]? = some x) : (xs.take (k + 1)).all p = ((xs.take k).all p && p x) := by
  rw [List.take_add_one, h, List.all_append]; simp
theorem all_no {α : Type} {xs : List α} {k : Nat} {x : α} {p : α → Bool} (h : xs[k]? = some x) (hx : p x = false) : xs.all p = false := by
  rw [List.all_eq_false]
  exact ⟨x, List.mem_of_getElem? h, by simp [hx]⟩
theorem anyn_all {α : Type} (p : α → Bool) (xs : List α) : xs.any (fun x => !p x) = !xs.all p := by
  induction xs with
  | nil => rfl
  | cons x r ih => rw [List.any_cons, List.all_cons, ih]; cases p x <;> rfl
/-- Where the first of a name stands: at k, if none ahead of k has it. -/
theorem poo_at {ps : List Po} {k : Nat} {p : Po} (h : ps[k]? = some p) : (ixB (fun r : Po => r.1 == p.1) ps != (k : Int)) = pooB (ps.take k) p.1 := by
  cases hb : pooB (ps.take k) p.1
  · rw [ixB_at h hb (by simp)]; simp
  · unfold pooB at hb
    obtain ⟨x, hx, hp⟩ := List.any_eq_true.1 hb
    obtain ⟨j, hj, rfl⟩ := List.mem_take_iff_getElem.1 hx
    unfold ixB
    cases hf : ps.findIdx? (fun r : Po => r.1 == p.1) with
    | none => simp
    | some i =>
      rw [List.findIdx?_eq_some_iff_getElem] at hf
      obtain ⟨hi, _, hl⟩ := hf
      have : i ≤ j := by
        rcases Nat.lt_or_ge j i with h1 | h1
        · exact absurd hp (by simpa using hl j h1)
        · exact h1
      simp; omega

/-! sorted, what is the same stands side by side -/
theorem leU_trans (a b c : Tx) (h1 : a ≤ b) (h2 : b ≤ c) : a ≤ c := List.le_trans h1 h2
theorem leU_total (a b : Tx) : a ≤ b ∨ b ≤ a := List.le_total a b
abbrev srt (ws : Ws) : Ws := ws.mergeSort fun x y => decide (x ≤ y)
theorem srt_sorted (ws : Ws) : (srt ws).Pairwise (fun x y => x ≤ y) := by
  have := List.pairwise_mergeSort (le := fun x y : Tx => decide (x ≤ y)) (fun a b c h1 h2 => by simp only [decide_eq_true_eq] at *; exact leU_trans a b c h1 h2) (fun a b => by simp only [Bool.or_eq_true, decide_eq_true_eq]; exact leU_total a b) ws
  exact this.imp (fun h => by simpa using h)
theorem srt_perm (ws : Ws) : (srt ws).Perm ws := List.mergeSort_perm ws _
theorem srt_len (ws : Ws) : (srt ws).length = ws.length := (srt_perm ws).length_eq
theorem srt_two {ws : Ws} {k : Nat} {x : Tx} (h1 : (srt ws)[k]? = some x) (h2 : (srt ws)[k + 1]? = some x) : twB ws = true := by
  unfold twB
  rw [decide_eq_false]
  · rfl
  · intro hn
    have hs : (srt ws).Nodup := (srt_perm ws).nodup_iff.2 hn
    obtain ⟨l1, e1⟩ := List.getElem?_eq_some_iff.1 h1
    obtain ⟨l2, e2⟩ := List.getElem?_eq_some_iff.1 h2
    exact List.pairwise_iff_getElem.1 hs k (k + 1) l1 l2 (by omega) (e1.trans e2.symm)
theorem srt_one {ws : Ws} (h : ∀ k x, (srt ws)[k]? = some x → (srt ws)[k + 1]? ≠ some x) : twB ws = false := by
  have hs := srt_sorted ws
  have hn : (srt ws).Nodup := by
    have key : ∀ (l : Ws), l.Pairwise (fun x y => x ≤ y) → (∀ k x, l[k]? = some x → l[k + 1]? ≠ some x) → l.Nodup := by
      intro l
      induction l with
      | nil => intro _ _; exact List.nodup_nil
      | cons a r ih =>
        intro hp hk
        have hp' := List.pairwise_cons.1 hp
        refine List.nodup_cons.2 ⟨fun hm => ?_, ih hp'.2 (fun k x h1 => hk (k + 1) x (by simpa using h1))⟩
        cases r with
        | nil => cases hm
        | cons b s =>
          have hab := hp'.1 b (by simp)
          have hba : b ≤ a := by
            rcases List.mem_cons.1 hm with e | e
            · rw [e]; exact List.le_refl _
            · exact (List.pairwise_cons.1 hp'.2).1 a e
          have : a = b := List.le_antisymm hab hba
          exact hk 0 a (by simp) (by simp [this])
    exact key _ hs h
  unfold twB
  rw [decide_eq_true ((srt_perm ws).nodup_iff.1 hn)]
  rfl
theorem nodup_snoc (ws : Ws) (x : Tx) : (ws ++ [x]).Nodup ↔ ws.Nodup ∧ x ∉ ws := by
  rw [List.nodup_append]
  constructor
  · rintro ⟨h1, _, h3⟩; exact ⟨h1, fun hx => h3 x hx x (by simp) rfl⟩
  · rintro ⟨h1, h2⟩; exact ⟨h1, by simp, fun a ha b hb => by simp at hb; subst hb; rintro rfl; exact h2 ha⟩
theorem tw_more {a b : Ws} (h : twB a = true) : twB (a ++ b) = true := by
  unfold twB at *
  simp only [Bool.not_eq_true', decide_eq_false_iff_not] at *
  intro hn
  exact h (List.nodup_append.1 hn).1

end Go.Proofs.YtgbegdgacjodcaaGreatDoor

/- What a sign is, how long it is, and that one sign has but one making: plain facts, no program in them; no conditions. -/
namespace Go.Proofs.YtgbegdgacjodcaaGreatDoor
open Go.RowKit

/-- Names with a blank between each two. -/
abbrev jb (ws : Ws) : Tx := Lib.join ws [32]
def tlB (d : Bool) : Tx := if d then [100] else [110]
/-- A sign. -/
def sgL (e : Ed) : Tx := jb e.1 ++ 124 :: (jb e.2.1 ++ 124 :: (jb e.2.2.1 ++ 124 :: (tlB e.2.2.2.2.2.1 ++ 124 :: e.2.2.2.2.1)))
def sgS (e : Ed) : Tx := if edOk e then sgL e else []
def sgE (e : Ed) : Int := if edOk e then 0 else 1100

theorem sg_yes {e : Ed} (h : edOk e = true) : sgS e = sgL e ∧ sgE e = 0 := by unfold sgS sgE; rw [if_pos h, if_pos h]; exact ⟨rfl, rfl⟩
theorem sg_no {e : Ed} (h : edOk e = false) : sgS e = [] ∧ sgE e = 1100 := by
  have : ¬ edOk e = true := by rw [h]; simp
  unfold sgS sgE; rw [if_neg this, if_neg this]; exact ⟨rfl, rfl⟩

theorem sg_five (e : Ed) : Lib.join [jb e.1, jb e.2.1, jb e.2.2.1, tlB e.2.2.2.2.2.1, e.2.2.2.2.1] [124] = sgL e := by
  unfold sgL Lib.join List.intercalate
  simp

theorem pth_may {x : Tx} (h : pthB x = true) : mayL x = true := by
  unfold pthB cleanL at h
  by_cases hc : mayL x = true ∧ x.head? ≠ some 47
  · exact hc.1
  · rw [if_neg hc] at h; simp at h
theorem may_len {x : Tx} (h : mayL x = true) : 1 ≤ x.length ∧ x.length ≤ 16 := by
  unfold mayL at h
  simp at h
  exact ⟨by omega, by omega⟩
theorem may_free {x : Tx} (h : mayL x = true) (c : UInt8) (hc : okb c.toNat = false) : c ∉ x := by
  unfold mayL allOk at h
  rw [Bool.and_eq_true] at h
  intro hm
  have := List.all_eq_true.1 h.2 c hm
  rw [hc] at this; cases this
theorem pts_all {ws : Ws} (h : ptsB ws = true) : ws.length ≤ 8 ∧ ∀ x ∈ ws, pthB x = true := by
  unfold ptsB at h
  rw [Bool.and_eq_true, decide_eq_true_iff] at h
  exact ⟨h.1, fun x hx => List.all_eq_true.1 h.2 x hx⟩
theorem ed_ok {e : Ed} (h : edOk e = true) : e.1 ≠ [] ∧ ptsB e.1 = true ∧ ptsB e.2.1 = true ∧ ptsB e.2.2.1 = true ∧ ptsB e.2.2.2.1 = true ∧ cmB e.2.2.2.2.1 = true ∧ plB e.2.2.2.2.2.2 = true := by
  unfold edOk at h
  simp only [Bool.and_eq_true] at h
  obtain ⟨h0, h1, h2, h3, h4, h5, h6⟩ := h
  exact ⟨fun h => by rw [h] at h0; simp at h0, h1, h2, h3, h4, h5, h6⟩

theorem join_two (x y : Tx) (r : Ws) (c : UInt8) : Lib.join (x :: y :: r) [c] = x ++ c :: Lib.join (y :: r) [c] := by
  rw [Lib.join_cons, Lib.join_cons]
  simp [Lib.joinTail]
theorem join_len (c : UInt8) (m : Nat) : ∀ ws : Ws, (∀ x ∈ ws, x.length ≤ m) → (Lib.join ws [c]).length ≤ ws.length * (m + 1)
  | [], _ => by rw [Lib.join_nil]; simp
  | [x], h => by rw [Lib.join_one]; have := h x (by simp); simp; omega
  | x :: y :: r, h => by
    have h1 := h x (by simp)
    have h2 := join_len c m (y :: r) (fun z hz => h z (by simp [hz]))
    rw [join_two, List.length_append, List.length_cons, List.length_cons (a := x), Nat.add_mul]
    omega
theorem jb_len {ws : Ws} (h : ptsB ws = true) : (jb ws).length ≤ 136 := by
  obtain ⟨h1, h2⟩ := pts_all h
  have := join_len 32 16 ws (fun x hx => (may_len (pth_may (h2 x hx))).2)
  have h3 : ws.length * 17 ≤ 8 * 17 := Nat.mul_le_mul_right _ h1
  unfold jb; omega
theorem cm_len {c : Tx} (h : cmB c = true) : c.length ≤ 256 := by
  unfold cmB at h
  simp at h; omega
theorem tl_len (d : Bool) : (tlB d).length = 1 := by cases d <;> rfl
theorem sg_len {e : Ed} (h : edOk e = true) : (sgL e).length ≤ 700 := by
  obtain ⟨_, h1, h2, h3, _, h5, _⟩ := ed_ok h
  have g1 := jb_len h1
  have g2 := jb_len h2
  have g3 := jb_len h3
  have g5 := cm_len h5
  have g4 := tl_len e.2.2.2.2.2.1
  unfold sgL
  simp only [List.length_append, List.length_cons]
  omega

/-! one sign, one making -/
theorem cut_one (c : UInt8) : ∀ (a b : Tx) {r s : Tx}, c ∉ a → c ∉ b → a ++ c :: r = b ++ c :: s → a = b ∧ r = s
  | [], [], r, s, _, _, h => by simpa using h
  | [], y :: b, r, s, _, hb, h => by
    simp at h
    exact absurd (show c ∈ y :: b by rw [← h.1]; simp) hb
  | x :: a, [], r, s, ha, _, h => by
    simp at h
    exact absurd (show c ∈ x :: a by rw [h.1]; simp) ha
  | x :: a, y :: b, r, s, ha, hb, h => by
    simp at h
    obtain ⟨h1, h2⟩ := cut_one c a b (fun hm => ha (by simp [hm])) (fun hm => hb (by simp [hm])) h.2
    exact ⟨by rw [h.1, h1], h2⟩
theorem join_inj (c : UInt8) : ∀ (a b : Ws), (∀ x ∈ a, c ∉ x ∧ x ≠ []) → (∀ x ∈ b, c ∉ x ∧ x ≠ []) → Lib.join a [c] = Lib.join b [c] → a = b
  | [], [], _, _, _ => rfl
  | [], [y], _, hb, h => by
    rw [Lib.join_nil, Lib.join_one] at h
    exact absurd h.symm (hb y (by simp)).2
  | [], y :: z :: r, _, hb, h => by
    rw [Lib.join_nil, join_two] at h
    simp at h
  | [x], [], ha, _, h => by
    rw [Lib.join_nil, Lib.join_one] at h
    exact absurd h (ha x (by simp)).2
  | x :: z :: r, [], ha, _, h => by
    rw [Lib.join_nil, join_two] at h
    simp at h
  | [x], [y], _, _, h => by rw [Lib.join_one, Lib.join_one] at h; rw [h]
  | [x], y :: z :: r, ha, _, h => by
    rw [Lib.join_one, join_two] at h
    exact absurd (show c ∈ x by rw [h]; simp) (ha x (by simp)).1
  | x :: z :: r, [y], _, hb, h => by
    rw [Lib.join_one, join_two] at h
    exact absurd (show c ∈ y by rw [← h]; simp) (hb y (by simp)).1
  | x :: z :: r, y :: u :: s, ha, hb, h => by
    rw [join_two, join_two] at h
    obtain ⟨h1, h2⟩ := cut_one c x y (ha x (by simp)).1 (hb y (by simp)).1 h
    rw [h1, join_inj c (z :: r) (u :: s) (fun w hw => ha w (by simp [hw])) (fun w hw => hb w (by simp [hw])) h2]
theorem pts_free {ws : Ws} (h : ptsB ws = true) (c : UInt8) (hc : okb c.toNat = false) : ∀ x ∈ ws, c ∉ x ∧ x ≠ [] := by
  intro x hx
  have hm := pth_may ((pts_all h).2 x hx)
  refine ⟨may_free hm c hc, fun h0 => ?_⟩
  have := (may_len hm).1
  rw [h0] at this; simp at this
theorem join_free (c d : UInt8) (hd : d ≠ c) : ∀ ws : Ws, (∀ x ∈ ws, d ∉ x) → d ∉ Lib.join ws [c]
  | [], _ => by rw [Lib.join_nil]; simp
  | [x], h => by rw [Lib.join_one]; exact h x (by simp)
  | x :: y :: r, h => by
    have h1 := h x (by simp)
    have h2 := join_free c d hd (y :: r) (fun z hz => h z (by simp [hz]))
    rw [join_two]
    simp only [List.mem_append, List.mem_cons]
    rintro (h3 | h3 | h3)
    · exact h1 h3
    · exact hd h3
    · exact h2 h3
theorem jb_free {ws : Ws} (h : ptsB ws = true) : (124 : UInt8) ∉ jb ws := join_free 32 124 (by decide) ws (fun x hx => (pts_free h 124 (by decide) x hx).1)
theorem tl_free (d : Bool) : (124 : UInt8) ∉ tlB d := by cases d <;> decide
theorem tl_inj {d d' : Bool} (h : tlB d = tlB d') : d = d' := by cases d <;> cases d' <;> first | rfl | (revert h; decide)

/-- What two edges of one sign have in common. -/
def sgEq (a b : Ed) : Bool := decide (a.1 = b.1) && (decide (a.2.1 = b.2.1) && (decide (a.2.2.1 = b.2.2.1) && ((a.2.2.2.2.2.1 == b.2.2.2.2.2.1) && (a.2.2.2.2.1 == b.2.2.2.2.1))))
theorem sg_inj {a b : Ed} (ha : edOk a = true) (hb : edOk b = true) : (sgL a == sgL b) = sgEq a b := by
  obtain ⟨_, a1, a2, a3, _⟩ := ed_ok ha
  obtain ⟨_, b1, b2, b3, _⟩ := ed_ok hb
  have h32 := fun {ws : Ws} (h : ptsB ws = true) => pts_free h 32 (by decide)
  rw [Bool.eq_iff_iff, beq_iff_eq]
  unfold sgEq
  simp only [Bool.and_eq_true, decide_eq_true_iff, beq_iff_eq]
  constructor
  · intro h
    unfold sgL at h
    obtain ⟨e1, h⟩ := cut_one 124 _ _ (jb_free a1) (jb_free b1) h
    obtain ⟨e2, h⟩ := cut_one 124 _ _ (jb_free a2) (jb_free b2) h
    obtain ⟨e3, h⟩ := cut_one 124 _ _ (jb_free a3) (jb_free b3) h
    obtain ⟨e4, h⟩ := cut_one 124 _ _ (tl_free _) (tl_free _) h
    exact ⟨join_inj 32 _ _ (h32 a1) (h32 b1) e1, join_inj 32 _ _ (h32 a2) (h32 b2) e2, join_inj 32 _ _ (h32 a3) (h32 b3) e3, tl_inj e4, h⟩
  · rintro ⟨e1, e2, e3, e4, e5⟩
    unfold sgL
    rw [e1, e2, e3, e4, e5]

end Go.Proofs.YtgbegdgacjodcaaGreatDoor

/- What a record's line is, what record a line tells, two ways of cutting a line that come to the same: plain facts, no program in them; no conditions. -/
namespace Go.Proofs.YtgbegdgacjodcaaGreatDoor
open Go.RowKit

abbrev Rc := Tx × Int × Tx
def tmB1 (t : Int) : Bool := decide (1 ≤ t) && decide (t ≤ 1048576)
def snB (s : Tx) : Bool := !s.isEmpty && (decide (s.length ≤ 2048) && plainL s)
def rcOk (r : Rc) : Bool := pthB r.1 && (tmB1 r.2.1 && snB r.2.2)

/-! a number's digits -/
def dcF : Nat → Nat → Tx
  | 0, _ => []
  | f + 1, u => if u < 10 then [UInt8.ofNat (48 + u)] else dcF f (u / 10) ++ [UInt8.ofNat (48 + u % 10)]
def dc (t : Int) : Tx := dcF 8 t.toNat

theorem dcF_eq : ∀ (f u : Nat), u < 10 ^ (f + 1) → dcF (f + 1) u = Lib.decDigits u
  | 0, u, h => by
    have h1 : u < 10 := by simpa using h
    rw [dcF, if_pos h1, Lib.decDigits, dif_pos h1]
  | f + 1, u, h => by
    by_cases h1 : u < 10
    · rw [dcF, if_pos h1, Lib.decDigits, dif_pos h1]
    · rw [dcF, if_neg h1, Lib.decDigits, dif_neg h1, dcF_eq f (u / 10) (by rw [Nat.pow_succ] at h; omega)]
theorem dc_itoa {t : Int} (h : tmB1 t = true) : Lib.itoa t = dc t := by
  unfold tmB1 at h
  simp at h
  unfold Lib.itoa dc
  rw [if_neg (by omega), dcF_eq 7 _ (by omega)]
theorem dg_toNat {u : Nat} (h : u < 10) : (UInt8.ofNat (48 + u)).toNat = 48 + u := by
  rw [UInt8.toNat_ofNat']; omega
theorem dcF_dig : ∀ (f u : Nat) (c : UInt8), c ∈ dcF f u → 48 ≤ c.toNat ∧ c.toNat ≤ 57
  | 0, u, c, h => by simp [dcF] at h
  | f + 1, u, c, h => by
    rw [dcF] at h
    by_cases h1 : u < 10
    · rw [if_pos h1] at h
      rw [List.mem_singleton] at h; subst h
      rw [dg_toNat h1]; omega
    · rw [if_neg h1, List.mem_append] at h
      rcases h with h | h
      · exact dcF_dig f _ c h
      · rw [List.mem_singleton] at h; subst h
        rw [dg_toNat (by omega)]; omega
theorem dcF_len : ∀ (f u : Nat), (dcF f u).length ≤ f
  | 0, u => by simp [dcF]
  | f + 1, u => by
    rw [dcF]
    split
    · simp
    · have := dcF_len f (u / 10); simp; omega
theorem dcF_ne (f u : Nat) : dcF (f + 1) u ≠ [] := by
  rw [dcF]; split <;> simp
theorem dec_snoc {l : Tx} {acc n d : Nat} {b : UInt8} (h : Lib.decFrom acc l = some n) (hb : Lib.digitVal b = some d) : Lib.decFrom acc (l ++ [b]) = some (n * 10 + d) := by
  have h1 := Lib.decFrom_take (l ++ [b]) l.length acc n b d (by simpa using h) (by simp) hb
  rw [List.take_of_length_le (by simp)] at h1
  exact h1
theorem dg_val {u : Nat} (h : u < 10) : Lib.digitVal (UInt8.ofNat (48 + u)) = some u := by
  unfold Lib.digitVal
  rw [dg_toNat h, if_pos (by omega)]
  congr 1; omega
theorem dcF_dec : ∀ (f u : Nat), u < 10 ^ (f + 1) → Lib.decFrom 0 (dcF (f + 1) u) = some u
  | 0, u, h => by
    have h1 : u < 10 := by simpa using h
    rw [dcF, if_pos h1, Lib.decFrom, dg_val h1]; simp [Lib.decFrom]
  | f + 1, u, h => by
    by_cases h1 : u < 10
    · rw [dcF, if_pos h1, Lib.decFrom, dg_val h1]; simp [Lib.decFrom]
    · rw [dcF, if_neg h1]
      have := dec_snoc (dcF_dec f (u / 10) (by rw [Nat.pow_succ] at h; omega)) (dg_val (u := u % 10) (by omega))
      rw [this]; congr 1; omega

/-! a number out of its digits -/
def ctN (d : Tx) : Int := match Lib.atoiAll d with | .ok v => v | .range => Lib.atoiSat d | _ => 0
theorem ctN_dc {t : Int} (h : tmB1 t = true) : ctN (dc t) = t := by
  unfold tmB1 at h
  simp at h
  have h1 : t.toNat < 10 ^ 8 := by omega
  have hd := dcF_dec 7 t.toNat h1
  have hl := dcF_len 8 t.toNat
  have hn := dcF_ne 7 t.toNat
  have hg := dcF_dig 8 t.toNat
  unfold ctN dc
  cases e : dcF 8 t.toNat with
  | nil => exact absurd e hn
  | cons c r =>
    rw [e] at hd hl
    have hc := hg c (by rw [e]; simp)
    have hm : Lib.parseMag (c :: r) = .ok t.toNat := by
      rw [Lib.parseMag_short _ (by omega)]
      unfold Lib.decNat
      rw [if_neg (by simp), hd]; rfl
    rw [Lib.atoiAll_plain c r (by omega) (by omega), hm]
    unfold Lib.signless
    simp
    rw [if_neg (by omega)]
    simp; omega

/-! a record's line -/
def rcT (r : Rc) : Tx := r.1 ++ 9 :: (dc r.2.1 ++ 9 :: (r.2.2 ++ [10]))
def lgT (r : Rc) : Tx := if rcOk r then rcT r else []
def lgE (r : Rc) : Int := if rcOk r then 0 else 1300
theorem lg_yes {r : Rc} (h : rcOk r = true) : lgT r = rcT r ∧ lgE r = 0 := by unfold lgT lgE; rw [if_pos h, if_pos h]; exact ⟨rfl, rfl⟩
theorem lg_no {r : Rc} (h : rcOk r = false) : lgT r = [] ∧ lgE r = 1300 := by
  have : ¬ rcOk r = true := by rw [h]; simp
  unfold lgT lgE; rw [if_neg this, if_neg this]; exact ⟨rfl, rfl⟩
theorem rc_parts {r : Rc} (h : rcOk r = true) : pthB r.1 = true ∧ tmB1 r.2.1 = true ∧ snB r.2.2 = true := by
  unfold rcOk at h
  simp only [Bool.and_eq_true] at h
  exact ⟨h.1, h.2.1, h.2.2⟩
theorem sn_parts {s : Tx} (h : snB s = true) : s ≠ [] ∧ s.length ≤ 2048 ∧ plainL s = true := by
  unfold snB at h
  simp only [Bool.and_eq_true] at h
  exact ⟨fun h' => by rw [h'] at h; simp at h, by simpa using h.2.1, h.2.2⟩
theorem plain_free {s : Tx} (h : plainL s = true) (c : UInt8) (hc : c.toNat < 32) : c ∉ s := by
  unfold plainL at h
  intro hm
  have := List.all_eq_true.1 h c hm
  simp at this; omega
theorem dc_free (t : Int) (c : UInt8) (hc : c.toNat < 48) : c ∉ dc t := fun hm => by
  have := dcF_dig 8 t.toNat c hm; omega
theorem dc_len (t : Int) : 1 ≤ (dc t).length ∧ (dc t).length ≤ 8 := by
  refine ⟨?_, dcF_len 8 _⟩
  have := dcF_ne 7 t.toNat
  exact List.length_pos_iff.2 this
theorem rcT_len {r : Rc} (h : rcOk r = true) : (rcT r).length ≤ 2100 := by
  obtain ⟨h1, h2, h3⟩ := rc_parts h
  have g1 := (may_len (pth_may h1)).2
  have g2 := (dc_len r.2.1).2
  have g3 := (sn_parts h3).2.1
  unfold rcT
  simp only [List.length_append, List.length_cons, List.length_nil]
  omega

/-! a line, cut -/
def ctI (l : Tx) : Int := Lib.index l [9]
def ctA (l : Tx) : Tx := (Lib.cut l [9]).1
def ctB (l : Tx) : Tx := (Lib.cut l [9]).2.1
def ctS (l : Tx) : Tx := Lib.trimSuffix l [10]
def cutG (s : Tx) : Rc := (ctA s, ctN (ctA (ctB s)), ctS (ctB (ctB s)))

theorem ix_app : ∀ (a b : Tx) (c : UInt8), c ∉ a → Lib.index (a ++ c :: b) [c] = (a.length : Int)
  | [], b, c, _ => by rw [Lib.index_one]; simp [Lib.indexByte]
  | x :: a, b, c, h => by
    have h1 : c ∉ a := fun hm => h (by simp [hm])
    have h2 : x ≠ c := fun e => h (by simp [e])
    have := ix_app a b c h1
    rw [Lib.index_one] at this ⊢
    rw [List.cons_append, Lib.indexByte, this]
    have h3 : (x == c) = false := by simpa using h2
    have h4 : ((a.length : Int) == -1) = false := by simp
    rw [h3, h4]
    simp
theorem cut_app (a b : Tx) (h : (9 : UInt8) ∉ a) : ctA (a ++ 9 :: b) = a ∧ ctB (a ++ 9 :: b) = b := by
  unfold ctA ctB Lib.cut
  rw [ix_app a b 9 h, if_pos (by omega)]
  simp
theorem trim_app (s : Tx) : ctS (s ++ [10]) = s := by
  unfold ctS Lib.trimSuffix Lib.hasSuffix
  simp
theorem cut_line {r : Rc} (h : rcOk r = true) : cutG (rcT r) = r := by
  obtain ⟨h1, h2, h3⟩ := rc_parts h
  have g1 := cut_app r.1 (dc r.2.1 ++ 9 :: (r.2.2 ++ [10])) (may_free (pth_may h1) 9 (by decide))
  have g2 := cut_app (dc r.2.1) (r.2.2 ++ [10]) (dc_free _ 9 (by decide))
  unfold cutG rcT
  rw [g1.1, g1.2, g2.1, g2.2, ctN_dc h2, trim_app]

/-! a line, sign by sign -/
def stR (st : Int × Rc) (c : UInt8) : Int × Rc :=
  if c = 9 then (st.1 + 1, st.2)
  else if st.1 = 0 then (st.1, (st.2.1 ++ [c], st.2.2.1, st.2.2.2))
  else if st.1 = 1 ∧ 48 ≤ c.toNat ∧ c.toNat ≤ 57 ∧ st.2.2.1 ≤ 1048576 then (st.1, (st.2.1, 10 * st.2.2.1 + ((c.toNat - 48 : Nat) : Int), st.2.2.2))
  else if st.1 = 2 ∧ c ≠ 10 then (st.1, (st.2.1, st.2.2.1, st.2.2.2 ++ [c]))
  else st
def foR (s : Tx) : Int × Rc := s.foldl stR (0, ([], 0, []))

theorem fo_name : ∀ (a : Tx) (o : Tx) (t : Int) (g : Tx), (9 : UInt8) ∉ a → a.foldl stR (0, (o, t, g)) = (0, (o ++ a, t, g))
  | [], o, t, g, _ => by simp
  | x :: a, o, t, g, h => by
    have h1 : (9 : UInt8) ∉ a := fun hm => h (by simp [hm])
    have h2 : x ≠ 9 := fun e => h (by simp [e])
    rw [List.foldl_cons]
    have : stR (0, (o, t, g)) x = (0, (o ++ [x], t, g)) := by unfold stR; rw [if_neg h2]; simp
    rw [this, fo_name a _ t g h1]
    simp
theorem fo_sign : ∀ (a : Tx) (o : Tx) (t : Int) (g : Tx), (9 : UInt8) ∉ a → (10 : UInt8) ∉ a → a.foldl stR (2, (o, t, g)) = (2, (o, t, g ++ a))
  | [], o, t, g, _, _ => by simp
  | x :: a, o, t, g, h, h' => by
    have h1 : (9 : UInt8) ∉ a := fun hm => h (by simp [hm])
    have h2 : x ≠ 9 := fun e => h (by simp [e])
    have h3 : (10 : UInt8) ∉ a := fun hm => h' (by simp [hm])
    have h4 : x ≠ 10 := fun e => h' (by simp [e])
    rw [List.foldl_cons]
    have : stR (2, (o, t, g)) x = (2, (o, t, g ++ [x])) := by
      unfold stR; rw [if_neg h2, if_neg (by simp), if_neg (by simp), if_pos ⟨rfl, h4⟩]
    rw [this, fo_sign a o t _ h1 h3]
    simp
theorem fo_dig : ∀ (f u : Nat) (o g : Tx), u ≤ 1048576 → u < 10 ^ (f + 1) → (dcF (f + 1) u).foldl stR (1, (o, 0, g)) = (1, (o, (u : Int), g)) := by
  intro f
  have one : ∀ (v : Int) (d : Nat) (o g : Tx), d < 10 → v ≤ 1048576 → stR (1, (o, v, g)) (UInt8.ofNat (48 + d)) = (1, (o, 10 * v + (d : Int), g)) := by
    intro v d o g hd hv
    have h0 := dg_toNat hd
    have h2 : UInt8.ofNat (48 + d) ≠ 9 := fun e => by rw [e] at h0; have : (9 : UInt8).toNat = 9 := rfl; omega
    unfold stR
    rw [if_neg h2, if_neg (by simp), if_pos ⟨rfl, by omega, by omega, hv⟩, h0]
    simp
  induction f with
  | zero =>
    intro u o g hu h
    have h1 : u < 10 := by simpa using h
    rw [dcF, if_pos h1, List.foldl_cons, List.foldl_nil, one 0 u o g h1 (by omega)]
    simp
  | succ f ih =>
    intro u o g hu h
    by_cases h1 : u < 10
    · rw [dcF, if_pos h1, List.foldl_cons, List.foldl_nil, one 0 u o g h1 (by omega)]
      simp
    · rw [dcF, if_neg h1, List.foldl_append, ih (u / 10) o g (by omega) (by rw [Nat.pow_succ] at h; omega), List.foldl_cons, List.foldl_nil, one _ (u % 10) o g (by omega) (by omega)]
      congr 3; omega
theorem fo_line {r : Rc} (h : rcOk r = true) : (foR (rcT r)).2 = r := by
  obtain ⟨h1, h2, h3⟩ := rc_parts h
  obtain ⟨_, _, h4⟩ := sn_parts h3
  obtain ⟨o, t, g⟩ := r
  unfold tmB1 at h2
  simp at h2
  have st9 : ∀ (p : Int) (r : Rc), stR (p, r) 9 = (p + 1, r) := fun p r => by unfold stR; simp
  unfold foR rcT dc
  dsimp only at h1 h4 ⊢
  rw [List.foldl_append, fo_name o [] 0 [] (may_free (pth_may h1) 9 (by decide)), List.foldl_cons, st9, List.foldl_append]
  rw [show ((0 : Int) + 1) = 1 from rfl, fo_dig 7 _ _ _ (by omega) (by omega), List.foldl_cons, st9, List.foldl_append]
  rw [show ((1 : Int) + 1) = 2 from rfl, fo_sign g _ _ _ (plain_free h4 9 (by decide)) (plain_free h4 10 (by decide)), List.foldl_cons, List.foldl_nil]
  have : ((t.toNat : Nat) : Int) = t := by omega
  rw [this]
  unfold stR
  simp

/-! what a line tells: whichever way it is cut -/
def gtF (c : Tx → Rc) (s : Tx) : Option Rc := if rcOk (c s) && (rcT (c s) == s) then some (c s) else none
theorem gtF_of {c c' : Tx → Rc} (h : ∀ r, rcOk r = true → c (rcT r) = r) (h' : ∀ r, rcOk r = true → c' (rcT r) = r) (s : Tx) : gtF c s = gtF c' s := by
  have key : ∀ {c c' : Tx → Rc}, (∀ r, rcOk r = true → c' (rcT r) = r) → ∀ r, gtF c s = some r → gtF c' s = some r := by
    intro c c' h' r hr
    unfold gtF at hr
    by_cases hc : (rcOk (c s) && (rcT (c s) == s)) = true
    · rw [if_pos hc] at hr
      cases hr
      rw [Bool.and_eq_true] at hc
      obtain ⟨h1, h2⟩ := hc
      have h2 := eq_of_beq h2
      have h3 := h' (c s) h1
      rw [h2] at h3
      unfold gtF
      rw [h3, h1, h2]
      simp
    · rw [if_neg hc] at hr; cases hr
  cases e : gtF c s with
  | some r => exact (key h' r e).symm
  | none =>
    cases e' : gtF c' s with
    | none => rfl
    | some r => rw [key h r e'] at e; cases e
def gtL (s : Tx) : Option Rc := gtF cutG s
def gtR (s : Tx) : Rc := (gtL s).getD ([], 0, [])
def gtE (s : Tx) : Int := if (gtL s).isSome then 0 else 1300
theorem gt_other (s : Tx) : gtF (fun s => (foR s).2) s = gtL s := gtF_of (fun _ h => fo_line h) (fun _ h => cut_line h) s
theorem gt_line {r : Rc} (h : rcOk r = true) : gtL (rcT r) = some r := by
  unfold gtL gtF
  rw [cut_line h, h]; simp
theorem gt_some {s : Tx} {r : Rc} (h : gtL s = some r) : rcOk r = true ∧ rcT r = s := by
  unfold gtL gtF at h
  split at h
  · rename_i hc
    cases h
    rw [Bool.and_eq_true] at hc
    exact ⟨hc.1, eq_of_beq hc.2⟩
  · cases h
theorem gt_nil : gtL [] = none := by
  cases h : gtL [] with
  | none => rfl
  | some r =>
    have := (gt_some h).2
    unfold rcT at this; simp at this

/-! no line begins another -/
theorem line_end {r : Rc} (h : rcOk r = true) : ∃ b, rcT r = b ++ [10] ∧ (10 : UInt8) ∉ b := by
  obtain ⟨h1, h2, h3⟩ := rc_parts h
  obtain ⟨_, _, h4⟩ := sn_parts h3
  refine ⟨r.1 ++ 9 :: (dc r.2.1 ++ 9 :: r.2.2), by unfold rcT; simp, ?_⟩
  have g1 := may_free (pth_may h1) 10 (by decide)
  have g2 := dc_free r.2.1 10 (by decide)
  have g3 := plain_free h4 10 (by decide)
  simp [g1, g2, g3]
theorem rcT_inj {a b : Rc} (ha : rcOk a = true) (hb : rcOk b = true) (h : rcT a = rcT b) : a = b := by
  have h1 := cut_line ha
  rw [h, cut_line hb] at h1
  exact h1.symm
theorem line_pre {a b : Rc} (ha : rcOk a = true) (hb : rcOk b = true) (h : ∃ x, rcT b = rcT a ++ x) : a = b := by
  obtain ⟨x, h⟩ := h
  obtain ⟨p, e1, h1⟩ := line_end ha
  obtain ⟨q, e2, h2⟩ := line_end hb
  rw [e1, e2] at h
  have h' : p ++ 10 :: x = q ++ 10 :: [] := by simpa using h.symm
  obtain ⟨h3, _⟩ := cut_one 10 p q h1 h2 h'
  exact rcT_inj ha hb (by rw [e1, e2, h3])
theorem un_like {a b : Rc} (ha : rcOk a = true) (hb : rcOk b = true) : ((rcT a).take (min (rcT a).length (rcT b).length) == (rcT b).take (min (rcT a).length (rcT b).length)) = decide (a = b) := by
  by_cases h : a = b
  · subst h; simp
  · rw [decide_eq_false h]
    refine beq_eq_false_iff_ne.2 fun he => h ?_
    rcases Nat.le_total (rcT a).length (rcT b).length with hl | hl
    · rw [Nat.min_eq_left hl, List.take_length] at he
      exact line_pre ha hb ⟨(rcT b).drop (rcT a).length, by rw [he, List.length_take, Nat.min_eq_left hl, List.take_append_drop]⟩
    · rw [Nat.min_eq_right hl, List.take_length] at he
      refine (line_pre hb ha ⟨(rcT a).drop (rcT b).length, ?_⟩).symm
      rw [← he, List.length_take, Nat.min_eq_left hl, List.take_append_drop]

end Go.Proofs.YtgbegdgacjodcaaGreatDoor

/- A log's text, what a text loads, an output's last record, a log compacted: plain facts, no program in them; no conditions. -/
namespace Go.Proofs.YtgbegdgacjodcaaGreatDoor
open Go.RowKit

abbrev Rs := List Rc
def loOk (rs : Rs) : Bool := decide (rs.length ≤ 256) && rs.all rcOk
def loL (rs : Rs) : Tx := rs.flatMap rcT
def loT (rs : Rs) : Tx := if loOk rs then loL rs else []
def loE (rs : Rs) : Int := if loOk rs then 0 else 1400
theorem lo_yes {rs : Rs} (h : loOk rs = true) : loT rs = loL rs ∧ loE rs = 0 := by unfold loT loE; rw [if_pos h, if_pos h]; exact ⟨rfl, rfl⟩
theorem lo_no {rs : Rs} (h : loOk rs = false) : loT rs = [] ∧ loE rs = 1400 := by
  have : ¬ loOk rs = true := by rw [h]; simp
  unfold loT loE; rw [if_neg this, if_neg this]; exact ⟨rfl, rfl⟩
theorem lo_parts {rs : Rs} (h : loOk rs = true) : rs.length ≤ 256 ∧ ∀ r ∈ rs, rcOk r = true := by
  unfold loOk at h
  rw [Bool.and_eq_true, decide_eq_true_iff] at h
  exact ⟨h.1, fun r hr => List.all_eq_true.1 h.2 r hr⟩
theorem lo_of {rs : Rs} (h1 : rs.length ≤ 256) (h2 : ∀ r ∈ rs, rcOk r = true) : loOk rs = true := by
  unfold loOk
  rw [decide_eq_true h1, List.all_eq_true.2 h2]; rfl
theorem loL_app (a b : Rs) : loL (a ++ b) = loL a ++ loL b := by unfold loL; rw [List.flatMap_append]
theorem loL_cons (r : Rc) (a : Rs) : loL (r :: a) = rcT r ++ loL a := by unfold loL; simp
theorem loL_len {rs : Rs} (h : ∀ r ∈ rs, rcOk r = true) : (loL rs).length ≤ rs.length * 2100 := by
  induction rs with
  | nil => simp [loL]
  | cons r a ih =>
    have h1 := rcT_len (h r (by simp))
    have h2 := ih (fun x hx => h x (by simp [hx]))
    rw [loL_cons, List.length_append, List.length_cons, Nat.add_mul]; omega

/-! what a text loads -/
/-- Where the first 10 stands. -/
def nlI : Tx → Option Nat
  | [] => none
  | c :: l => if c = 10 then some 0 else (nlI l).map (· + 1)
theorem nlI_app : ∀ (a b : Tx), (10 : UInt8) ∉ a → nlI (a ++ 10 :: b) = some a.length
  | [], b, _ => by simp [nlI]
  | c :: a, b, h => by
    have h1 : (10 : UInt8) ∉ a := fun hm => h (by simp [hm])
    have h2 : c ≠ 10 := fun e => h (by simp [e])
    rw [List.cons_append, nlI, if_neg h2, nlI_app a b h1]; simp
theorem nlI_none : ∀ {l : Tx}, (10 : UInt8) ∉ l → nlI l = none
  | [], _ => rfl
  | c :: l, h => by
    have h1 : (10 : UInt8) ∉ l := fun hm => h (by simp [hm])
    have h2 : c ≠ 10 := fun e => h (by simp [e])
    rw [nlI, if_neg h2, nlI_none h1]; rfl
theorem nlI_some : ∀ {l : Tx} {k : Nat}, nlI l = some k → k < l.length ∧ (10 : UInt8) ∉ l.take k ∧ l[k]? = some 10
  | [], k, h => by cases h
  | c :: l, k, h => by
    rw [nlI] at h
    by_cases hc : c = 10
    · rw [if_pos hc] at h; cases h; subst hc; exact ⟨by simp, by simp, by simp⟩
    · rw [if_neg hc] at h
      cases e : nlI l with
      | none => rw [e] at h; cases h
      | some j =>
        rw [e] at h; cases h
        obtain ⟨h1, h2, h3⟩ := nlI_some e
        refine ⟨by simp; omega, ?_, by simpa using h3⟩
        rw [List.take_succ_cons]
        intro hm
        rcases List.mem_cons.1 hm with hm | hm
        · exact hc hm.symm
        · exact h2 hm
theorem nlI_mem {l : Tx} (h : nlI l = none) : (10 : UInt8) ∉ l := by
  induction l with
  | nil => simp
  | cons c l ih =>
    rw [nlI] at h
    by_cases hc : c = 10
    · rw [if_pos hc] at h; cases h
    · rw [if_neg hc] at h
      have := ih (by cases e : nlI l with | none => rfl | some j => rw [e] at h; cases h)
      intro hm
      rcases List.mem_cons.1 hm with hm | hm
      · exact hc hm.symm
      · exact this hm
/-- The first line and what is behind it. -/
def fsL (s : Tx) : Option (Rc × Tx) := match nlI s with
  | none => none
  | some k => (gtL (s.take (k + 1))).map fun r => (r, s.drop (k + 1))
def ldN : Nat → Tx → Rs
  | 0, _ => []
  | n + 1, s => match fsL s with
    | none => []
    | some x => x.1 :: ldN n x.2
def ldL (s : Tx) : Rs := ldN 256 s

theorem fs_line {r : Rc} (h : rcOk r = true) (x : Tx) : fsL (rcT r ++ x) = some (r, x) := by
  obtain ⟨b, e, hb⟩ := line_end h
  have e2 : rcT r ++ x = b ++ 10 :: x := by rw [e]; simp
  have hn : nlI (rcT r ++ x) = some b.length := by rw [e2]; exact nlI_app b x hb
  have hl : (rcT r).length = b.length + 1 := by rw [e]; simp
  unfold fsL
  rw [hn]
  show (gtL ((rcT r ++ x).take (b.length + 1))).map _ = _
  rw [← hl, List.take_left, List.drop_left, gt_line h]; rfl
theorem fs_some {s : Tx} {y : Rc × Tx} (h : fsL s = some y) : rcOk y.1 = true ∧ s = rcT y.1 ++ y.2 := by
  unfold fsL at h
  cases e : nlI s with
  | none => rw [e] at h; cases h
  | some k =>
    rw [e] at h
    dsimp only at h
    cases g : gtL (s.take (k + 1)) with
    | none => rw [g] at h; cases h
    | some r =>
      rw [g] at h
      cases h
      obtain ⟨h1, h2⟩ := gt_some g
      exact ⟨h1, by rw [h2, List.take_append_drop]⟩
theorem fs_nil : fsL [] = none := rfl
theorem fs_none {s : Tx} (h : (10 : UInt8) ∉ s) : fsL s = none := by unfold fsL; rw [nlI_none h]
/-- A line that none is told of, whatever is behind it. -/
theorem fs_bad {a : Tx} (h : (10 : UInt8) ∉ a) (hg : gtL (a ++ [10]) = none) (x : Tx) : fsL (a ++ 10 :: x) = none := by
  unfold fsL
  rw [nlI_app a x h]
  show (gtL ((a ++ 10 :: x).take (a.length + 1))).map _ = _
  have : (a ++ 10 :: x).take (a.length + 1) = a ++ [10] := by
    rw [show a ++ 10 :: x = (a ++ [10]) ++ x by simp, show a.length + 1 = (a ++ [10]).length by simp, List.take_left]
  rw [this, hg]; rfl

theorem ld_le : ∀ (n : Nat) (s : Tx), (ldN n s).length ≤ n
  | 0, s => by simp [ldN]
  | n + 1, s => by
    rw [ldN]
    cases fsL s with
    | none => simp
    | some x => have := ld_le n x.2; simp; omega
theorem ld_ok : ∀ (n : Nat) (s : Tx), ∀ r ∈ ldN n s, rcOk r = true
  | 0, s, r, h => by simp [ldN] at h
  | n + 1, s, r, h => by
    rw [ldN] at h
    cases e : fsL s with
    | none => rw [e] at h; cases h
    | some x =>
      rw [e] at h
      rcases List.mem_cons.1 h with h | h
      · rw [h]; exact (fs_some e).1
      · exact ld_ok n x.2 r h
theorem ld_pre : ∀ (n : Nat) (s : Tx), ∃ x, s = loL (ldN n s) ++ x
  | 0, s => ⟨s, rfl⟩
  | n + 1, s => by
    rw [ldN]
    cases e : fsL s with
    | none => exact ⟨s, rfl⟩
    | some y =>
      obtain ⟨x, hx⟩ := ld_pre n y.2
      refine ⟨x, ?_⟩
      show s = loL (y.1 :: ldN n y.2) ++ x
      rw [loL_cons, List.append_assoc, ← hx]
      exact (fs_some e).2
/-- A log's text, and what is behind it. -/
theorem ld_text : ∀ (rs : Rs) (n : Nat) (x : Tx), (∀ r ∈ rs, rcOk r = true) → rs.length ≤ n → ldN n (loL rs ++ x) = rs ++ ldN (n - rs.length) x
  | [], n, x, _, _ => by simp [loL]
  | r :: rs, 0, x, _, h => by simp at h
  | r :: rs, n + 1, x, h, hl => by
    rw [loL_cons, List.append_assoc, ldN, fs_line (h r (by simp)), List.cons_append]
    dsimp only
    rw [ld_text rs n x (fun y hy => h y (by simp [hy])) (by simpa using hl), List.length_cons, Nat.add_sub_add_right]
theorem ld_none {n : Nat} {s : Tx} (h : fsL s = none) : ldN n s = [] := by
  cases n with
  | zero => rfl
  | succ n => rw [ldN, h]
theorem ldL_text {rs : Rs} (h : loOk rs = true) : ldL (loL rs) = rs := by
  obtain ⟨h1, h2⟩ := lo_parts h
  have := ld_text rs 256 [] h2 h1
  rw [List.append_nil] at this
  unfold ldL
  rw [this, ld_none fs_nil, List.append_nil]
/-- Behind what is no line nothing is loaded. -/
theorem ldL_stop {rs : Rs} (h : loOk rs = true) {x : Tx} (hx : fsL x = none) : ldL (loL rs ++ x) = rs := by
  obtain ⟨h1, h2⟩ := lo_parts h
  unfold ldL
  rw [ld_text rs 256 x h2 h1, ld_none hx, List.append_nil]
theorem ldL_may (s : Tx) : loOk (ldL s) = true := lo_of (ld_le 256 s) (ld_ok 256 s)

/-- A text whose first sign stands in no path. -/
theorem fs_odd {c : UInt8} (h : okb c.toNat = false) (x : Tx) : fsL (c :: x) = none := by
  cases e : fsL (c :: x) with
  | none => rfl
  | some y =>
    obtain ⟨h1, h2⟩ := fs_some e
    obtain ⟨h3, _, _⟩ := rc_parts h1
    have h4 := (may_len (pth_may h3)).1
    have h5 := may_free (pth_may h3) c h
    unfold rcT at h2
    cases g : y.1.1 with
    | nil => rw [g] at h4; simp at h4
    | cons d l =>
      rw [g] at h2 h5
      simp at h2
      exact absurd (show c ∈ d :: l by rw [h2.1]; simp) h5
theorem ld_many (n m : Nat) (g : Rc) (hg : rcOk g = true) (h : n ≤ m) : ldN n (loL (List.replicate m g)) = List.replicate n g := by
  have e : List.replicate m g = List.replicate n g ++ List.replicate (m - n) g := by rw [List.replicate_append_replicate]; congr 1; omega
  rw [e, loL_app, ld_text _ n _ (fun r hr => by rw [(List.mem_replicate.1 hr).2]; exact hg) (by simp), List.length_replicate, Nat.sub_self]
  simp [ldN]

/-! a text that was cut -/
def nlC (s : Tx) : Nat := s.count 10
theorem nlC_line {r : Rc} (h : rcOk r = true) : nlC (rcT r) = 1 := by
  obtain ⟨b, e, hb⟩ := line_end h
  unfold nlC
  rw [e, List.count_append, List.count_eq_zero.2 hb]; rfl
theorem pre_line {r : Rc} (h : rcOk r = true) {k : Nat} (hk : k < (rcT r).length) : (10 : UInt8) ∉ (rcT r).take k := by
  obtain ⟨b, e, hb⟩ := line_end h
  rw [e] at hk ⊢
  rw [List.take_append_of_le_length (by simp at hk; omega)]
  exact fun hm => hb (List.mem_of_mem_take hm)
/-- All that is whole ahead of the cut. -/
theorem cut_text : ∀ (rs : Rs) (n k : Nat), (∀ r ∈ rs, rcOk r = true) → rs.length ≤ n → k ≤ (loL rs).length → nlC ((loL rs).take k) ≤ rs.length ∧ ldN n ((loL rs).take k) = rs.take (nlC ((loL rs).take k))
  | [], n, k, _, _, hk => by
    have h0 : (loL []).take k = [] := by simp [loL]
    rw [h0]
    exact ⟨Nat.le_refl _, by rw [ld_none fs_nil]; rfl⟩
  | r :: rs, 0, k, _, h, _ => by simp at h
  | r :: rs, n + 1, k, h, hl, hk => by
    have hr := h r (by simp)
    rw [loL_cons] at hk ⊢
    by_cases hlt : k < (rcT r).length
    · have hp := pre_line hr hlt
      rw [List.take_append_of_le_length (by omega)]
      have h0 : nlC ((rcT r).take k) = 0 := List.count_eq_zero.2 hp
      rw [h0]
      exact ⟨Nat.zero_le _, by rw [ld_none (fs_none hp)]; rfl⟩
    · have hge : (rcT r).length ≤ k := by omega
      obtain ⟨j, rfl⟩ : ∃ j, k = (rcT r).length + j := ⟨k - (rcT r).length, by omega⟩
      rw [List.take_length_add_append]
      have ih := cut_text rs n j (fun y hy => h y (by simp [hy])) (by simpa using hl) (by rw [List.length_append] at hk; omega)
      have hc : nlC (rcT r ++ (loL rs).take j) = nlC ((loL rs).take j) + 1 := by
        have := nlC_line hr
        unfold nlC at *
        rw [List.count_append, this]; omega
      rw [hc, ldN, fs_line hr]
      refine ⟨by simpa using ih.1, ?_⟩
      dsimp only
      rw [ih.2, List.take_succ_cons]

/-! an output's last record -/
def laR (rs : Rs) (n : Tx) : Option Rc := if loOk rs then rs.reverse.find? (fun r => r.1 == n) else none
theorem la_snoc {rs : Rs} {r : Rc} {n : Tx} (h : loOk (rs ++ [r]) = true) : laR (rs ++ [r]) n = if (r.1 == n) = true then some r else laR rs n := by
  have h0 : loOk rs = true := by
    obtain ⟨h1, h2⟩ := lo_parts h
    exact lo_of (by simp at h1; omega) (fun x hx => h2 x (by simp [hx]))
  unfold laR
  rw [if_pos h, if_pos h0, List.reverse_append]
  show (r :: rs.reverse).find? _ = _
  rw [List.find?_cons]
  cases (r.1 == n) <;> simp
theorem la_no {rs : Rs} {n : Tx} (h : loOk rs = false) : laR rs n = none := by
  have : ¬ loOk rs = true := by rw [h]; simp
  unfold laR; rw [if_neg this]

/-! a log compacted -/
def cmR : Rs → Rs
  | [] => []
  | r :: t => if t.any (fun x => x.1 == r.1) then cmR t else r :: cmR t
theorem cm_mem : ∀ {rs : Rs} {r : Rc}, r ∈ cmR rs → r ∈ rs
  | [], r, h => h
  | x :: t, r, h => by
    rw [cmR] at h
    split at h
    · exact List.mem_cons_of_mem _ (cm_mem h)
    · rcases List.mem_cons.1 h with h | h
      · rw [h]; simp
      · exact List.mem_cons_of_mem _ (cm_mem h)
theorem cmR_len : ∀ rs : Rs, (cmR rs).length ≤ rs.length
  | [] => Nat.le_refl _
  | x :: t => by
    have := cmR_len t
    rw [cmR]; split <;> simp <;> omega
theorem cm_ok {rs : Rs} (h : loOk rs = true) : loOk (cmR rs) = true := by
  obtain ⟨h1, h2⟩ := lo_parts h
  exact lo_of (by have := cmR_len rs; omega) (fun r hr => h2 r (cm_mem hr))
theorem cm_out : ∀ {rs : Rs} {n : Tx}, (∃ r ∈ rs, r.1 = n) → ∃ r ∈ cmR rs, r.1 = n
  | [], n, ⟨r, hr, _⟩ => by cases hr
  | x :: t, n, ⟨r, hr, e⟩ => by
    rw [cmR]
    by_cases ha : (t.any fun y => y.1 == x.1) = true
    · rw [if_pos ha]
      apply cm_out
      rcases List.mem_cons.1 hr with h | h
      · subst h
        obtain ⟨y, hy, hyx⟩ := List.any_eq_true.1 ha
        exact ⟨y, hy, by rw [eq_of_beq hyx, e]⟩
      · exact ⟨r, h, e⟩
    · rw [if_neg ha]
      rcases List.mem_cons.1 hr with h | h
      · exact ⟨x, by simp, by rw [← h]; exact e⟩
      · obtain ⟨y, hy, hye⟩ := cm_out ⟨r, h, e⟩
        exact ⟨y, by simp [hy], hye⟩
/-- Of each output one record. -/
theorem cm_one : ∀ rs : Rs, (cmR rs).Pairwise fun a b => a.1 ≠ b.1
  | [] => List.Pairwise.nil
  | x :: t => by
    rw [cmR]
    by_cases ha : (t.any fun y => y.1 == x.1) = true
    · rw [if_pos ha]; exact cm_one t
    · rw [if_neg ha]
      refine List.Pairwise.cons (fun y hy e => ha ?_) (cm_one t)
      exact List.any_eq_true.2 ⟨y, cm_mem hy, by rw [e]; simp⟩
theorem cm_same : ∀ {rs : Rs}, (rs.Pairwise fun a b => a.1 ≠ b.1) → cmR rs = rs
  | [], _ => rfl
  | x :: t, h => by
    have h1 := List.pairwise_cons.1 h
    rw [cmR, if_neg, cm_same h1.2]
    intro ha
    obtain ⟨y, hy, e⟩ := List.any_eq_true.1 ha
    exact h1.1 y hy (eq_of_beq e).symm
theorem cm_again (rs : Rs) : cmR (cmR rs) = cmR rs := cm_same (cm_one rs)
theorem find_app {α : Type} (p : α → Bool) : ∀ (a b : List α), (a ++ b).find? p = (a.find? p).or (b.find? p)
  | [], b => rfl
  | x :: a, b => by
    rw [List.cons_append, List.find?_cons, List.find?_cons]
    cases p x
    · exact find_app p a b
    · rfl
theorem cm_last : ∀ (rs : Rs) (n : Tx), (cmR rs).reverse.find? (fun r => r.1 == n) = rs.reverse.find? (fun r => r.1 == n)
  | [], n => rfl
  | x :: t, n => by
    rw [cmR]
    have ih := cm_last t n
    by_cases ha : (t.any fun y => y.1 == x.1) = true
    · rw [if_pos ha, ih, List.reverse_cons, find_app]
      cases e : t.reverse.find? (fun r => r.1 == n) with
      | some y => rfl
      | none =>
        obtain ⟨y, hy, hyx⟩ := List.any_eq_true.1 ha
        have h1 := List.find?_eq_none.1 e y (by simpa using hy)
        have hx : (x.1 == n) = false := by
          rw [eq_of_beq hyx] at h1; simpa using h1
        simp [hx]
    · rw [if_neg ha, List.reverse_cons, List.reverse_cons, find_app, find_app, ih]
theorem la_cm {rs : Rs} (h : loOk rs = true) (n : Tx) : laR (cmR rs) n = laR rs n := by
  unfold laR
  rw [if_pos h, if_pos (cm_ok h)]
  exact cm_last rs n
theorem la_self {rs : Rs} (h : loOk rs = true) {r : Rc} (hr : r ∈ cmR rs) : laR rs r.1 = some r := by
  rw [← la_cm h]
  unfold laR
  rw [if_pos (cm_ok h)]
  have hone := cm_one rs
  generalize cmR rs = qs at hr hone
  induction qs with
  | nil => cases hr
  | cons x t ih =>
    have h1 := List.pairwise_cons.1 hone
    rw [List.reverse_cons, find_app]
    rcases List.mem_cons.1 hr with e | e
    · subst e
      have : t.reverse.find? (fun y => y.1 == r.1) = none := List.find?_eq_none.2 (fun y hy => by
        have := h1.1 y (by simpa using hy)
        simp; exact fun e => this e.symm)
      rw [this]; simp
    · rw [ih e h1.2]; rfl

/-! the document's own reading of a log compacted: place by place -/
def lasB (rs : Rs) (k : Nat) (r : Rc) : Bool := !(rs.drop (k + 1)).any fun x => x.1 == r.1
theorem cm_at : ∀ (rs : Rs) (k : Nat) (r : Rc), rs[k]? = some r → cmR (rs.drop k) = (if lasB rs k r then [r] else []) ++ cmR (rs.drop (k + 1)) := by
  intro rs k r h
  obtain ⟨hlt, he⟩ := List.getElem?_eq_some_iff.1 h
  rw [List.drop_eq_getElem_cons hlt, cmR, he]
  unfold lasB
  cases ((rs.drop (k + 1)).any fun x => x.1 == r.1) <;> simp

end Go.Proofs.YtgbegdgacjodcaaGreatDoor

/- How a text's first line is found; how the readings of a log go place by place; no program in them; no conditions. -/
namespace Go.Proofs.YtgbegdgacjodcaaGreatDoor
open Go.RowKit

theorem nl_ix : ∀ l : Tx, (nlI l = none ∧ Lib.indexByte l 10 = -1) ∨ ∃ k : Nat, k < l.length ∧ nlI l = some k ∧ Lib.indexByte l 10 = (k : Int)
  | [] => Or.inl ⟨rfl, rfl⟩
  | x :: l => by
    have ih := nl_ix l
    rw [Lib.indexByte, nlI]
    by_cases hx : x = 10
    · rw [if_pos hx, if_pos (by simpa using hx)]; exact Or.inr ⟨0, by simp, rfl, rfl⟩
    · rw [if_neg hx, if_neg (by simpa using hx)]
      rcases ih with ⟨h1, h2⟩ | ⟨k, hk, h1, h2⟩
      · rw [h1, h2]; exact Or.inl ⟨rfl, rfl⟩
      · rw [h1, h2, if_neg (by simp)]
        exact Or.inr ⟨k + 1, by simp; omega, rfl, by omega⟩
/-- How much of the text the next line is. -/
def ldEnd (s : Tx) : Nat := match nlI s with
  | none => 0
  | some k => k + 1
theorem ldEnd_le (s : Tx) : ldEnd s ≤ s.length := by
  unfold ldEnd
  cases h : nlI s with
  | none => exact Nat.zero_le _
  | some k => exact (nlI_some h).1
theorem ldEnd_ix (s : Tx) : Lib.indexByte s 10 + 1 = (ldEnd s : Int) ∧ -1 ≤ Lib.indexByte s 10 := by
  unfold ldEnd
  rcases nl_ix s with ⟨h1, h2⟩ | ⟨k, hk, h1, h2⟩
  · rw [h1, h2]; exact ⟨rfl, by decide⟩
  · rw [h1, h2]; exact ⟨rfl, by omega⟩
theorem ldEnd_at {l : Tx} {k : Nat} (h : l[k]? = some 10) (hn : (10 : UInt8) ∉ l.take k) : ldEnd l = k + 1 := by
  obtain ⟨hlt, hg⟩ := List.getElem?_eq_some_iff.1 h
  have e : l = l.take k ++ 10 :: l.drop (k + 1) := by rw [← hg, ← List.drop_eq_getElem_cons hlt, List.take_append_drop]
  have h2 := nlI_app (l.take k) (l.drop (k + 1)) hn
  rw [← e, List.length_take, Nat.min_eq_left (by omega)] at h2
  unfold ldEnd; rw [h2]
theorem fs_end (s : Tx) : fsL s = (gtL (s.take (ldEnd s))).map fun r => (r, s.drop (ldEnd s)) := by
  unfold fsL ldEnd
  cases h : nlI s with
  | none => rw [List.take_zero, gt_nil]; rfl
  | some k => rfl
theorem gt_two (s : Tx) : (gtE s = 0 ∧ gtL s = some (gtR s)) ∨ (gtE s = 1300 ∧ gtL s = none) := by
  unfold gtE gtR
  cases gtL s with
  | none => exact Or.inr ⟨rfl, rfl⟩
  | some r => exact Or.inl ⟨rfl, rfl⟩
theorem fs_two (s : Tx) : (gtE (s.take (ldEnd s)) = 0 ∧ fsL s = some (gtR (s.take (ldEnd s)), s.drop (ldEnd s))) ∨ (gtE (s.take (ldEnd s)) = 1300 ∧ fsL s = none) := by
  rw [fs_end]
  rcases gt_two (s.take (ldEnd s)) with ⟨h1, h2⟩ | ⟨h1, h2⟩
  · rw [h2]; exact Or.inl ⟨h1, rfl⟩
  · rw [h2]; exact Or.inr ⟨h1, rfl⟩
/-- What is loaded so far, and what is left of the text. -/
def LdS (s0 : Tx) (gs : Rs) (s : Tx) : Prop := ldL s0 = gs ++ ldN (256 - gs.length) s
theorem lds_nil (s : Tx) : LdS s [] s := by unfold LdS ldL; simp
theorem lds_full {s0 s : Tx} {gs : Rs} (h : LdS s0 gs s) (hl : gs.length = 256) : ldL s0 = gs := by
  unfold LdS at h; rw [h, hl]; simp [ldN]
theorem lds_stop {s0 s : Tx} {gs : Rs} (h : LdS s0 gs s) (hf : fsL s = none) : ldL s0 = gs := by
  unfold LdS at h; rw [h, ld_none hf, List.append_nil]
theorem lds_step {s0 s t : Tx} {gs : Rs} {r : Rc} (h : LdS s0 gs s) (hl : gs.length < 256) (hf : fsL s = some (r, t)) : LdS s0 (gs ++ [r]) t := by
  unfold LdS at *
  obtain ⟨n, hn⟩ : ∃ n, 256 - gs.length = n + 1 := ⟨255 - gs.length, by omega⟩
  have hn2 : 256 - (gs ++ [r]).length = n := by simp; omega
  rw [hn, ldN, hf] at h
  rw [hn2, h]; simp
theorem gtR_ok {s : Tx} (h : gtE s = 0) : rcOk (gtR s) = true := by
  rcases gt_two s with ⟨_, h2⟩ | ⟨h1, _⟩
  · exact (gt_some h2).1
  · rw [h1] at h; cases h

/-! the last one of an output -/
def laV (rs : Rs) (n : Tx) : Rc := (laR rs n).getD ([], 0, [])
def laB (rs : Rs) (n : Tx) : Bool := (laR rs n).isSome
theorem lav_no {rs : Rs} {n : Tx} (h : laR rs n = none) : laV rs n = ([], 0, []) ∧ laB rs n = false := by unfold laV laB; rw [h]; exact ⟨rfl, rfl⟩
theorem lav_yes {rs : Rs} {n : Tx} {r : Rc} (h : laR rs n = some r) : laV rs n = r ∧ laB rs n = true := by unfold laV laB; rw [h]; exact ⟨rfl, rfl⟩
/-- Where the last one stands. -/
def PlSays (rs : Rs) (n : Tx) (i : Nat) (b : Bool) : Prop :=
  (b = true ∧ ∃ r, rs[i]? = some r ∧ r.1 = n ∧ ∀ x ∈ rs.drop (i + 1), x.1 ≠ n) ∨ (b = false ∧ i = 0 ∧ ∀ x ∈ rs, x.1 ≠ n)
theorem la_at {rs : Rs} (hok : loOk rs = true) {n : Tx} {i : Nat} {r : Rc} (h : rs[i]? = some r) (he : r.1 = n) (hn : ∀ x ∈ rs.drop (i + 1), x.1 ≠ n) : laR rs n = some r := by
  obtain ⟨hlt, hg⟩ := List.getElem?_eq_some_iff.1 h
  have e : rs = rs.take i ++ r :: rs.drop (i + 1) := by
    rw [← hg, ← List.drop_eq_getElem_cons hlt, List.take_append_drop]
  unfold laR
  rw [if_pos hok]
  conv => lhs; rw [e]
  rw [List.reverse_append, List.reverse_cons, find_app, find_app]
  have h1 : (rs.drop (i + 1)).reverse.find? (fun x => x.1 == n) = none := List.find?_eq_none.2 (fun x hx => by
    have := hn x (by simpa using hx)
    simpa using this)
  rw [h1]
  simp [he]
theorem la_off {rs : Rs} {n : Tx} (hn : ∀ x ∈ rs, x.1 ≠ n) : laR rs n = none := by
  unfold laR
  split
  · exact List.find?_eq_none.2 (fun x hx => by
      have := hn x (by simpa using hx)
      simpa using this)
  · rfl
/-- Of a record of the log: is it the last one of its output? -/
theorem pl_las {rs : Rs} {k i : Nat} {r : Rc} {b : Bool} (h : rs[k]? = some r) (hp : PlSays rs r.1 i b) : (i = k ∧ lasB rs k r = true) ∨ (i ≠ k ∧ lasB rs k r = false) := by
  obtain ⟨hlt, hg⟩ := List.getElem?_eq_some_iff.1 h
  have hm : r ∈ rs := List.mem_of_getElem? h
  rcases hp with ⟨_, x, hx, hxe, hd⟩ | ⟨_, _, hn⟩
  · obtain ⟨hlt2, hg2⟩ := List.getElem?_eq_some_iff.1 hx
    rcases Nat.lt_trichotomy i k with hik | hik | hik
    · have : r ∈ rs.drop (i + 1) := by
        rw [← hg]
        have h1 : (rs.drop (i + 1))[k - (i + 1)]? = some rs[k] := by
          rw [List.getElem?_drop, show i + 1 + (k - (i + 1)) = k by omega, h, hg]
        exact List.mem_of_getElem? h1
      exact absurd rfl (hd r this)
    · left
      refine ⟨hik, ?_⟩
      subst hik
      unfold lasB
      rw [show (rs.drop (i + 1)).any (fun y => y.1 == r.1) = false from List.any_eq_false.2 (fun y hy => by simpa using hd y hy)]
      rfl
    · right
      refine ⟨by omega, ?_⟩
      have : x ∈ rs.drop (k + 1) := by
        have h1 : (rs.drop (k + 1))[i - (k + 1)]? = some x := by
          rw [List.getElem?_drop, show k + 1 + (i - (k + 1)) = i by omega, hx]
        exact List.mem_of_getElem? h1
      unfold lasB
      rw [show (rs.drop (k + 1)).any (fun y => y.1 == r.1) = true from List.any_eq_true.2 ⟨x, this, by simpa using hxe⟩]
      rfl
  · exact absurd rfl (hn r hm)

/-! a log compacted, place by place -/
def cpL (rs : Rs) : Rs := if loOk rs then cmR rs else []
theorem cpl_yes {rs : Rs} (h : loOk rs = true) : cpL rs = cmR rs := by unfold cpL; rw [if_pos h]
theorem cpl_no {rs : Rs} (h : loOk rs = false) : cpL rs = [] := by unfold cpL; rw [h]; rfl
theorem cp_yes {rs gs : Rs} {k : Nat} {r : Rc} (h : rs[k]? = some r) (hl : lasB rs k r = true) (e : cmR rs = gs ++ cmR (rs.drop k)) : cmR rs = (gs ++ [r]) ++ cmR (rs.drop (k + 1)) := by
  rw [e, cm_at rs k r h, hl]; simp
theorem cp_no {rs gs : Rs} {k : Nat} {r : Rc} (h : rs[k]? = some r) (hl : lasB rs k r = false) (e : cmR rs = gs ++ cmR (rs.drop k)) : cmR rs = gs ++ cmR (rs.drop (k + 1)) := by
  rw [e, cm_at rs k r h, hl]; simp
theorem cp_end {rs gs : Rs} {k : Nat} (h : rs.length ≤ k) (e : cmR rs = gs ++ cmR (rs.drop k)) : cmR rs = gs := by
  rw [e, List.drop_of_length_le h]; simp [cmR]
/-- So far none behind has its output. -/
def lasT (rs : Rs) (i k : Nat) (r : Rc) : Bool := !((rs.take k).drop (i + 1)).any fun x => x.1 == r.1
theorem las_new (rs : Rs) (i : Nat) (r : Rc) : lasT rs i (i + 1) r = true := by
  unfold lasT
  rw [List.drop_of_length_le (by rw [List.length_take]; omega)]; rfl
theorem las_step {rs : Rs} {i k : Nat} {r x : Rc} (hik : i + 1 ≤ k) (hx : rs[k]? = some x) : lasT rs i (k + 1) r = (lasT rs i k r && !(x.1 == r.1)) := by
  have hlt := (List.getElem?_eq_some_iff.1 hx).1
  unfold lasT
  rw [List.take_add_one, hx, List.drop_append_of_le_length (by rw [List.length_take]; omega), List.any_append, Bool.not_or]
  simp
theorem las_end {rs : Rs} {i k : Nat} {r : Rc} (h : rs.length ≤ k) : lasT rs i k r = lasB rs i r := by
  unfold lasT lasB
  rw [List.take_of_length_le h]

end Go.Proofs.YtgbegdgacjodcaaGreatDoor
