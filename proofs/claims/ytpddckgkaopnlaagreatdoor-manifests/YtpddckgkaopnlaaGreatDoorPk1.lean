/- Several texts of mine in one: NmPlain, PtPlain, RfPlain, PcPlain, SpPlain, LnPlain, WdPlain, PcMore, StPlain, ScPlain, EvPlain, MfPlain, MfIx, MfLines, MfEq, MfMayPlain, MfAwPlain. -/
import Derived.WalkKit
import Derived.Deep.QuietTactic
import Derived.BigQuiet
import Derived.Lib.Bytealg
import Derived.Lib.IndexLaws
import Derived.Lib.SplitLaws
import Derived.Lib.Join
import Derived.Lib.TrimByte
import Derived.Below
import Derived.OneCell
import Derived.Deep.AppendLies
import Derived.Lib.UnsafeStr
import Derived.Lib.Builder
/- Plain facts on bytes and names, with no program in them: what a name is (one to sixteen bytes, each a small letter, a digit or one of four signs); no conditions. -/
namespace Go.Proofs.YtpddckgkaopnlaaGreatDoor
open Go.RowKit

theorem hide {p : Prop} (h : p) : Hid p := h
theorem unhide {p : Prop} (h : Hid p) : p := h

theorem ret_bool {a b : Bool} (h : a = b) : Ending.returned (.bool a) = .returned (.bool b) := by rw [h]
theorem ret_int {k : IntKind} {a b : Int} (h : a = b) : Ending.returned (.int k a) = .returned (.int k b) := by rw [h]

def okb (c : Int) : Bool := decide (97 ≤ c ∧ c ≤ 122) || decide (48 ≤ c ∧ c ≤ 57) || decide (c = 46) || decide (c = 95) || decide (c = 45) || decide (c = 47)

def smallB (c : Int) : Bool := decide (97 ≤ c ∧ c ≤ 122) || decide (48 ≤ c ∧ c ≤ 57)

def allOk (l : List UInt8) : Bool := l.all fun c => okb c.toNat

def mayB (s : ByteArray) : Bool := decide (1 ≤ s.size) && decide (s.size ≤ 16) && allOk s.data.toList

abbrev Q (w w' : World) : Prop := Below w.heap.size w w'

theorem Q.refl (w : World) : Q w w := Below.refl _ _
theorem Q.trans {a b c : World} (h : Q a b) (k : Q b c) : Q a c := Below.trans h (Below.mono k h.size)
theorem Q.drew {a b : World} (h : Q a b) : Q a b.drew := Below.drew h
theorem Q.alloc {a b : World} (h : Q a b) (o : Obj) : Q a (b.alloc o) := Below.alloc h h.size o

theorem Q.drewN {a b : World} (h : Q a b) (n : Nat) : Q a (b.drewN n) := ⟨h.os, h.tape, h.output, h.size, h.block⟩

theorem signs_index (c : Int) (h0 : 0 ≤ c) (h1 : c ≤ 255) :
    Lib.indexByte [46, 95, 45, 47] c.toNat.toUInt8 = if c = 46 then 0 else if c = 95 then 1 else if c = 45 then 2 else if c = 47 then 3 else -1 := by
  obtain ⟨k, rfl⟩ := Int.eq_ofNat_of_zero_le h0
  have hk : k < 256 := by omega
  clear h0 h1
  revert k
  decide +kernel

theorem okb_not_small (c : Int) (h : smallB c = false) : okb c = (decide (c = 46) || decide (c = 95) || decide (c = 45) || decide (c = 47)) := by
  unfold smallB at h; unfold okb; rw [h]; simp
theorem okb_small (c : Int) (h : smallB c = true) : okb c = true := by
  unfold smallB at h; unfold okb; rw [h]; simp

theorem okb_false (c : Int) (h : okb c = false) : smallB c = false ∧ (c != 46) = true ∧ (c != 95) = true ∧ (c != 45) = true ∧ (c != 47) = true := by
  unfold okb at h; unfold smallB
  simp at h ⊢; omega
theorem okb_true (c : Int) (h : okb c = true) : smallB c = true ∨ (smallB c = false ∧ (c != 46) = false) ∨ (smallB c = false ∧ (c != 46) = true ∧ (c != 95) = false) ∨ (smallB c = false ∧ (c != 46) = true ∧ (c != 95) = true ∧ (c != 45) = false) ∨ (smallB c = false ∧ (c != 46) = true ∧ (c != 95) = true ∧ (c != 45) = true ∧ (c != 47) = false) := by
  unfold okb at h; unfold smallB
  simp at h ⊢; omega

theorem okb_parts (c : Int) : (97 ≤ c ∧ c ≤ 122 ∧ okb c = true) ∨ (¬ 97 ≤ c ∧ 48 ≤ c ∧ c ≤ 57 ∧ okb c = true) ∨ (smallB c = false ∧ c = 46 ∧ okb c = true) ∨ (smallB c = false ∧ ¬ c = 46 ∧ c = 95 ∧ okb c = true)
    ∨ (smallB c = false ∧ ¬ c = 46 ∧ ¬ c = 95 ∧ c = 45 ∧ okb c = true) ∨ (smallB c = false ∧ ¬ c = 46 ∧ ¬ c = 95 ∧ ¬ c = 45 ∧ c = 47 ∧ okb c = true) ∨ (smallB c = false ∧ ¬ c = 46 ∧ ¬ c = 95 ∧ ¬ c = 45 ∧ ¬ c = 47 ∧ okb c = false) := by
  unfold okb smallB
  simp; omega

theorem allOk_nil : allOk [] = true := rfl
theorem allOk_append (a b : List UInt8) : allOk (a ++ b) = (allOk a && allOk b) := by simp [allOk]
theorem take_snoc (s : ByteArray) (k : Nat) (h : k < s.size) : s.data.toList.take (k + 1) = s.data.toList.take k ++ [s[k]] := by
  rw [List.take_succ_eq_append_getElem (by simpa using h)]; rfl
theorem allOk_take_succ (s : ByteArray) (k : Nat) (h : k < s.size) : allOk (s.data.toList.take (k + 1)) = (allOk (s.data.toList.take k) && okb (s[k].toNat : Int)) := by
  rw [take_snoc s k h, allOk_append]; simp [allOk]
theorem allOk_bad (s : ByteArray) (k : Nat) (h : k < s.size) (hb : okb (s[k].toNat : Int) = false) : allOk s.data.toList = false := by
  have := allOk_take_succ s k h
  rw [hb, Bool.and_false] at this
  rw [← List.take_append_drop (k + 1) s.data.toList, allOk_append, this, Bool.false_and]
theorem allOk_full (s : ByteArray) (k : Nat) (h : s.size ≤ k) : allOk (s.data.toList.take k) = allOk s.data.toList := by
  rw [List.take_of_length_le (by simpa using h)]

end Go.Proofs.YtpddckgkaopnlaaGreatDoor

/- Plain facts on paths, with no program in them: a text cut at each slash, the pieces that stay, the path that they make; no conditions. -/
namespace Go.Proofs.YtpddckgkaopnlaaGreatDoor
open Go.RowKit

/-- A text cut at each slash. -/
def sp : List UInt8 → List (List UInt8)
  | [] => [[]]
  | c :: r => if c = 47 then [] :: sp r else (c :: (sp r).headD []) :: (sp r).tail

/-- One piece more, from the left. -/
def kst (ks : List (List UInt8)) (p : List UInt8) : Option (List (List UInt8)) :=
  if p = [] ∨ p = [46] then some ks else if p = [46, 46] then (if ks = [] then none else some ks.dropLast) else some (ks ++ [p])

def kf : List (List UInt8) → List (List UInt8) → Option (List (List UInt8))
  | ks, [] => some ks
  | ks, p :: r => match kst ks p with
    | none => none
    | some k => kf k r

def mayL (l : List UInt8) : Bool := decide (1 ≤ l.length) && decide (l.length ≤ 16) && allOk l

def cleanL (l : List UInt8) : Option (List UInt8) :=
  if mayL l = true ∧ l.head? ≠ some 47 then
    match kf [] (sp l) with
    | none => none
    | some [] => none
    | some (p :: ps) => some (Lib.join (p :: ps) [47])
  else none

def cstr (l : List UInt8) : List UInt8 := (cleanL l).getD []
def cerr (l : List UInt8) : Int := if (cleanL l).isSome then 0 else 200

theorem mayB_mayL (s : ByteArray) : mayB s = mayL s.data.toList := by
  have e : s.size = s.data.toList.length := by rw [Array.length_toList]; rfl
  unfold mayB mayL; rw [e]

theorem sp_ne (l : List UInt8) : sp l ≠ [] := by
  cases l with
  | nil => simp [sp]
  | cons c r => unfold sp; split <;> simp

theorem sp_cons_tail (l : List UInt8) : (sp l).headD [] :: (sp l).tail = sp l := by
  have := sp_ne l
  cases h : sp l with
  | nil => exact absurd h this
  | cons a b => rfl

theorem sp_plain : ∀ (p : List UInt8), (47 : UInt8) ∉ p → sp p = [p]
  | [], _ => rfl
  | c :: r, h => by
    have hc : c ≠ 47 := fun e => h (by simp [e])
    have hr : (47 : UInt8) ∉ r := fun e => h (by simp [e])
    rw [sp, if_neg hc, sp_plain r hr]; rfl

theorem sp_app : ∀ (a b : List UInt8), sp (a ++ 47 :: b) = sp a ++ sp b
  | [], b => by simp [sp]
  | c :: r, b => by
    have ih := sp_app r b
    rw [List.cons_append, sp, sp, ih]
    have hn := sp_ne r
    by_cases hc : c = 47
    · simp [hc]
    · rw [if_neg hc, if_neg hc]
      cases h : sp r with
      | nil => exact absurd h hn
      | cons x y => simp

theorem sp_mem47 : ∀ (l : List UInt8) p, p ∈ sp l → (47 : UInt8) ∉ p
  | [], p, h => by simp [sp] at h; simp [h]
  | c :: r, p, h => by
    have ih := sp_mem47 r
    have hn := sp_cons_tail r
    rw [sp] at h
    by_cases hc : c = 47
    · rw [if_pos hc] at h
      rcases List.mem_cons.1 h with rfl | h
      · simp
      · exact ih p h
    · rw [if_neg hc] at h
      rcases List.mem_cons.1 h with rfl | h
      · intro h47
        rcases List.mem_cons.1 h47 with h47 | h47
        · exact hc h47.symm
        · exact ih ((sp r).headD []) (by rw [← hn]; simp) h47
      · exact ih p (by rw [← hn]; simp [h])

theorem join_snoc (ps : List (List UInt8)) (p : List UInt8) (h : ps ≠ []) : Lib.join (ps ++ [p]) [47] = Lib.join ps [47] ++ 47 :: p := by
  cases ps with
  | nil => exact absurd rfl h
  | cons a r => rw [List.cons_append, Lib.join_cons, Lib.join_cons]; simp [Lib.joinTail]

theorem join_cons2 (p q : List UInt8) (r : List (List UInt8)) : Lib.join (p :: q :: r) [47] = p ++ 47 :: Lib.join (q :: r) [47] := by
  rw [Lib.join_cons, Lib.join_cons]; simp [Lib.joinTail]

theorem sp_join : ∀ (ps : List (List UInt8)), ps ≠ [] → (∀ p ∈ ps, (47 : UInt8) ∉ p) → sp (Lib.join ps [47]) = ps
  | [], h, _ => absurd rfl h
  | [p], _, h => by rw [Lib.join_one]; exact sp_plain p (h p (by simp))
  | p :: q :: r, _, h => by
    rw [join_cons2, sp_app, sp_plain p (h p (by simp)), sp_join (q :: r) (by simp) (fun x hx => h x (List.mem_cons_of_mem _ hx))]
    rfl

/-- How long pieces are, each with a slash behind it. -/
def tot (ps : List (List UInt8)) : Nat := (ps.map fun p => p.length + 1).sum

theorem tot_app (a b : List (List UInt8)) : tot (a ++ b) = tot a + tot b := by simp [tot]
theorem tot_cons (a : List UInt8) (b : List (List UInt8)) : tot (a :: b) = a.length + 1 + tot b := by simp [tot]

theorem tot_one (a : List UInt8) : tot [a] = a.length + 1 := by simp [tot]

theorem tot_sp : ∀ (l : List UInt8), tot (sp l) = l.length + 1
  | [] => by simp [sp, tot]
  | c :: r => by
    have ih := tot_sp r
    have hn := sp_cons_tail r
    rw [sp]
    by_cases hc : c = 47
    · rw [if_pos hc, tot_cons, ih]; simp only [List.length_nil, List.length_cons]; omega
    · rw [if_neg hc, tot_cons]
      rw [← hn, tot_cons] at ih
      simp only [List.length_cons]; omega

theorem tot_join : ∀ (ps : List (List UInt8)), ps ≠ [] → (Lib.join ps [47]).length + 1 = tot ps
  | [], h => absurd rfl h
  | [p], _ => by simp [Lib.join_one, tot]
  | p :: q :: r, _ => by
    have := tot_join (q :: r) (by simp)
    rw [join_cons2, tot_cons]; simp; omega

theorem tot_dropLast (ps : List (List UInt8)) : tot ps.dropLast ≤ tot ps := by
  by_cases h : ps = []
  · simp [h]
  · have e : ps = ps.dropLast ++ [ps.getLast h] := (List.dropLast_concat_getLast h).symm
    have := tot_app ps.dropLast [ps.getLast h]
    rw [← e] at this; omega

/-- Pieces that stay: none is empty, a point, two points; none holds a slash; all bytes are a name's. -/
def Good (ks : List (List UInt8)) : Prop := ∀ p ∈ ks, p ≠ [] ∧ p ≠ [46] ∧ p ≠ [46, 46] ∧ (47 : UInt8) ∉ p ∧ allOk p = true

theorem kst_good {ks : List (List UInt8)} {p : List UInt8} {ks' : List (List UInt8)} (h : kst ks p = some ks') (hk : Good ks) (hp : (47 : UInt8) ∉ p) (ho : allOk p = true) : Good ks' ∧ tot ks' ≤ tot ks + p.length + 1 := by
  unfold kst at h
  split at h
  · cases h; exact ⟨hk, by omega⟩
  · rename_i h1
    split at h
    · split at h
      · cases h
      · cases h
        exact ⟨fun q hq => hk q (List.dropLast_subset _ hq), by have := tot_dropLast ks; omega⟩
    · rename_i h2
      cases h
      refine ⟨?_, by rw [tot_app, tot_cons]; simp only [tot, List.map_nil, List.sum_nil]; omega⟩
      intro q hq
      rcases List.mem_append.1 hq with hq | hq
      · exact hk q hq
      · simp at hq; subst hq
        exact ⟨fun e => h1 (Or.inl e), fun e => h1 (Or.inr e), h2, hp, ho⟩

theorem kf_good : ∀ (ps ks ks' : List (List UInt8)), kf ks ps = some ks' → Good ks → (∀ p ∈ ps, (47 : UInt8) ∉ p) → (∀ p ∈ ps, allOk p = true) → Good ks' ∧ tot ks' ≤ tot ks + tot ps
  | [], ks, ks', h, hk, _, _ => by simp [kf] at h; subst h; exact ⟨hk, by omega⟩
  | p :: r, ks, ks', h, hk, h47, ho => by
    unfold kf at h
    split at h
    · cases h
    · rename_i k hk1
      have g := kst_good hk1 hk (h47 p (by simp)) (ho p (by simp))
      have := kf_good r k ks' h g.1 (fun q hq => h47 q (by simp [hq])) (fun q hq => ho q (by simp [hq]))
      refine ⟨this.1, ?_⟩
      rw [tot_cons]; have := this.2; have := g.2; omega

theorem kf_id : ∀ (ps ks : List (List UInt8)), Good ps → kf ks ps = some (ks ++ ps)
  | [], ks, _ => by simp [kf]
  | p :: r, ks, h => by
    have hp := h p (by simp)
    have e : kst ks p = some (ks ++ [p]) := by
      unfold kst; rw [if_neg (by rintro (e | e); exact hp.1 e; exact hp.2.1 e), if_neg hp.2.2.1]
    unfold kf; rw [e]
    show kf (ks ++ [p]) r = _
    rw [kf_id r _ (fun q hq => h q (by simp [hq]))]; simp

theorem kf_app : ∀ (a b ks : List (List UInt8)), kf ks (a ++ b) = match kf ks a with | none => none | some k => kf k b
  | [], b, ks => rfl
  | p :: r, b, ks => by
    rw [List.cons_append, kf, kf]
    cases kst ks p with
    | none => rfl
    | some k => exact kf_app r b k

theorem kf_snoc {a : List (List UInt8)} {p : List UInt8} {ks k k' : List (List UInt8)} (h : kf ks a = some k) (h' : kst k p = some k') : kf ks (a ++ [p]) = some k' := by
  rw [kf_app, h]; show kf k [p] = _; unfold kf; rw [h']; rfl

theorem kf_fail {a b : List (List UInt8)} {p : List UInt8} {ks k : List (List UInt8)} (h : kf ks a = some k) (h' : kst k p = none) : kf ks (a ++ p :: b) = none := by
  rw [kf_app, h]; show kf k (p :: b) = _; unfold kf; rw [h']

theorem allOk_mem : ∀ (l : List UInt8) p, p ∈ sp l → allOk l = true → allOk p = true
  | [], p, h, _ => by simp [sp] at h; subst h; rfl
  | c :: r, p, h, ho => by
    have ih := allOk_mem r
    have hn := sp_cons_tail r
    have ho2 : okb c.toNat = true ∧ allOk r = true := by simpa [allOk] using ho
    rw [sp] at h
    by_cases hc : c = 47
    · rw [if_pos hc] at h
      rcases List.mem_cons.1 h with rfl | h
      · rfl
      · exact ih p h ho2.2
    · rw [if_neg hc] at h
      rcases List.mem_cons.1 h with rfl | h
      · have := ih ((sp r).headD []) (by rw [← hn]; simp) ho2.2
        have e : allOk (c :: (sp r).headD []) = (okb c.toNat && allOk ((sp r).headD [])) := by simp [allOk]
        rw [e, ho2.1, this]; rfl
      · exact ih p (by rw [← hn]; simp [h]) ho2.2

theorem join_allOk : ∀ (ps : List (List UInt8)), (∀ p ∈ ps, allOk p = true) → allOk (Lib.join ps [47]) = true
  | [], _ => rfl
  | [p], h => by rw [Lib.join_one]; exact h p (by simp)
  | p :: q :: r, h => by
    have ih := join_allOk (q :: r) (fun x hx => h x (List.mem_cons_of_mem _ hx))
    rw [join_cons2, allOk_append, h p (by simp)]
    have e : allOk (47 :: Lib.join (q :: r) [47]) = (okb (47 : UInt8).toNat && allOk (Lib.join (q :: r) [47])) := by simp [allOk]
    rw [e, ih]; rfl

/-- What is told: pieces, joined. -/
theorem clean_some {l a : List UInt8} (h : cleanL l = some a) : ∃ ks, ks ≠ [] ∧ Good ks ∧ a = Lib.join ks [47] ∧ kf [] (sp l) = some ks ∧ tot ks ≤ l.length + 1 ∧ l.length ≤ 16 := by
  unfold cleanL at h
  split at h
  · rename_i h1
    split at h
    · cases h
    · cases h
    · rename_i p ps hk
      cases h
      have hm := h1.1
      have ho : allOk l = true := by unfold mayL at hm; simp at hm; exact hm.2
      have hl : l.length ≤ 16 := by unfold mayL at hm; simp at hm; exact hm.1.2
      have g := kf_good (sp l) [] (p :: ps) hk (fun q hq => by simp at hq) (sp_mem47 l) (fun q hq => allOk_mem l q hq ho)
      exact ⟨p :: ps, by simp, g.1, rfl, hk, by have := g.2; rw [tot_sp] at this; simp [tot] at this ⊢; omega, hl⟩
  · cases h

/-- Pieces, joined, that are no longer than a name: they are a path. -/
theorem clean_join {ks : List (List UInt8)} (h0 : ks ≠ []) (hg : Good ks) (hl : tot ks ≤ 17) : cleanL (Lib.join ks [47]) = some (Lib.join ks [47]) := by
  have h47 := fun p hp => (hg p hp).2.2.2.1
  have ht := tot_join ks h0
  cases ks with
  | nil => exact absurd rfl h0
  | cons p ps =>
    have hp := hg p (by simp)
    have e : Lib.join (p :: ps) [47] = p ++ Lib.joinTail [47] ps := Lib.join_cons p ps [47]
    have hh : (Lib.join (p :: ps) [47]).head? ≠ some 47 := by
      cases p with
      | nil => exact absurd rfl hp.1
      | cons c r => rw [e]; simp; intro e47; exact hp.2.2.2.1 (by simp [e47])
    have h1 : 1 ≤ (Lib.join (p :: ps) [47]).length := by
      cases p with
      | nil => exact absurd rfl hp.1
      | cons c r => rw [e]; simp
    have hm : mayL (Lib.join (p :: ps) [47]) = true := by
      unfold mayL
      rw [join_allOk _ (fun q hq => (hg q hq).2.2.2.2)]
      simp; omega
    unfold cleanL
    rw [if_pos ⟨hm, hh⟩, sp_join _ h0 h47, kf_id _ _ hg]
    rfl

theorem clean_again {l a : List UInt8} (h : cleanL l = some a) : cleanL a = some a := by
  obtain ⟨ks, h0, hg, rfl, _, ht, hl⟩ := clean_some h
  exact clean_join h0 hg (by omega)

theorem clean_le {l a : List UInt8} (h : cleanL l = some a) : a.length ≤ l.length ∧ l.length ≤ 16 ∧ a ≠ [] := by
  obtain ⟨ks, h0, hg, rfl, _, ht, hl⟩ := clean_some h
  have := tot_join ks h0
  refine ⟨by omega, hl, ?_⟩
  cases ks with
  | nil => exact absurd rfl h0
  | cons p ps =>
    have hp := hg p (by simp)
    rw [Lib.join_cons]
    intro e
    exact hp.1 (List.append_eq_nil_iff.1 e).1

theorem index47_none (l : List UInt8) (h : Lib.index l [47] = -1) : (47 : UInt8) ∉ l := by
  induction l with
  | nil => simp
  | cons c r ih =>
    rw [Lib.index] at h
    split at h
    · omega
    · rename_i h1
      split at h
      · rename_i h2
        have := ih (beq_iff_eq.1 h2)
        intro h47
        rcases List.mem_cons.1 h47 with e | e
        · subst e; simp [List.isPrefixOf] at h1
        · exact this e
      · have := Lib.index_ge r [47]; omega

theorem index47_some (l : List UInt8) (i : Nat) (h : Lib.index l [47] = i) : l = l.take i ++ 47 :: l.drop (i + 1) ∧ (47 : UInt8) ∉ l.take i := by
  induction l generalizing i with
  | nil => exact absurd h (by unfold Lib.index; simp)
  | cons c r ih =>
    rw [Lib.index] at h
    split at h
    · rename_i h1
      have e : i = 0 := by omega
      subst e
      have hc : c = 47 := by simp [List.isPrefixOf] at h1; exact h1.symm
      subst hc; simp
    · rename_i h1
      split at h
      · omega
      · have hg := Lib.index_ge r [47]
        obtain ⟨j, rfl⟩ : ∃ j, i = j + 1 := ⟨i - 1, by rename_i h2; have : Lib.index r [47] ≠ -1 := fun e => h2 (beq_iff_eq.2 e); omega⟩
        have := ih j (by omega)
        have hc : c ≠ 47 := fun e => by subst e; simp [List.isPrefixOf] at h1
        refine ⟨?_, ?_⟩
        · rw [List.take_succ_cons, List.drop_succ_cons, List.cons_append, ← this.1]
        · rw [List.take_succ_cons]; intro h47
          rcases List.mem_cons.1 h47 with e | e
          · exact hc e.symm
          · exact this.2 e

theorem splitK_sp : ∀ (k : Nat) (l : List UInt8), Lib.count l [47] = k → Lib.splitK [47] 0 k l = sp l
  | 0, l, h => by
    by_cases hi : Lib.index l [47] = -1
    · rw [sp_plain l (index47_none l hi)]; rfl
    · have hg := Lib.index_ge l [47]
      obtain ⟨i, hi'⟩ : ∃ i : Nat, Lib.index l [47] = i := ⟨(Lib.index l [47]).toNat, by omega⟩
      rw [Lib.count_hit (by simp) hi'] at h; omega
  | k + 1, l, h => by
    by_cases hi : Lib.index l [47] = -1
    · rw [Lib.count_miss hi] at h; omega
    · have hg := Lib.index_ge l [47]
      obtain ⟨i, hi'⟩ : ∃ i : Nat, Lib.index l [47] = i := ⟨(Lib.index l [47]).toNat, by omega⟩
      have hc := Lib.count_hit (sub := [47]) (by simp) hi'
      have e := index47_some l i hi'
      rw [Lib.splitK, if_neg (fun e => hi (beq_iff_eq.1 e)), hi']
      have ih := splitK_sp k (l.drop (i + 1)) (by simp at hc; omega)
      simp only [Int.toNat_natCast, Nat.add_zero, List.length_cons, List.length_nil, Nat.zero_add]
      rw [ih]
      conv => rhs; rw [e.1]
      rw [sp_app, sp_plain _ e.2]; rfl

theorem splitB_sp (s : ByteArray) : (Lib.splitB ⟨#[47]⟩ 0 (Lib.countB s ⟨#[47]⟩) s).map (·.data.toList) = sp s.data.toList := by
  rw [Lib.splitB_data]; exact splitK_sp _ _ rfl

theorem clean_of_pieces {ps ks : List (List UInt8)} (h0 : ps ≠ []) (hh : ps.head? ≠ some []) (h47 : ∀ p ∈ ps, (47 : UInt8) ∉ p) (hok : ∀ p ∈ ps, allOk p = true) (ht : tot ps ≤ 17)
    (hk : kf [] ps = some ks) (hne : ks ≠ []) : cleanL (Lib.join ps [47]) = some (Lib.join ks [47]) := by
  have htj := tot_join ps h0
  have hsp := sp_join ps h0 h47
  cases ps with
  | nil => exact absurd rfl h0
  | cons p r =>
    cases p with
    | nil => exact absurd rfl hh
    | cons c q =>
      have e : Lib.join ((c :: q) :: r) [47] = (c :: q) ++ Lib.joinTail [47] r := Lib.join_cons (c :: q) r [47]
      have hh2 : (Lib.join ((c :: q) :: r) [47]).head? ≠ some 47 := by
        rw [e]; simp; intro e47; exact h47 (c :: q) (by simp) (by simp [e47])
      have h1 : 1 ≤ (Lib.join ((c :: q) :: r) [47]).length := by rw [e]; simp
      have hm : mayL (Lib.join ((c :: q) :: r) [47]) = true := by
        unfold mayL
        rw [join_allOk _ hok]
        simp; omega
      unfold cleanL
      rw [if_pos ⟨hm, hh2⟩, hsp, hk]
      cases ks with
      | nil => exact absurd rfl hne
      | cons a b => rfl

theorem clean_of_cleanL {l a : List UInt8} (h : cleanL l = some a) : cstr l = a ∧ cerr l = 0 := by
  unfold cstr cerr; rw [h]; exact ⟨rfl, rfl⟩
theorem clean_of_none {l : List UInt8} (h : cleanL l = none) : cstr l = [] ∧ cerr l = 200 := by
  unfold cstr cerr; rw [h]; exact ⟨rfl, rfl⟩

theorem clean_cases (l : List UInt8) : (cleanL l = none ∧ cstr l = [] ∧ cerr l = 200) ∨ ∃ a, cleanL l = some a ∧ cstr l = a ∧ cerr l = 0 ∧ cstr a = a ∧ cerr a = 0 ∧ a.length ≤ 16 := by
  cases h : cleanL l with
  | none => exact Or.inl ⟨rfl, clean_of_none h⟩
  | some a =>
    have h2 := clean_again h
    have h3 := clean_le h
    exact Or.inr ⟨a, rfl, (clean_of_cleanL h).1, (clean_of_cleanL h).2, (clean_of_cleanL h2).1, (clean_of_cleanL h2).2, by omega⟩

theorem Good.ok {ks : List (List UInt8)} (h : Good ks) : ∀ p ∈ ks, allOk p = true := fun p hp => (h p hp).2.2.2.2
theorem Good.no47 {ks : List (List UInt8)} (h : Good ks) : ∀ p ∈ ks, (47 : UInt8) ∉ p := fun p hp => (h p hp).2.2.2.1

/-- Points, and a name and a way back, turn nothing. -/
theorem dots {l a : List UInt8} (h : cleanL l = some a) (h9 : a.length ≤ 9) :
    cleanL ([46, 47] ++ a) = some a ∧ cleanL (a ++ [47, 46]) = some a ∧ cleanL (a ++ [47]) = some a ∧ cleanL ([120, 47, 46, 46, 47] ++ a) = some a ∧ cleanL (a ++ [47, 120, 47, 46, 46]) = some a ∧ cleanL (a ++ [47, 47, 46]) = some a := by
  obtain ⟨ks, h0, hg, rfl, _, _, _⟩ := clean_some h
  have ht := tot_join ks h0
  have hid := kf_id ks [] hg
  rw [List.nil_append] at hid
  have hh : ks.head? ≠ some [] := by
    cases ks with
    | nil => simp
    | cons p r => simp; exact (hg p (by simp)).1
  have hhs : ∀ r, (ks ++ r).head? ≠ some [] := by
    intro r
    cases ks with
    | nil => exact absurd rfl h0
    | cons p q => simpa using hh
  have nil_ok : allOk [] = true := rfl
  have dot_ok : allOk [46] = true := by decide
  have dots_ok : allOk [46, 46] = true := by decide
  have x_ok : allOk [120] = true := by decide
  obtain ⟨p, r, rfl⟩ : ∃ p r, ks = p :: r := by
    cases ks with
    | nil => exact absurd rfl h0
    | cons p r => exact ⟨p, r, rfl⟩
  refine ⟨?_, ?_, ?_, ?_, ?_, ?_⟩
  · have e : [46, 47] ++ Lib.join (p :: r) [47] = Lib.join ([46] :: p :: r) [47] := by rw [join_cons2]; rfl
    rw [e]
    refine clean_of_pieces (by simp) (by simp) ?_ ?_ ?_ ?_ h0
    · intro q hq; rcases List.mem_cons.1 hq with rfl | hq; decide; exact hg.no47 q hq
    · intro q hq; rcases List.mem_cons.1 hq with rfl | hq; exact dot_ok; exact hg.ok q hq
    · rw [tot_cons]; simp only [List.length_cons, List.length_nil]; omega
    · exact hid
  · have e : Lib.join (p :: r) [47] ++ [47, 46] = Lib.join ((p :: r) ++ [[46]]) [47] := by rw [join_snoc _ _ h0]
    rw [e]
    refine clean_of_pieces (by simp) (hhs _) ?_ ?_ ?_ ?_ h0
    · intro q hq; rcases List.mem_append.1 hq with hq | hq; exact hg.no47 q hq; simp at hq; subst hq; decide
    · intro q hq; rcases List.mem_append.1 hq with hq | hq; exact hg.ok q hq; simp at hq; subst hq; exact dot_ok
    · rw [tot_app, tot_one]; simp only [List.length_cons, List.length_nil]; omega
    · exact kf_snoc hid (by simp [kst])
  · have e : Lib.join (p :: r) [47] ++ [47] = Lib.join ((p :: r) ++ [[]]) [47] := by rw [join_snoc _ _ h0]
    rw [e]
    refine clean_of_pieces (by simp) (hhs _) ?_ ?_ ?_ ?_ h0
    · intro q hq; rcases List.mem_append.1 hq with hq | hq; exact hg.no47 q hq; simp at hq; subst hq; decide
    · intro q hq; rcases List.mem_append.1 hq with hq | hq; exact hg.ok q hq; simp at hq; subst hq; exact nil_ok
    · rw [tot_app, tot_one]; simp only [List.length_nil]; omega
    · exact kf_snoc hid (by simp [kst])
  · have e : [120, 47, 46, 46, 47] ++ Lib.join (p :: r) [47] = Lib.join ([120] :: [46, 46] :: p :: r) [47] := by rw [join_cons2, join_cons2]; rfl
    rw [e]
    refine clean_of_pieces (by simp) (by simp) ?_ ?_ ?_ ?_ h0
    · intro q hq; rcases List.mem_cons.1 hq with rfl | hq; decide; rcases List.mem_cons.1 hq with rfl | hq; decide; exact hg.no47 q hq
    · intro q hq; rcases List.mem_cons.1 hq with rfl | hq; exact x_ok; rcases List.mem_cons.1 hq with rfl | hq; exact dots_ok; exact hg.ok q hq
    · rw [tot_cons, tot_cons]; simp only [List.length_cons, List.length_nil]; omega
    · exact hid
  · have e : Lib.join (p :: r) [47] ++ [47, 120, 47, 46, 46] = Lib.join (((p :: r) ++ [[120]]) ++ [[46, 46]]) [47] := by rw [join_snoc _ _ (by simp), join_snoc _ _ h0]; simp
    rw [e]
    refine clean_of_pieces (by simp) (by rw [List.append_assoc]; exact hhs _) ?_ ?_ ?_ ?_ h0
    · intro q hq; rcases List.mem_append.1 hq with hq | hq; rcases List.mem_append.1 hq with hq | hq; exact hg.no47 q hq; simp at hq; subst hq; decide; simp at hq; subst hq; decide
    · intro q hq; rcases List.mem_append.1 hq with hq | hq; rcases List.mem_append.1 hq with hq | hq; exact hg.ok q hq; simp at hq; subst hq; exact x_ok; simp at hq; subst hq; exact dots_ok
    · rw [tot_app, tot_app, tot_one, tot_one]; simp only [List.length_cons, List.length_nil]; omega
    · have k1 : kf [] ((p :: r) ++ [[120]]) = some ((p :: r) ++ [[120]]) := kf_snoc hid (by simp [kst])
      refine kf_snoc k1 ?_
      unfold kst; rw [if_neg (by decide), if_pos rfl, if_neg (by simp), List.dropLast_concat]
  · have e : Lib.join (p :: r) [47] ++ [47, 47, 46] = Lib.join (((p :: r) ++ [[]]) ++ [[46]]) [47] := by rw [join_snoc _ _ (by simp), join_snoc _ _ h0]; simp
    rw [e]
    refine clean_of_pieces (by simp) (by rw [List.append_assoc]; exact hhs _) ?_ ?_ ?_ ?_ h0
    · intro q hq; rcases List.mem_append.1 hq with hq | hq; rcases List.mem_append.1 hq with hq | hq; exact hg.no47 q hq; simp at hq; subst hq; decide; simp at hq; subst hq; decide
    · intro q hq; rcases List.mem_append.1 hq with hq | hq; rcases List.mem_append.1 hq with hq | hq; exact hg.ok q hq; simp at hq; subst hq; exact nil_ok; simp at hq; subst hq; exact dot_ok
    · rw [tot_app, tot_app, tot_one, tot_one]; simp only [List.length_cons, List.length_nil]; omega
    · have k1 : kf [] ((p :: r) ++ [[]]) = some (p :: r) := kf_snoc hid (by simp [kst])
      exact kf_snoc k1 (by simp [kst])

end Go.Proofs.YtpddckgkaopnlaaGreatDoor

/- Plain facts on texts that are cut at a sign and joined, with no program in them; no conditions. -/
namespace Go.Proofs.YtpddckgkaopnlaaGreatDoor
open Go.RowKit

def bl (x : ByteArray) : List UInt8 := x.data.toList

theorem bl_toList (x : ByteArray) : x.toList = bl x := Lib.toList_data x
theorem bl_size (x : ByteArray) : (bl x).length = x.size := by unfold bl; rw [Array.length_toList]; rfl
theorem of_bl {t : ByteArray} {l : List UInt8} (h : bl t = l) : t = ⟨l.toArray⟩ := by
  obtain ⟨⟨d⟩⟩ := t; unfold bl at h; subst h; rfl
theorem bl_mk (l : List UInt8) : bl ⟨l.toArray⟩ = l := rfl
theorem bl_app (a b : ByteArray) : bl (a ++ b) = bl a ++ bl b := by unfold bl; rw [ByteArray.data_append, Array.toList_append]
theorem bl_extract (s : ByteArray) (a b : Nat) : bl (s.extract a b) = ((bl s).take b).drop a := by
  unfold bl; rw [Lib.extract_data, List.drop_take]
theorem bl_getElem (s : ByteArray) (k : Nat) (h : k < s.size) : (bl s)[k]? = some s[k] := Lib.data_getElem? s k h

/-- A text cut at each sign d. -/
def spc (d : UInt8) : List UInt8 → List (List UInt8)
  | [] => [[]]
  | c :: r => if c = d then [] :: spc d r else (c :: (spc d r).headD []) :: (spc d r).tail

theorem spc_47 : ∀ l, spc 47 l = sp l
  | [] => rfl
  | c :: r => by rw [spc, sp, spc_47 r]

theorem spc_ne (d : UInt8) (l : List UInt8) : spc d l ≠ [] := by
  cases l with
  | nil => simp [spc]
  | cons c r => unfold spc; split <;> simp

theorem spc_plain (d : UInt8) : ∀ (p : List UInt8), d ∉ p → spc d p = [p]
  | [], _ => rfl
  | c :: r, h => by
    have hc : c ≠ d := fun e => h (by simp [e])
    have hr : d ∉ r := fun e => h (by simp [e])
    rw [spc, if_neg hc, spc_plain d r hr]; rfl

theorem spc_app (d : UInt8) : ∀ (a b : List UInt8), spc d (a ++ d :: b) = spc d a ++ spc d b
  | [], b => by simp [spc]
  | c :: r, b => by
    have ih := spc_app d r b
    rw [List.cons_append, spc, spc, ih]
    have hn := spc_ne d r
    by_cases hc : c = d
    · simp [hc]
    · rw [if_neg hc, if_neg hc]
      cases h : spc d r with
      | nil => exact absurd h hn
      | cons x y => simp

theorem spc_len (d : UInt8) : ∀ l : List UInt8, (spc d l).length ≤ l.length + 1
  | [] => by simp [spc]
  | c :: r => by
    have := spc_len d r
    rw [spc]; split <;> simp <;> omega

/-- The round in which the sign is met. -/
theorem spc_hit (d : UInt8) (l : List UInt8) (f k : Nat) (hf : f ≤ k) (hk : l[k]? = some d) (hno : d ∉ (l.drop f).take (k - f)) :
    spc d (l.drop f) = (l.take k).drop f :: spc d (l.drop (k + 1)) := by
  have hl : k < l.length := by
    rcases Nat.lt_or_ge k l.length with h | h
    · exact h
    · rw [List.getElem?_eq_none h] at hk; cases hk
  have e1 : l.drop f = (l.drop f).take (k - f) ++ d :: l.drop (k + 1) := by
    conv => lhs; rw [← List.take_append_drop (k - f) (l.drop f)]
    rw [List.drop_drop, show f + (k - f) = k by omega, List.drop_eq_getElem_cons hl]
    rw [List.getElem?_eq_getElem hl] at hk
    cases hk; rfl
  rw [e1, spc_app, spc_plain d _ hno]
  rw [List.drop_take]; rfl

theorem spc_last (d : UInt8) (l : List UInt8) (f : Nat) (hno : d ∉ (l.drop f).take (l.length - f)) : spc d (l.drop f) = [l.drop f] := by
  rw [List.take_of_length_le (by simp)] at hno
  exact spc_plain d _ hno

theorem no_next (d : UInt8) (l : List UInt8) (f k : Nat) (hf : f ≤ k) (x : UInt8) (hk : l[k]? = some x) (hx : x ≠ d) (hno : d ∉ (l.drop f).take (k - f)) : d ∉ (l.drop f).take (k + 1 - f) := by
  rw [show k + 1 - f = (k - f) + 1 by omega, List.take_add_one, List.getElem?_drop, show f + (k - f) = k by omega, hk]
  simp only [Option.toList_some, List.mem_append, List.mem_singleton]
  rintro (h | h)
  · exact hno h
  · exact hx h.symm

/-- Joined, one more. -/
theorem join_next (sep : List UInt8) (xs : List (List UInt8)) (k : Nat) (x : List UInt8) (h : xs[k]? = some x) :
    Lib.join (xs.take (k + 1)) sep = Lib.join (xs.take k) sep ++ (if k = 0 then [] else sep) ++ x := by
  rw [List.take_add_one, h]
  cases k with
  | zero => simp [Lib.join_one, Lib.join_nil]
  | succ k =>
    cases xs with
    | nil => simp at h
    | cons a r =>
      rw [List.take_succ_cons, List.cons_append, Lib.join_cons, Lib.join_cons]
      simp [Lib.joinTail]

theorem join_take_le (sep : List UInt8) (xs : List (List UInt8)) (k : Nat) : (Lib.join (xs.take k) sep).length ≤ (Lib.join xs sep).length := by
  cases xs with
  | nil => simp
  | cons a r =>
    cases k with
    | zero => simp [Lib.join_nil]
    | succ k =>
      rw [List.take_succ_cons, Lib.join_cons, Lib.join_cons]
      have := Lib.joinTail_take_le sep r k
      simp; omega

end Go.Proofs.YtpddckgkaopnlaaGreatDoor

/- Plain facts on texts with variables, with no program in them: how they are cut into pieces; no conditions. -/
namespace Go.Proofs.YtpddckgkaopnlaaGreatDoor
open Go.RowKit

/-- May the byte stand in a variable's name? -/
def vb (c : UInt8) : Bool := smallB (c.toNat : Int) || decide ((c.toNat : Int) = 95)

def nlen : List UInt8 → Nat
  | [] => 0
  | c :: r => if vb c then nlen r + 1 else 0

/-- A part of a text: a byte of text, or a variable's name. -/
abbrev Tok := UInt8 ⊕ List UInt8

/-- What a text begins with, and how many bytes stand for it. -/
def tk : List UInt8 → Option (Tok × Nat)
  | [] => none
  | c :: r =>
    if c ≠ 36 then some (.inl c, 1) else
    match r with
    | [] => none
    | d :: r' =>
      if d = 36 ∨ d = 32 ∨ d = 58 then some (.inl d, 2) else
      if d = 123 then (if 1 ≤ nlen r' ∧ nlen r' ≤ 16 ∧ r'[nlen r']? = some 125 then some (.inr (r'.take (nlen r')), nlen r' + 3) else none)
      else (if 1 ≤ nlen (d :: r') ∧ nlen (d :: r') ≤ 16 then some (.inr ((d :: r').take (nlen (d :: r'))), nlen (d :: r') + 1) else none)

def tksF : Nat → List UInt8 → Option (List Tok)
  | _, [] => some []
  | 0, _ :: _ => none
  | n + 1, c :: r => match tk (c :: r) with
    | none => none
    | some (x, k) => (tksF n ((c :: r).drop k)).map (x :: ·)

def tks (l : List UInt8) : Option (List Tok) := tksF l.length l

abbrev Pc := Bool × List UInt8

def add (ps : List Pc) : Tok → List Pc
  | .inl c => match ps.getLast? with
    | some (false, l) => ps.dropLast ++ [(false, l ++ [c])]
    | _ => ps ++ [(false, [c])]
  | .inr n => ps ++ [(true, n)]

def addAll (ps : List Pc) (ts : List Tok) : List Pc := ts.foldl add ps

def plainL (l : List UInt8) : Bool := l.all fun c => decide (32 ≤ (c.toNat : Int)) && decide ((c.toNat : Int) ≤ 126)

/-- The document's cut. -/
def cutL (l : List UInt8) : Option (List Pc) :=
  if l.length ≤ 2048 ∧ plainL l = true then (tks l).map (addAll []) else none

def cutP (l : List UInt8) : List Pc := (cutL l).getD []
def cutE (l : List UInt8) : Int := if (cutL l).isSome then 0 else 300

theorem nlen_le : ∀ l : List UInt8, nlen l ≤ l.length
  | [] => by simp [nlen]
  | c :: r => by have := nlen_le r; unfold nlen; split <;> simp <;> omega

theorem tk_pos {l : List UInt8} {x : Tok} {k : Nat} (h : tk l = some (x, k)) : 1 ≤ k ∧ k ≤ l.length := by
  unfold tk at h
  split at h
  · cases h
  · rename_i c r
    split at h
    · simp at h; obtain ⟨_, rfl⟩ := h; simp
    · split at h
      · cases h
      · rename_i d r'
        split at h
        · simp at h; obtain ⟨_, rfl⟩ := h; simp
        · split at h
          · split at h
            · rename_i hk
              have hl : nlen r' < r'.length := (List.getElem?_eq_some_iff.1 hk.2.2).1
              simp at h; obtain ⟨_, rfl⟩ := h; simp; omega
            · cases h
          · split at h
            · have hl := nlen_le (d :: r')
              simp at h; obtain ⟨_, rfl⟩ := h; simp at hl ⊢; omega
            · cases h

theorem tksF_more : ∀ (n m : Nat) (l : List UInt8), l.length ≤ n → l.length ≤ m → tksF n l = tksF m l
  | _, _, [], _, _ => by simp [tksF]
  | 0, _, c :: r, h, _ => by simp at h
  | _ + 1, 0, c :: r, _, h => by simp at h
  | n + 1, m + 1, c :: r, h1, h2 => by
    unfold tksF
    cases ht : tk (c :: r) with
    | none => rfl
    | some xk =>
      obtain ⟨x, k⟩ := xk
      have hk := tk_pos ht
      simp only
      rw [tksF_more n m ((c :: r).drop k) (by simp at h1 ⊢; omega) (by simp at h2 ⊢; omega)]

theorem tks_nil : tks [] = some [] := rfl
theorem tks_step {l : List UInt8} {x : Tok} {k : Nat} (h : tk l = some (x, k)) : tks l = (tks (l.drop k)).map (x :: ·) := by
  cases l with
  | nil => simp [tk] at h
  | cons c r =>
    have hk := tk_pos h
    unfold tks
    rw [List.length_cons, tksF, h]
    simp only
    rw [tksF_more r.length ((c :: r).drop k).length _ (by simp at hk ⊢; omega) (Nat.le_refl _)]
theorem tks_none {l : List UInt8} (hl : l ≠ []) (h : tk l = none) : tks l = none := by
  cases l with
  | nil => exact absurd rfl hl
  | cons c r => unfold tks; rw [List.length_cons, tksF, h]

/-- Under way: what is read, what is left. -/
def At (l : List UInt8) (i : Nat) (pre : List Tok) : Prop := tks l = (tks (l.drop i)).map (pre ++ ·)

theorem At.start (l : List UInt8) : At l 0 [] := by unfold At; simp
theorem At.step {l : List UInt8} {i : Nat} {pre : List Tok} {x : Tok} {k : Nat} (h : At l i pre) (ht : tk (l.drop i) = some (x, k)) : At l (i + k) (pre ++ [x]) := by
  unfold At at *
  rw [h, tks_step ht, List.drop_drop, Option.map_map]
  congr 1
  funext a; simp
theorem At.fail {l : List UInt8} {i : Nat} {pre : List Tok} (h : At l i pre) (hi : i < l.length) (ht : tk (l.drop i) = none) : tks l = none := by
  unfold At at h
  rw [h, tks_none (by intro e; have := congrArg List.length e; simp at this; omega) ht]; rfl
theorem At.done {l : List UInt8} {i : Nat} {pre : List Tok} (h : At l i pre) (hi : l.length ≤ i) : tks l = some pre := by
  unfold At at h
  rw [h, List.drop_eq_nil_of_le hi, tks_nil]; simp

theorem addAll_snoc (ps : List Pc) (ts : List Tok) (x : Tok) : addAll ps (ts ++ [x]) = add (addAll ps ts) x := by unfold addAll; simp
theorem addAll_app (ps : List Pc) (ts us : List Tok) : addAll ps (ts ++ us) = addAll (addAll ps ts) us := by unfold addAll; simp

/-- What is cut, with text under way. -/
def flush (cs : List Pc) (tb : List UInt8) : List Pc := if tb = [] then cs else cs ++ [(false, tb)]
def noText (cs : List Pc) : Prop := ∀ l, cs.getLast? ≠ some (false, l)

theorem noText_nil : noText [] := by intro l; simp
theorem noText_var (cs : List Pc) (n : List UInt8) : noText (cs ++ [(true, n)]) := by intro l; simp

theorem add_t_flush {cs : List Pc} {tb : List UInt8} (h : noText cs) (c : UInt8) : add (flush cs tb) (.inl c) = flush cs (tb ++ [c]) := by
  unfold flush add
  by_cases ht : tb = []
  · subst ht
    simp only [if_true, List.nil_append]
    rw [if_neg (by simp)]
    split
    · rename_i l hl; exact absurd hl (h l)
    · rfl
  · rw [if_neg ht, if_neg (by simp)]
    simp
theorem add_v_flush {cs : List Pc} {tb : List UInt8} (n : List UInt8) : add (flush cs tb) (.inr n) = flush cs tb ++ [(true, n)] := rfl
theorem flush_nil (cs : List Pc) : flush cs [] = cs := by simp [flush]
theorem flush_some (cs : List Pc) (tb : List UInt8) (h : tb ≠ []) : flush cs tb = cs ++ [(false, tb)] := by simp [flush, h]

theorem flush_len (cs : List Pc) (tb : List UInt8) : (flush cs tb).length ≤ cs.length + tb.length ∧ cs.length ≤ (flush cs tb).length := by
  unfold flush
  split
  · omega
  · rename_i h
    have := List.length_pos_iff.2 h
    simp; omega

theorem cut_of {l : List UInt8} {ts : List Tok} (h1 : l.length ≤ 2048) (h2 : plainL l = true) (h : tks l = some ts) : cutP l = addAll [] ts ∧ cutE l = 0 := by
  unfold cutP cutE cutL
  rw [if_pos ⟨h1, h2⟩, h]; simp
theorem cut_bad {l : List UInt8} (h : tks l = none) : cutP l = [] ∧ cutE l = 300 := by
  unfold cutP cutE cutL
  split <;> simp [h]
theorem cut_long {l : List UInt8} (h : 2048 < l.length) : cutP l = [] ∧ cutE l = 300 := by
  unfold cutP cutE cutL
  rw [if_neg (by omega)]; simp
theorem cut_odd {l : List UInt8} (h : plainL l = false) : cutP l = [] ∧ cutE l = 300 := by
  unfold cutP cutE cutL
  rw [if_neg (by rw [h]; simp)]; simp

/-- How long pieces are. -/
def most (n : Nat) (ps : List Pc) : Prop := ∀ p ∈ ps, p.2.length ≤ n
theorem most_nil (n : Nat) : most n [] := by intro p hp; simp at hp
theorem most_mono {n m : Nat} {ps : List Pc} (h : most n ps) (hm : n ≤ m) : most m ps := fun p hp => Nat.le_trans (h p hp) hm
theorem most_snoc {n : Nat} {ps : List Pc} {p : Pc} (h : most n ps) (hp : p.2.length ≤ n) : most n (ps ++ [p]) := by
  intro q hq
  rcases List.mem_append.1 hq with hq | hq
  · exact h q hq
  · rw [List.mem_singleton.1 hq]; exact hp
theorem most_t {n : Nat} {ps : List Pc} (h : most n ps) (c : UInt8) : most (n + 1) (add ps (.inl c)) := by
  unfold add
  simp only
  split
  · rename_i l hl
    have hm : (false, l) ∈ ps := List.mem_of_getLast? hl
    refine most_snoc (fun p hp => Nat.le_trans (h p ((List.dropLast_sublist _).subset hp)) (by omega)) ?_
    have := h _ hm; simp at this ⊢; omega
  · exact most_snoc (most_mono h (by omega)) (by simp)
theorem add_len (ps : List Pc) (x : Tok) : (add ps x).length ≤ ps.length + 1 := by
  cases x with
  | inr n => simp [add]
  | inl c =>
    unfold add; simp only; split
    · simp
    · simp

/-- The variable that a text begins with: its name, how many bytes stand for it; 0: there is none. -/
def vr (l : List UInt8) : List UInt8 × Nat :=
  if l.take 2 = [36, 123] then (if 1 ≤ nlen (l.drop 2) ∧ nlen (l.drop 2) ≤ 16 ∧ (l.drop 2)[nlen (l.drop 2)]? = some 125 then ((l.drop 2).take (nlen (l.drop 2)), nlen (l.drop 2) + 3) else ([], 0))
  else (if 1 ≤ nlen (l.drop 1) ∧ nlen (l.drop 1) ≤ 16 then ((l.drop 1).take (nlen (l.drop 1)), nlen (l.drop 1) + 1) else ([], 0))

def escB (d : UInt8) : Bool := d == 36 || d == 32 || d == 58

theorem vr_tk {l : List UInt8} (h0 : l.head? = some 36) (h1 : ∀ d, l[1]? = some d → escB d = false) :
    ((vr l).2 = 0 ∧ tk l = none) ∨ (1 ≤ (vr l).2 ∧ (vr l).1.length ≤ 16 ∧ tk l = some (.inr (vr l).1, (vr l).2)) := by
  cases l with
  | nil => simp at h0
  | cons c r =>
    simp at h0; subst h0
    cases r with
    | nil => left; decide
    | cons d r' =>
      have hd : ¬ (d = 36 ∨ d = 32 ∨ d = 58) := by
        have := h1 d (by simp)
        unfold escB at this; simp at this
        rintro (h | h | h) <;> simp_all
      unfold tk
      simp only [ne_eq, not_true_eq_false, if_false, if_neg hd]
      unfold vr
      by_cases hb : d = 123
      · subst hb
        simp only [List.take_succ_cons, List.take_zero, if_true, List.drop_succ_cons, List.drop_zero]
        split
        · rename_i hk; right; simp; omega
        · left; simp
      · simp only [List.take_succ_cons, List.take_zero, List.drop_succ_cons, List.drop_zero, List.cons.injEq, true_and, and_true, if_neg hb]
        split
        · rename_i hk; right; refine ⟨by simp, ?_, rfl⟩; simp; omega
        · left; simp

theorem tk_text {l : List UInt8} {c : UInt8} (h : l.head? = some c) (hc : c ≠ 36) : tk l = some (.inl c, 1) := by
  cases l with
  | nil => simp at h
  | cons a r => simp at h; subst h; simp [tk, hc]
theorem tk_esc {l : List UInt8} {d : UInt8} (h : l.head? = some 36) (h1 : l[1]? = some d) (hd : escB d = true) : tk l = some (.inl d, 2) := by
  cases l with
  | nil => simp at h
  | cons a r =>
    simp at h; subst h
    cases r with
    | nil => simp at h1
    | cons b r' =>
      simp at h1; subst h1
      unfold tk
      have : b = 36 ∨ b = 32 ∨ b = 58 := by unfold escB at hd; simp at hd; rcases hd with (h | h) | h <;> simp [h]
      simp [this]

theorem nlen_yes {l : List UInt8} {p : Nat} {c : UInt8} (h : l[p]? = some c) (hv : vb c = true) : nlen (l.drop p) = nlen (l.drop (p + 1)) + 1 := by
  obtain ⟨hp, he⟩ := List.getElem?_eq_some_iff.1 h
  rw [List.drop_eq_getElem_cons hp, he]
  conv => lhs; unfold nlen
  rw [if_pos hv]
theorem nlen_no {l : List UInt8} {p : Nat} {c : UInt8} (h : l[p]? = some c) (hv : vb c = false) : nlen (l.drop p) = 0 := by
  obtain ⟨hp, he⟩ := List.getElem?_eq_some_iff.1 h
  rw [List.drop_eq_getElem_cons hp, he]
  unfold nlen
  rw [if_neg (by rw [hv]; decide)]
theorem nlen_end {l : List UInt8} {p : Nat} (h : l.length ≤ p) : nlen (l.drop p) = 0 := by
  rw [List.drop_eq_nil_of_le h]; rfl

theorem plainL_app (a b : List UInt8) : plainL (a ++ b) = (plainL a && plainL b) := by simp [plainL]

end Go.Proofs.YtpddckgkaopnlaaGreatDoor

/- Plain facts on a text that the library cuts at one sign, or takes a sign out of, with no program in them; no conditions. -/
namespace Go.Proofs.YtpddckgkaopnlaaGreatDoor
open Go.RowKit

theorem idx_none (d : UInt8) (l : List UInt8) (h : Lib.index l [d] = -1) : d ∉ l := by
  rw [Lib.index_one] at h
  intro hm
  obtain ⟨k, hk, e⟩ := List.getElem_of_mem hm
  exact Lib.indexByte_none h k (by rw [List.getElem?_eq_getElem hk, e])

theorem idx_some (d : UInt8) (l : List UInt8) (i : Nat) (h : Lib.index l [d] = i) : i < l.length ∧ l = l.take i ++ d :: l.drop (i + 1) ∧ d ∉ l.take i := by
  rw [Lib.index_one] at h
  obtain ⟨h1, h2⟩ := Lib.indexByte_some h
  obtain ⟨hi, e⟩ := List.getElem?_eq_some_iff.1 h1
  refine ⟨hi, ?_, ?_⟩
  · conv => lhs; rw [← List.take_append_drop i l, List.drop_eq_getElem_cons hi, e]
  · intro hm
    obtain ⟨k, hk, e2⟩ := List.getElem_of_mem hm
    have hki : k < i := by simp at hk; omega
    refine h2 k hki ?_
    rw [← e2, List.getElem_take, ← List.getElem?_eq_getElem]

theorem splitK_spc (d : UInt8) : ∀ (k : Nat) (l : List UInt8), Lib.count l [d] = k → Lib.splitK [d] 0 k l = spc d l
  | 0, l, h => by
    by_cases hi : Lib.index l [d] = -1
    · rw [spc_plain d l (idx_none d l hi)]; rfl
    · have hg := Lib.index_ge l [d]
      obtain ⟨i, hi'⟩ : ∃ i : Nat, Lib.index l [d] = i := ⟨(Lib.index l [d]).toNat, by omega⟩
      rw [Lib.count_hit (by simp) hi'] at h; omega
  | k + 1, l, h => by
    by_cases hi : Lib.index l [d] = -1
    · rw [Lib.count_miss hi] at h; omega
    · have hg := Lib.index_ge l [d]
      obtain ⟨i, hi'⟩ : ∃ i : Nat, Lib.index l [d] = i := ⟨(Lib.index l [d]).toNat, by omega⟩
      have hc := Lib.count_hit (sub := [d]) (by simp) hi'
      have e := (idx_some d l i hi').2
      rw [Lib.splitK, if_neg (fun e => hi (beq_iff_eq.1 e)), hi']
      have ih := splitK_spc d k (l.drop (i + 1)) (by simp at hc; omega)
      simp only [Int.toNat_natCast, Nat.add_zero, List.length_cons, List.length_nil, Nat.zero_add]
      rw [ih]
      conv => rhs; rw [e.1]
      rw [spc_app, spc_plain d _ e.2]; rfl

theorem splitB_spc (d : UInt8) (s : ByteArray) : (Lib.splitB ⟨#[d]⟩ 0 (Lib.countB s ⟨#[d]⟩) s).map bl = spc d (bl s) := by
  have := splitK_spc d (Lib.count (bl s) [d]) (bl s) rfl
  rw [← this]
  exact Lib.splitB_data ⟨#[d]⟩ 0 _ s

/-- A text without a sign. -/
def without (d : UInt8) (l : List UInt8) : List UInt8 := l.filter (· != d)

theorem without_app (d : UInt8) (a b : List UInt8) : without d (a ++ b) = without d a ++ without d b := List.filter_append ..
theorem without_len (d : UInt8) (l : List UInt8) : (without d l).length ≤ l.length := List.length_filter_le ..
theorem without_self (d : UInt8) (l : List UInt8) (h : d ∉ l) : without d l = l :=
  List.filter_eq_self.2 fun a ha => by simp only [bne_iff_ne]; exact fun e => h (e ▸ ha)
theorem without_one (d : UInt8) : without d [d] = [] := by simp [without]

theorem take_mid (a b c : List UInt8) (d : UInt8) : (a ++ (b ++ d :: c)).take (a.length + b.length + 1) = a ++ (b ++ [d]) := by
  rw [show a ++ (b ++ d :: c) = (a ++ (b ++ [d])) ++ c by simp, List.take_left' (by simp; omega)]

/-- The round of a taking out: the sign is met at place i of what is left. -/
theorem without_step (d : UInt8) (l : List UInt8) (f i : Nat) (h : Lib.index (l.drop f) [d] = i) :
    f + i < l.length ∧ without d (l.take (f + i + 1)) = without d (l.take f) ++ (l.take (f + i)).drop f ∧ (l.drop f).count d = (l.drop (f + i + 1)).count d + 1 := by
  obtain ⟨h1, h2, h3⟩ := idx_some d _ i h
  rw [List.length_drop] at h1
  have e1 : (l.drop f).take i = (l.take (f + i)).drop f := by rw [List.drop_take]; congr 1; omega
  have e2 : (l.drop f).drop (i + 1) = l.drop (f + i + 1) := by rw [List.drop_drop]; congr 1
  rw [e1] at h2 h3
  rw [e2] at h2
  refine ⟨by omega, ?_, ?_⟩
  · have e3 : l.take (f + i + 1) = l.take f ++ ((l.take (f + i)).drop f ++ [d]) := by
      have : l = l.take f ++ ((l.take (f + i)).drop f ++ d :: l.drop (f + i + 1)) := by rw [← h2, List.take_append_drop]
      have hl : (l.take f).length = f := by rw [List.length_take]; omega
      have hl2 : ((l.take (f + i)).drop f).length = i := by rw [List.length_drop, List.length_take]; omega
      have hT := take_mid (l.take f) ((l.take (f + i)).drop f) (l.drop (f + i + 1)) d
      rw [← this, hl, hl2] at hT
      exact hT
    rw [e3, without_app, without_app, without_self d _ h3, without_one, List.append_nil]
  · rw [h2, List.count_append, List.count_cons_self, List.count_eq_zero.2 h3]; omega

theorem without_none (d : UInt8) (l : List UInt8) (f : Nat) (h : (l.drop f).count d = 0) : without d l = without d (l.take f) ++ l.drop f := by
  conv => lhs; rw [← List.take_append_drop f l]
  rw [without_app, without_self d (l.drop f) (List.count_eq_zero.1 h)]

theorem index_of_count (d : UInt8) (l : List UInt8) (h : 0 < l.count d) : ∃ i : Nat, Lib.index l [d] = i := by
  have hg := Lib.index_ge l [d]
  by_cases hi : Lib.index l [d] = -1
  · have := List.count_eq_zero.2 (idx_none d l hi); omega
  · exact ⟨(Lib.index l [d]).toNat, by omega⟩

theorem without_zero (d : UInt8) (l : List UInt8) (h : l.count d = 0) : without d l = l := without_self d l (List.count_eq_zero.1 h)

end Go.Proofs.YtpddckgkaopnlaaGreatDoor

/- Plain facts on a manifest's lines: what a text is cut into, with no program in them; no conditions. -/
namespace Go.Proofs.YtpddckgkaopnlaaGreatDoor
open Go.RowKit

abbrev Ln := Bool × List UInt8

/-- Does a row end with an odd number of 36? -/
def goL (l : List UInt8) : Bool := (l.length - (Lib.trimRightB l 36).length) % 2 == 1
def frL (l : List UInt8) : List UInt8 := Lib.trimLeftB l 32
def trL (l : List UInt8) : List UInt8 := Lib.trimB l 32
/-- A row, as it is joined: b: there is something ahead of it. -/
def rowL (b : Bool) (r : List UInt8) : List UInt8 := if b then frL r else r
def lnOf (t : List UInt8) : Option Ln := if trL t = [] ∨ (trL t).head? = some 35 then none else some (decide (t.head? = some 32), trL t)

/-- The lines of rows, a: what is joined so far. -/
def cutR : Bool → List UInt8 → List (List UInt8) → Option (List Ln)
  | b, _, [] => if b then none else some []
  | b, a, r :: rs => if goL (rowL b r) then cutR true (a ++ (rowL b r).dropLast) rs else (cutR false [] rs).map ((lnOf (a ++ rowL b r)).toList ++ ·)

/-- The line that rows begin with, and how many it takes. -/
def jn : Bool → List UInt8 → List (List UInt8) → Option (List UInt8 × Nat)
  | _, _, [] => none
  | b, a, r :: rs => if goL (rowL b r) then (jn true (a ++ (rowL b r).dropLast) rs).map (fun x => (x.1, x.2 + 1)) else some (a ++ rowL b r, 1)

def endL (l : List UInt8) : Bool := l.isEmpty || l.getLast? == some 10
def lnT (l : List UInt8) : Option (List Ln) := if endL l && plainL (without 10 l) then cutR false [] (spc 10 l).dropLast else none
def lnC (l : List UInt8) : Option (List Ln) := if l.length ≤ 2048 then lnT l else none
def lnS (l : List UInt8) : List Ln := (lnC l).getD []
def lnE (l : List UInt8) : Int := if (lnC l).isSome then 0 else 600

theorem ln_bad {l : List UInt8} (h : lnC l = none) : lnS l = [] ∧ lnE l = 600 := by unfold lnS lnE; rw [h]; exact ⟨rfl, rfl⟩
theorem ln_good {l : List UInt8} {x : List Ln} (h : lnC l = some x) : lnS l = x ∧ lnE l = 0 := by unfold lnS lnE; rw [h]; exact ⟨rfl, rfl⟩
theorem ln_long {l : List UInt8} (h : 2048 < l.length) : lnC l = none := by unfold lnC; rw [if_neg (by omega)]
theorem ln_end {l : List UInt8} (h : endL l = false) : lnC l = none := by unfold lnC lnT; rw [h]; simp
theorem ln_odd {l : List UInt8} (h : plainL (without 10 l) = false) : lnC l = none := by unfold lnC lnT; rw [h]; simp
theorem ln_rows {l : List UInt8} (h1 : l.length ≤ 2048) (h2 : endL l = true) (h3 : plainL (without 10 l) = true) : lnC l = cutR false [] (spc 10 l).dropLast := by
  unfold lnC lnT; rw [if_pos h1, h2, h3]; rfl

theorem cutR_nil : cutR false [] [] = some [] := rfl

theorem jn_none : ∀ (rs : List (List UInt8)) (b : Bool) (a : List UInt8), jn b a rs = none → (rs ≠ [] ∨ b = true) → cutR b a rs = none
  | [], b, a, _, h => by
    rcases h with h | h
    · exact absurd rfl h
    · subst h; rfl
  | r :: rs, b, a, h, _ => by
    rw [jn] at h
    rw [cutR]
    split at h
    · rename_i hg
      rw [if_pos hg]
      exact jn_none rs true _ (by simpa using h) (Or.inr rfl)
    · cases h

theorem jn_some : ∀ (rs : List (List UInt8)) (b : Bool) (a t : List UInt8) (k : Nat), jn b a rs = some (t, k) → 1 ≤ k ∧ k ≤ rs.length ∧ cutR b a rs = (cutR false [] (rs.drop k)).map ((lnOf t).toList ++ ·)
  | [], b, a, t, k, h => by simp [jn] at h
  | r :: rs, b, a, t, k, h => by
    rw [jn] at h
    rw [cutR]
    split at h
    · rename_i hg
      rw [if_pos hg]
      obtain ⟨⟨t', k'⟩, h1, h2⟩ := Option.map_eq_some_iff.1 h
      cases h2
      obtain ⟨i1, i2, i3⟩ := jn_some rs true _ _ _ h1
      exact ⟨by omega, by simp; omega, by rw [i3]; rfl⟩
    · rename_i hg
      rw [if_neg hg]
      cases h
      exact ⟨Nat.le_refl _, by simp, rfl⟩

/-- One round of a join, as the walk meets it: i rows are taken. -/
theorem jn_step {rows : List (List UInt8)} {i : Nat} {a r : List UInt8} (hr : rows[i]? = some r) :
    jn (decide (0 < i)) a (rows.drop i) = if goL (rowL (decide (0 < i)) r) then (jn true (a ++ (rowL (decide (0 < i)) r).dropLast) (rows.drop (i + 1))).map (fun x => (x.1, x.2 + 1)) else some (a ++ rowL (decide (0 < i)) r, 1) := by
  obtain ⟨hi, e⟩ := List.getElem?_eq_some_iff.1 hr
  rw [List.drop_eq_getElem_cons hi, e, jn]

theorem go_ne {l : List UInt8} (h : goL l = true) : l ≠ [] := by
  rintro rfl; exact absurd h (by decide)

theorem go_len {l : List UInt8} (h : goL l = true) : 1 ≤ l.length := List.length_pos_iff.2 (go_ne h)

/-! Trims from both sides. -/

theorem trimR_cons (c x : UInt8) (r : List UInt8) : Lib.trimRightB (x :: r) c = if Lib.trimRightB r c = [] then (if x = c then [] else [x]) else x :: Lib.trimRightB r c := by
  unfold Lib.trimRightB
  rw [List.reverse_cons, List.dropWhile_append]
  by_cases h : (List.dropWhile (· == c) r.reverse) = []
  · rw [h]; simp only [List.isEmpty_nil, if_true, List.reverse_nil]
    by_cases hx : x = c
    · simp [hx]
    · simp [hx]
  · have h2 : (List.dropWhile (· == c) r.reverse).isEmpty = false := by simpa using h
    rw [h2]; simp [h]

theorem trim_comm (c : UInt8) : ∀ l : List UInt8, Lib.trimRightB (Lib.trimLeftB l c) c = Lib.trimB l c
  | [] => rfl
  | x :: r => by
    have ih := trim_comm c r
    unfold Lib.trimB at ih ⊢
    rw [trimR_cons]
    by_cases hx : x = c
    · subst hx
      have e : Lib.trimLeftB (x :: r) x = Lib.trimLeftB r x := by simp [Lib.trimLeftB]
      rw [e, ih]
      split
      · rename_i h; rw [h]; simp
      · simp [Lib.trimLeftB]
    · have e : Lib.trimLeftB (x :: r) c = x :: r := by simp [Lib.trimLeftB, hx]
      rw [e, trimR_cons]
      split
      · simp [hx, Lib.trimLeftB]
      · simp [hx, Lib.trimLeftB]

theorem trimR_len (c : UInt8) (l : List UInt8) : (Lib.trimRightB l c).length ≤ l.length := by
  unfold Lib.trimRightB
  rw [List.length_reverse]
  exact Nat.le_trans (List.dropWhile_sublist _).length_le (by simp)
theorem trimL_len (c : UInt8) (l : List UInt8) : (Lib.trimLeftB l c).length ≤ l.length := (List.dropWhile_sublist _).length_le
theorem tr_len (l : List UInt8) : (trL l).length ≤ l.length := Nat.le_trans (trimL_len _ _) (trimR_len _ _)
theorem fr_len (l : List UInt8) : (frL l).length ≤ l.length := trimL_len _ _
theorem rowL_len (b : Bool) (l : List UInt8) : (rowL b l).length ≤ l.length := by unfold rowL; split; exact fr_len l; exact Nat.le_refl _

theorem tr_ne {l : List UInt8} (h : trL l ≠ []) : l ≠ [] := by rintro rfl; exact h rfl

/-! Two texts, one behind the other. -/

theorem rows_end {l : List UInt8} (h : endL l = true) : spc 10 l = (spc 10 l).dropLast ++ [[]] := by
  unfold endL at h
  cases l with
  | nil => rfl
  | cons c r =>
    have h2 : (c :: r).getLast? = some 10 := by simpa using h
    have hd := List.dropLast_concat_getLast (l := c :: r) (by simp)
    have hg : (c :: r).getLast (by simp) = 10 := by
      rw [List.getLast?_eq_some_getLast (by simp)] at h2; exact Option.some.inj h2
    rw [hg] at hd
    rw [← hd, spc_app]
    simp [spc]

theorem rows_nl (l : List UInt8) : (spc 10 (l ++ [10])).dropLast = spc 10 l := by
  rw [spc_app]; simp [spc]

theorem end_nl (l : List UInt8) : endL (l ++ [10]) = true := by unfold endL; simp

theorem end_split {l : List UInt8} (h : endL l = true) : l = [] ∨ ∃ m, l = m ++ [10] := by
  unfold endL at h
  cases l with
  | nil => exact Or.inl rfl
  | cons c r =>
    right
    have h2 : (c :: r).getLast? = some 10 := by simpa using h
    refine ⟨(c :: r).dropLast, ?_⟩
    have hd := List.dropLast_concat_getLast (l := c :: r) (by simp)
    rw [List.getLast?_eq_some_getLast (by simp)] at h2
    rw [Option.some.inj h2] at hd
    exact hd.symm

theorem rows_app {a b : List UInt8} (h : endL a = true) : (spc 10 (a ++ b)).dropLast = (spc 10 a).dropLast ++ (spc 10 b).dropLast := by
  rcases end_split h with rfl | ⟨m, rfl⟩
  · rfl
  · rw [rows_nl, List.append_assoc, List.singleton_append, spc_app, List.dropLast_append_of_ne_nil (spc_ne 10 b)]

theorem end_app {a b : List UInt8} (ha : endL a = true) (hb : endL b = true) : endL (a ++ b) = true := by
  rcases end_split hb with rfl | ⟨m, rfl⟩
  · rw [List.append_nil]; exact ha
  · rw [← List.append_assoc]; exact end_nl _

theorem cutR_app : ∀ (rs qs : List (List UInt8)) (b : Bool) (a : List UInt8) (x : List Ln), (b = false → a = []) → cutR b a rs = some x → cutR b a (rs ++ qs) = (cutR false [] qs).map (x ++ ·)
  | [], qs, b, a, x, ha, h => by
    cases b with
    | true => simp [cutR] at h
    | false =>
      simp [cutR] at h
      subst h
      rw [ha rfl, List.nil_append]
      cases cutR false [] qs <;> simp
  | r :: rs, qs, b, a, x, ha, h => by
    rw [List.cons_append, cutR]
    rw [cutR] at h
    split at h
    · rename_i hg
      rw [if_pos hg]
      exact cutR_app rs qs true _ x (fun e => by cases e) h
    · rename_i hg
      rw [if_neg hg]
      obtain ⟨y, h1, rfl⟩ := Option.map_eq_some_iff.1 h
      rw [cutR_app rs qs false [] y (fun _ => rfl) h1]
      cases cutR false [] qs <;> simp

theorem lnT_some {l : List UInt8} {x : List Ln} (h : lnT l = some x) : endL l = true ∧ plainL (without 10 l) = true ∧ cutR false [] (spc 10 l).dropLast = some x := by
  unfold lnT at h
  split at h
  · rename_i hc
    exact ⟨(Bool.and_eq_true_iff.1 hc).1, (Bool.and_eq_true_iff.1 hc).2, h⟩
  · cases h

theorem lnT_of {l : List UInt8} (h1 : endL l = true) (h2 : plainL (without 10 l) = true) : lnT l = cutR false [] (spc 10 l).dropLast := by
  unfold lnT; rw [h1, h2]; rfl

theorem lnT_app {a b : List UInt8} {x y : List Ln} (ha : lnT a = some x) (hb : lnT b = some y) : lnT (a ++ b) = some (x ++ y) := by
  obtain ⟨a1, a2, a3⟩ := lnT_some ha
  obtain ⟨b1, b2, b3⟩ := lnT_some hb
  rw [lnT_of (end_app a1 b1) (by rw [without_app, plainL_app, a2, b2]; rfl), rows_app a1, cutR_app _ _ _ _ x (fun _ => rfl) a3, b3]; rfl

theorem lnC_of {l : List UInt8} {x : List Ln} (h : lnT l = some x) (hl : l.length ≤ 2048) : lnC l = some x := by unfold lnC; rw [if_pos hl, h]
theorem lnC_some {l : List UInt8} {x : List Ln} (h : lnC l = some x) : l.length ≤ 2048 ∧ lnT l = some x := by
  unfold lnC at h; split at h
  · exact ⟨by assumption, h⟩
  · cases h

theorem ln_cases (l : List UInt8) : (lnC l = none ∧ lnS l = [] ∧ lnE l = 600) ∨ ∃ x, lnC l = some x ∧ lnS l = x ∧ lnE l = 0 := by
  cases h : lnC l with
  | none => exact Or.inl ⟨rfl, ln_bad h⟩
  | some x => exact Or.inr ⟨x, rfl, ln_good h⟩

/-! How many, how long. -/

theorem tot_spc (d : UInt8) : ∀ (l : List UInt8), tot (spc d l) = l.length + 1
  | [] => rfl
  | c :: r => by
    have ih := tot_spc d r
    have hn := spc_ne d r
    rw [spc]
    cases h : spc d r with
    | nil => exact absurd h hn
    | cons x y =>
      rw [h, tot_cons] at ih
      split
      · rw [tot_cons, tot_cons]; simp; omega
      · simp only [List.headD_cons, List.tail_cons]; rw [tot_cons]; simp; omega

theorem tot_mem : ∀ (rs : List (List UInt8)) (r : List UInt8), r ∈ rs → r.length + 1 ≤ tot rs
  | [], r, h => by simp at h
  | x :: xs, r, h => by
    rw [tot_cons]
    rcases List.mem_cons.1 h with rfl | h
    · omega
    · have := tot_mem xs r h; omega

theorem spc_mem_len {d : UInt8} {l r : List UInt8} (h : r ∈ spc d l) : r.length ≤ l.length := by
  have := tot_mem _ _ h
  rw [tot_spc] at this; omega

theorem lnOf_len {t : List UInt8} {x : Ln} (h : lnOf t = some x) : x.2.length ≤ t.length := by
  unfold lnOf at h
  split at h
  · cases h
  · cases h; exact tr_len t

theorem cutR_len : ∀ (rs : List (List UInt8)) (b : Bool) (a : List UInt8) (x : List Ln), cutR b a rs = some x → x.length ≤ rs.length ∧ ∀ y ∈ x, y.2.length ≤ a.length + tot rs
  | [], b, a, x, h => by
    cases b with
    | true => simp [cutR] at h
    | false => simp [cutR] at h; subst h; simp
  | r :: rs, b, a, x, h => by
    rw [cutR] at h
    have hrl := rowL_len b r
    split at h
    · obtain ⟨h1, h2⟩ := cutR_len rs true _ x h
      refine ⟨by simp; omega, fun y hy => ?_⟩
      have := h2 y hy
      rw [List.length_append, List.length_dropLast] at this
      rw [tot_cons]; omega
    · obtain ⟨y, h1, rfl⟩ := Option.map_eq_some_iff.1 h
      obtain ⟨i1, i2⟩ := cutR_len rs false [] y h1
      refine ⟨?_, ?_⟩
      · cases lnOf (a ++ rowL b r) <;> simp <;> omega
      · intro z hz
        rw [tot_cons]
        rcases List.mem_append.1 hz with hz | hz
        · have := lnOf_len (Option.mem_toList.1 hz)
          rw [List.length_append] at this; omega
        · have := i2 z hz
          simp at this; omega

theorem lnS_len (l : List UInt8) : (lnS l).length ≤ 2048 ∧ ∀ y ∈ lnS l, y.2.length ≤ 4096 := by
  rcases ln_cases l with ⟨_, h, _⟩ | ⟨x, h, hx, _⟩
  · rw [h]; simp
  · rw [hx]
    obtain ⟨h1, h2⟩ := lnC_some h
    obtain ⟨h3, h4, h5⟩ := lnT_some h2
    obtain ⟨h6, h7⟩ := cutR_len _ _ _ _ h5
    have h8 := spc_len 10 l
    rw [List.length_dropLast] at h6
    refine ⟨by omega, fun y hy => ?_⟩
    have h9 := h7 y hy
    have h10 : tot (spc 10 l).dropLast ≤ tot (spc 10 l) := by
      rw [rows_end h3, tot_app]; simp
    rw [tot_spc] at h10
    simp at h9; omega

/-! Each row by itself. -/

theorem rows_plain : ∀ (l : List UInt8), plainL (without 10 l) = (spc 10 l).all plainL
  | [] => rfl
  | c :: r => by
    have ih := rows_plain r
    have hn := spc_ne 10 r
    rw [spc]
    by_cases hc : c = 10
    · subst hc
      rw [if_pos rfl, List.all_cons, ← ih]
      simp [without, plainL]
    · rw [if_neg hc]
      have e : without 10 (c :: r) = c :: without 10 r := by simp [without, hc]
      rw [e]
      cases h : spc 10 r with
      | nil => exact absurd h hn
      | cons x y =>
        rw [h, List.all_cons] at ih
        simp only [List.headD_cons, List.tail_cons, List.all_cons]
        rw [show plainL (c :: without 10 r) = (plainL [c] && plainL (without 10 r)) from plainL_app [c] _, show plainL (c :: x) = (plainL [c] && plainL x) from plainL_app [c] _, ih, Bool.and_assoc]

theorem rows_plain' {l : List UInt8} (h : endL l = true) : plainL (without 10 l) = (spc 10 l).dropLast.all plainL := by
  rw [rows_plain, rows_end h, List.all_append, List.dropLast_concat]
  simp [plainL]

end Go.Proofs.YtpddckgkaopnlaaGreatDoor

/- Plain facts on words between blanks and on a build line's parts, with no program in them; no conditions. -/
namespace Go.Proofs.YtpddckgkaopnlaaGreatDoor
open Go.RowKit

abbrev Ws := List (List UInt8)

/-- A name, as bytes. -/
def okN (l : List UInt8) : Bool := decide (1 ≤ l.length) && decide (l.length ≤ 16) && allOk l

theorem may_okN (s : ByteArray) : mayB s = okN (bl s) := by
  unfold mayB okN; rw [bl_size]; rfl

theorem okN_len {l : List UInt8} (h : okN l = true) : 1 ≤ l.length ∧ l.length ≤ 16 ∧ allOk l = true := by
  unfold okN at h; simp at h; exact ⟨h.1.1, h.1.2, h.2⟩
theorem okN_ne {l : List UInt8} (h : okN l = true) : l ≠ [] := by
  rintro rfl; simp [okN] at h
theorem okN_no {l : List UInt8} (h : okN l = true) (d : UInt8) (hd : okb d.toNat = false) : d ∉ l := by
  intro hm
  have := List.all_eq_true.1 (okN_len h).2.2 d hm
  rw [hd] at this; cases this
theorem okN_32 {l : List UInt8} (h : okN l = true) : 32 ∉ l := okN_no h 32 (by decide)

/-- The words of a text. -/
def wdL (l : List UInt8) : Ws := (spc 32 l).filter fun x => !x.isEmpty

def one (x : List UInt8) : Ws := if x = [] then [] else [x]

theorem wdL_nil : wdL [] = [] := rfl
theorem wdL_plain {x : List UInt8} (h : 32 ∉ x) : wdL x = one x := by
  unfold wdL one; rw [spc_plain 32 x h]; cases x <;> simp
theorem wdL_app (a b : List UInt8) : wdL (a ++ 32 :: b) = wdL a ++ wdL b := by
  unfold wdL; rw [spc_app, List.filter_append]
theorem wdL_blank (b : List UInt8) : wdL (32 :: b) = wdL b := by
  have := wdL_app [] b; simpa [wdL_nil] using this
theorem wdL_end (a : List UInt8) : wdL (a ++ [32]) = wdL a := by
  have := wdL_app a []; simpa [wdL_nil] using this
theorem wdL_trim : ∀ l : List UInt8, wdL (Lib.trimLeftB l 32) = wdL l
  | [] => rfl
  | c :: r => by
    unfold Lib.trimLeftB
    by_cases h : c = 32
    · subst h; rw [List.dropWhile_cons_of_pos (by simp), wdL_blank]; exact wdL_trim r
    · rw [List.dropWhile_cons_of_neg (by simpa using h)]
theorem trim_head (l r : List UInt8) : Lib.trimLeftB l 32 ≠ 32 :: r := by
  intro h
  unfold Lib.trimLeftB at h
  have := List.head?_dropWhile_not (fun x : UInt8 => x == 32) l
  rw [h] at this
  simp at this

theorem wdL_ne {l : List UInt8} : ∀ x ∈ wdL l, x ≠ [] := by
  intro x hx
  unfold wdL at hx
  have := (List.mem_filter.1 hx).2
  rintro rfl; simp at this

theorem spc_no (d : UInt8) : ∀ (l : List UInt8), ∀ x ∈ spc d l, d ∉ x
  | [], x, h => by simp [spc] at h; subst h; simp
  | c :: r, x, h => by
    rw [spc] at h
    by_cases hc : c = d
    · rw [if_pos hc] at h
      rcases List.mem_cons.1 h with rfl | h
      · simp
      · exact spc_no d r x h
    · rw [if_neg hc] at h
      cases hs : spc d r with
      | nil => exact absurd hs (spc_ne d r)
      | cons y z =>
        rw [hs] at h
        rcases List.mem_cons.1 h with rfl | h
        · have := spc_no d r y (by rw [hs]; simp)
          simp only [List.headD_cons, List.mem_cons, not_or]
          exact ⟨fun e => hc e.symm, this⟩
        · exact spc_no d r x (by rw [hs]; exact List.mem_cons_of_mem _ h)

/-- The first word's step, no blank behind it. -/
theorem next_none {l : List UInt8} (h : Lib.index (Lib.trimLeftB l 32) [32] = -1) : wdL l = one (Lib.trimLeftB l 32) := by
  rw [← wdL_trim, wdL_plain (idx_none 32 _ h)]

theorem next_some {l : List UInt8} {i : Nat} (h : Lib.index (Lib.trimLeftB l 32) [32] = i) :
    i < (Lib.trimLeftB l 32).length ∧ wdL l = (Lib.trimLeftB l 32).take i :: wdL ((Lib.trimLeftB l 32).drop i) ∧ (Lib.trimLeftB l 32).take i ≠ [] := by
  obtain ⟨h1, h2, h3⟩ := idx_some 32 _ i h
  have hn : (Lib.trimLeftB l 32).take i ≠ [] := by
    intro e; rw [e] at h2; exact trim_head l _ h2
  refine ⟨h1, ?_, hn⟩
  have hd : (Lib.trimLeftB l 32).drop i = 32 :: (Lib.trimLeftB l 32).drop (i + 1) := by
    have e := congrArg (List.drop i) h2
    rw [List.drop_append] at e
    rw [e]; simp
    rw [show i - min i (Lib.trimLeftB l 32).length = 0 by omega]
    rfl
  rw [hd, wdL_blank, ← wdL_trim]
  conv => lhs; rw [h2]
  rw [wdL_app, wdL_plain h3]
  unfold one; rw [if_neg hn]; rfl

/-- What a row of words looks like in memory: the first one, and a text whose words are the others. -/
def StW (a b : List UInt8) (ws : Ws) : Prop := a = ws.headD [] ∧ wdL b = ws.tail ∧ ∀ x ∈ ws, x ≠ []

theorem StW.of_none {l : List UInt8} (h : Lib.index (Lib.trimLeftB l 32) [32] = -1) : StW (Lib.trimLeftB l 32) [] (wdL l) := by
  refine ⟨?_, ?_, wdL_ne⟩
  · rw [next_none h]; unfold one; split
    · next e => rw [e]; rfl
    · rfl
  · rw [next_none h, wdL_nil]; unfold one; split <;> rfl
theorem StW.of_some {l : List UInt8} {i : Nat} (h : Lib.index (Lib.trimLeftB l 32) [32] = i) : StW ((Lib.trimLeftB l 32).take i) ((Lib.trimLeftB l 32).drop i) (wdL l) := by
  obtain ⟨h1, h2, h3⟩ := next_some h
  exact ⟨by rw [h2]; rfl, by rw [h2]; rfl, wdL_ne⟩

theorem StW.of_nil {a b : List UInt8} {ws : Ws} (h : StW a b ws) : (a = []) = (ws = []) := by
  obtain ⟨h1, h2, h3⟩ := h
  cases ws with
  | nil => simp [h1]
  | cons x r =>
    have := h3 x (by simp)
    simp only [List.headD_cons] at h1
    subst h1
    simp [this]
theorem StW.is {a b : List UInt8} {ws : Ws} (h : StW a b ws) (x : List UInt8) (hx : x ≠ []) : (a = x) = (ws.head? = some x) := by
  obtain ⟨h1, h2, h3⟩ := h
  cases ws with
  | nil => simp only [List.headD_nil] at h1; subst h1; simp [Ne.symm hx]
  | cons y r => simp only [List.headD_cons] at h1; subst h1; simp

/-- AtW most eight names that stand ahead, and what stands behind them. -/
def tkW (ws : Ws) : Ws := (ws.takeWhile okN).take 8
def lfW (ws : Ws) : Ws := ws.drop (tkW ws).length

theorem tk_ok {ws : Ws} : ∀ x ∈ tkW ws, okN x = true := by
  intro x hx
  have h1 := List.mem_of_mem_take hx
  exact List.all_eq_true.1 List.all_takeWhile x h1
theorem tk_len (ws : Ws) : (tkW ws).length ≤ 8 := by unfold tkW; rw [List.length_take]; omega

theorem takeWhile_of {p : List UInt8 → Bool} {ys r : Ws} (h : ∀ y ∈ ys, p y = true) (hr : ∀ x, r.head? = some x → p x = false) : (ys ++ r).takeWhile p = ys := by
  induction ys with
  | nil =>
    cases r with
    | nil => rfl
    | cons x r => rw [List.nil_append, List.takeWhile_cons_of_neg]; rw [hr x rfl]; simp
  | cons y ys ih =>
    rw [List.cons_append, List.takeWhile_cons_of_pos (h y (by simp)), ih (fun z hz => h z (List.mem_cons_of_mem _ hz))]

theorem takeWhile_ge {p : List UInt8 → Bool} {ys r : Ws} (h : ∀ y ∈ ys, p y = true) : (ys ++ r).takeWhile p = ys ++ r.takeWhile p := by
  induction ys with
  | nil => rfl
  | cons y ys ih =>
    rw [List.cons_append, List.takeWhile_cons_of_pos (h y (by simp)), ih (fun z hz => h z (List.mem_cons_of_mem _ hz))]; rfl

theorem tk_full {ys r : Ws} (h : ∀ y ∈ ys, okN y = true) (hl : ys.length = 8) : tkW (ys ++ r) = ys ∧ lfW (ys ++ r) = r := by
  have e : tkW (ys ++ r) = ys := by
    unfold tkW; rw [takeWhile_ge h, List.take_append_of_le_length (by omega), List.take_of_length_le (by omega)]
  refine ⟨e, ?_⟩
  unfold lfW; rw [e, List.drop_left]
theorem tk_stop {ys r : Ws} (h : ∀ y ∈ ys, okN y = true) (hl : ys.length ≤ 8) (hr : ∀ x, r.head? = some x → okN x = false) : tkW (ys ++ r) = ys ∧ lfW (ys ++ r) = r := by
  have e : tkW (ys ++ r) = ys := by
    unfold tkW; rw [takeWhile_of h hr, List.take_of_length_le (by omega)]
  refine ⟨e, ?_⟩
  unfold lfW; rw [e, List.drop_left]
theorem tk_over {ys r : Ws} (h : ∀ y ∈ ys, okN y = true) (hl : 8 < ys.length) : ∃ x q, lfW (ys ++ r) = x :: q ∧ okN x = true := by
  have e : tkW (ys ++ r) = ys.take 8 := by
    unfold tkW; rw [takeWhile_ge h, List.take_append_of_le_length (by omega)]
  have e2 : lfW (ys ++ r) = ys.drop 8 ++ r := by
    unfold lfW; rw [e, List.length_take, show min 8 ys.length = 8 by omega, List.drop_append_of_le_length (by omega)]
  rw [e2, List.drop_eq_getElem_cons hl]
  exact ⟨_, _, rfl, h _ (List.getElem_mem _)⟩

/-- A sign and the names behind it, if the sign stands there: what is taken, what is left, whether it may be. -/
def prW (x : List UInt8) (ws : Ws) : Ws × Ws × Bool :=
  if ws.head? = some x then (tkW ws.tail, lfW ws.tail, !(tkW ws.tail).isEmpty) else ([], ws, true)

abbrev Bt := Ws × List UInt8 × Ws × Ws × Ws

/-- A build line, as words. -/
def bdW (ws : Ws) : Option Bt :=
  let a := tkW ws
  let r1 := lfW ws
  if a.isEmpty || !(r1.head? == some [58]) then none else
  let r2 := r1.tail
  let rule := r2.headD []
  if !okN rule then none else
  let r3 := r2.tail
  let b := tkW r3
  let c := prW [124] (lfW r3)
  let d := prW [124, 124] c.2.1
  if c.2.2 && d.2.2 && d.2.1.isEmpty then some (a, rule, b, c.1, d.1) else none

theorem bd_none1 {ws : Ws} (h : tkW ws = []) : bdW ws = none := by
  unfold bdW; simp [h]
theorem bd_none2 {ws : Ws} (h : (lfW ws).head? ≠ some [58]) : bdW ws = none := by
  unfold bdW; simp [h]
theorem bd_none3 {ws : Ws} (h : okN ((lfW ws).tail.headD []) = false) : bdW ws = none := by
  unfold bdW
  simp only [h]
  split <;> rfl
theorem bd_last {ws : Ws} (h1 : tkW ws ≠ []) (h2 : (lfW ws).head? = some [58]) (h3 : okN ((lfW ws).tail.headD []) = true) :
    bdW ws = (if (prW [124] (lfW (lfW ws).tail.tail)).2.2 && (prW [124, 124] (prW [124] (lfW (lfW ws).tail.tail)).2.1).2.2 && (prW [124, 124] (prW [124] (lfW (lfW ws).tail.tail)).2.1).2.1.isEmpty then
      some (tkW ws, (lfW ws).tail.headD [], tkW (lfW ws).tail.tail, (prW [124] (lfW (lfW ws).tail.tail)).1, (prW [124, 124] (prW [124] (lfW (lfW ws).tail.tail)).2.1).1) else none) := by
  unfold bdW
  have e1 : (tkW ws).isEmpty = false := by cases h : tkW ws with
    | nil => exact absurd h h1
    | cons x y => rfl
  have e2 : ((lfW ws).head? == some [58]) = true := by rw [h2]; rfl
  simp only [e1, e2, h3]
  rfl

def btS (x : Option Bt) : Bt := x.getD ([], [], [], [], [])
def btE (x : Option Bt) : Int := if x.isSome then 0 else 700

def bdR (l : List UInt8) : Option Bt := bdW (wdL l)

end Go.Proofs.YtpddckgkaopnlaaGreatDoor

/- Plain facts on cut texts: how many pieces there are, how long they are; texts one behind the other; with no program in them; no conditions. -/
namespace Go.Proofs.YtpddckgkaopnlaaGreatDoor
open Go.RowKit

def vsize : Tok → Nat
  | .inl _ => 0
  | .inr n => n.length

theorem tk_vsize {l : List UInt8} {x : Tok} {k : Nat} (h : tk l = some (x, k)) : vsize x ≤ 16 := by
  unfold tk at h
  split at h
  · cases h
  · split at h
    · simp at h; obtain ⟨rfl, _⟩ := h; simp [vsize]
    · split at h
      · cases h
      · split at h
        · simp at h; obtain ⟨rfl, _⟩ := h; simp [vsize]
        · split at h
          · split at h
            · simp at h; obtain ⟨rfl, _⟩ := h; simp [vsize]; omega
            · cases h
          · split at h
            · simp at h; obtain ⟨rfl, _⟩ := h; simp [vsize]; omega
            · cases h

theorem tksF_facts : ∀ (n : Nat) (l : List UInt8) (ts : List Tok), tksF n l = some ts → ts.length ≤ l.length ∧ ∀ x ∈ ts, vsize x ≤ 16
  | _, [], ts, h => by simp [tksF] at h; subst h; simp
  | 0, c :: r, ts, h => by simp [tksF] at h
  | n + 1, c :: r, ts, h => by
    unfold tksF at h
    cases ht : tk (c :: r) with
    | none => rw [ht] at h; cases h
    | some xk =>
      obtain ⟨x, k⟩ := xk
      rw [ht] at h
      simp only [Option.map_eq_some_iff] at h
      obtain ⟨us, hu, rfl⟩ := h
      obtain ⟨h1, h2⟩ := tksF_facts n _ us hu
      have hk := tk_pos ht
      refine ⟨?_, ?_⟩
      · rw [List.length_drop] at h1; simp only [List.length_cons] at *; omega
      · intro y hy
        rcases List.mem_cons.1 hy with rfl | hy
        · exact tk_vsize ht
        · exact h2 y hy

theorem tks_facts {l : List UInt8} {ts : List Tok} (h : tks l = some ts) : ts.length ≤ l.length ∧ ∀ x ∈ ts, vsize x ≤ 16 := tksF_facts _ _ _ h

theorem addAll_facts : ∀ (ts : List Tok) (ps : List Pc) (n : Nat), 16 ≤ n → most n ps → (∀ x ∈ ts, vsize x ≤ 16) → most (n + ts.length) (addAll ps ts) ∧ (addAll ps ts).length ≤ ps.length + ts.length
  | [], ps, n, _, hm, _ => ⟨hm, by simp [addAll]⟩
  | x :: r, ps, n, h16, hm, hv => by
    have hx : most (n + 1) (add ps x) := by
      cases x with
      | inl c => exact most_t hm c
      | inr m => exact most_snoc (most_mono hm (by omega)) (by have := hv (.inr m) (by simp); simp [vsize] at this ⊢; omega)
    have := addAll_facts r (add ps x) (n + 1) (by omega) hx (fun y hy => hv y (by simp [hy]))
    have hl := add_len ps x
    have e : addAll ps (x :: r) = addAll (add ps x) r := rfl
    rw [e]
    exact ⟨most_mono this.1 (by simp; omega), by simp; omega⟩

theorem cutP_facts (l : List UInt8) : (cutP l).length ≤ 2048 ∧ most 2064 (cutP l) := by
  unfold cutP cutL
  split
  · rename_i h
    cases ht : tks l with
    | none => simp [most_nil]
    | some ts =>
      obtain ⟨h1, h2⟩ := tks_facts ht
      have := addAll_facts ts [] 16 (by omega) (most_nil _) h2
      simp at this
      exact ⟨by simp; omega, most_mono this.1 (by omega)⟩
  · simp [most_nil]

/-- A part of a text, told so that it stands alone. -/
def wrT : Tok → List UInt8
  | .inl c => if c = 36 then [36, 36] else [c]
  | .inr n => 36 :: 123 :: (n ++ [125])
def wrAll (ts : List Tok) : List UInt8 := ts.flatMap wrT
def goodT : Tok → Bool
  | .inl c => plainL [c]
  | .inr n => decide (1 ≤ n.length) && decide (n.length ≤ 16) && n.all vb && plainL n

theorem wrAll_snoc (ts : List Tok) (x : Tok) : wrAll (ts ++ [x]) = wrAll ts ++ wrT x := by unfold wrAll; rw [List.flatMap_append]; simp

theorem nlen_all (l : List UInt8) : ∀ n : List UInt8, n.all vb = true → nlen (n ++ 125 :: l) = n.length
  | [], _ => by simp [nlen]; decide
  | c :: r, h => by
    rw [List.all_cons, Bool.and_eq_true_iff] at h
    rw [List.cons_append, nlen, if_pos h.1, nlen_all l r h.2]; rfl

theorem tk_wr (x : Tok) (l : List UInt8) (h : goodT x = true) : tk (wrT x ++ l) = some (x, (wrT x).length) := by
  cases x with
  | inl c =>
    unfold wrT
    by_cases hc : c = 36
    · subst hc; simp [tk]
    · simp [tk, hc]
  | inr n =>
    unfold goodT at h
    simp only [Bool.and_eq_true, decide_eq_true_eq] at h
    obtain ⟨⟨⟨h1, h2⟩, h3⟩, h4⟩ := h
    have hn := nlen_all l n h3
    have e : wrT (.inr n) ++ l = 36 :: 123 :: (n ++ 125 :: l) := by simp [wrT]
    rw [e]
    simp only [tk, ne_eq, not_true_eq_false, if_false]
    rw [if_neg (by decide), if_pos trivial, hn, if_pos ⟨h1, h2, by rw [List.getElem?_append_right (Nat.le_refl _)]; simp⟩]
    simp [wrT]

theorem tks_wr : ∀ (ts : List Tok), (∀ x ∈ ts, goodT x = true) → tks (wrAll ts) = some ts
  | [], _ => rfl
  | x :: r, h => by
    have e : wrAll (x :: r) = wrT x ++ wrAll r := by simp [wrAll]
    rw [e, tks_step (tk_wr x (wrAll r) (h x (by simp))), List.drop_left, tks_wr r (fun y hy => h y (by simp [hy]))]; rfl

theorem plain_wr : ∀ (ts : List Tok), (∀ x ∈ ts, goodT x = true) → plainL (wrAll ts) = true
  | [], _ => rfl
  | x :: r, h => by
    have e : wrAll (x :: r) = wrT x ++ wrAll r := by simp [wrAll]
    rw [e, plainL_app, plain_wr r (fun y hy => h y (by simp [hy])), Bool.and_true]
    have hx := h x (by simp)
    cases x with
    | inl c =>
      by_cases hc : c = 36
      · subst hc; decide
      · rw [show wrT (.inl c) = [c] by simp [wrT, hc]]; exact hx
    | inr n =>
      unfold goodT at hx
      simp only [Bool.and_eq_true, decide_eq_true_eq] at hx
      have e2 : wrT (.inr n) = [36, 123] ++ (n ++ [125]) := rfl
      rw [e2, plainL_app, plainL_app, hx.2]; decide

theorem cut_wr (ts : List Tok) (h : ∀ x ∈ ts, goodT x = true) (hl : (wrAll ts).length ≤ 2048) : cutP (wrAll ts) = addAll [] ts ∧ cutE (wrAll ts) = 0 :=
  cut_of hl (plain_wr ts h) (tks_wr ts h)

/-- What the statement's loop holds. -/
structure JS (k : Nat) (t : ByteArray) (ps : List Pc) (ts : List Tok) : Prop where
  len : ts.length ≤ k
  txt : bl t = wrAll ts
  good : ∀ x ∈ ts, goodT x = true
  ps : ps = addAll [] ts
  size : t.size ≤ 6 * k

theorem good_vsize {x : Tok} (h : goodT x = true) : vsize x ≤ 16 := by
  cases x with
  | inl c => simp [vsize]
  | inr n => unfold goodT at h; simp only [Bool.and_eq_true, decide_eq_true_eq] at h; simp [vsize]; omega

theorem JS.start : JS 0 ⟨#[]⟩ [] [] := ⟨by simp, rfl, by simp, rfl, by decide⟩
theorem JS.step {k : Nat} {t u : ByteArray} {ps : List Pc} {ts : List Tok} {x : Tok} (h : JS k t ps ts) (hg : goodT x = true) (hu : bl u = wrT x) (hs : u.size ≤ 6) : JS (k + 1) (t ++ u) (add ps x) (ts ++ [x]) := by
  refine ⟨by have := h.len; simp; omega, by rw [bl_app, h.txt, hu, wrAll_snoc], ?_, by rw [addAll_snoc, h.ps], ?_⟩
  · intro y hy
    rcases List.mem_append.1 hy with hy | hy
    · exact h.good y hy
    · rw [List.mem_singleton.1 hy]; exact hg
  · rw [← bl_size, bl_app, List.length_append, bl_size, bl_size]; have := h.size; omega
theorem JS.facts {k : Nat} {t : ByteArray} {ps : List Pc} {ts : List Tok} (h : JS k t ps ts) : ps.length ≤ k ∧ most (16 + k) ps := by
  have := addAll_facts ts [] 16 (by omega) (most_nil _) (fun x hx => good_vsize (h.good x hx))
  rw [← h.ps] at this
  have hl := h.len
  simp at this
  exact ⟨by omega, most_mono this.1 (by omega)⟩
theorem JS.done {k : Nat} {t : ByteArray} {ps : List Pc} {ts : List Tok} (h : JS k t ps ts) (hk : k ≤ 20) : cutP (bl t) = ps ∧ cutE (bl t) = 0 := by
  have hs := h.size
  rw [h.txt, h.ps]
  exact cut_wr ts h.good (by rw [← h.txt, bl_size]; omega)

end Go.Proofs.YtpddckgkaopnlaaGreatDoor

/- Plain facts on rows of structs in memory: how they lie, what stays of them when memory is made, what a write into one does; with no program in them; no conditions. -/
namespace Go.Proofs.YtpddckgkaopnlaaGreatDoor
open Go.RowKit

/-- A row's cells: each element's, one behind the other. -/
def lay {α : Type} (f : α → List Value) (xs : List α) : List Value := xs.flatMap f

theorem lay_nil {α : Type} (f : α → List Value) : lay f [] = [] := rfl
theorem lay_app {α : Type} (f : α → List Value) (xs ys : List α) : lay f (xs ++ ys) = lay f xs ++ lay f ys := by unfold lay; rw [List.flatMap_append]
theorem lay_snoc {α : Type} (f : α → List Value) (xs : List α) (y : α) : lay f (xs ++ [y]) = lay f xs ++ f y := by rw [lay_app]; simp [lay]
theorem lay_cons {α : Type} (f : α → List Value) (x : α) (xs : List α) : lay f (x :: xs) = f x ++ lay f xs := by simp [lay]

theorem lay_length {α : Type} {f : α → List Value} {sz : Nat} (hf : ∀ x, (f x).length = sz) : ∀ xs : List α, (lay f xs).length = xs.length * sz
  | [] => by simp [lay]
  | x :: r => by rw [lay_cons, List.length_append, hf, lay_length hf r, List.length_cons, Nat.add_mul]; omega

theorem lay_get {α : Type} {f : α → List Value} {sz : Nat} (hf : ∀ x, (f x).length = sz) : ∀ (xs : List α) (j i : Nat) (x : α), xs[j]? = some x → i < sz → (lay f xs)[j * sz + i]? = (f x)[i]?
  | [], j, i, x, h, _ => by simp at h
  | y :: r, 0, i, x, h, hi => by
    simp at h; subst h
    rw [lay_cons, List.getElem?_append_left (by rw [hf]; omega)]; simp
  | y :: r, j + 1, i, x, h, hi => by
    simp at h
    rw [lay_cons, List.getElem?_append_right (by rw [hf, Nat.add_mul]; omega), hf, show (j + 1) * sz + i - sz = j * sz + i by rw [Nat.add_mul]; omega]
    exact lay_get hf r j i x h hi

theorem lay_set {α : Type} {f : α → List Value} {sz : Nat} (hf : ∀ x, (f x).length = sz) : ∀ (xs : List α) (j i : Nat) (x y : α) (v : Value), xs[j]? = some x → i < sz → f y = (f x).set i v → lay f (xs.set j y) = (lay f xs).set (j * sz + i) v
  | [], j, i, x, y, v, h, _, _ => by simp at h
  | z :: r, 0, i, x, y, v, h, hi, he => by
    simp at h; subst h
    rw [List.set_cons_zero, lay_cons, lay_cons, he, List.set_append_left _ _ (by rw [hf]; omega)]; simp
  | z :: r, j + 1, i, x, y, v, h, hi, he => by
    simp at h
    rw [List.set_cons_succ, lay_cons, lay_cons, List.set_append_right _ _ (by rw [hf, Nat.add_mul]; omega), hf, show (j + 1) * sz + i - sz = j * sz + i by rw [Nat.add_mul]; omega]
    rw [lay_set hf r j i x y v h hi he]

/-- What is owned stays owned where all that was there is as it was. -/
theorem own_q {w w' : World} {B e size n : Nat} {v : Value} {xs : List Value} (h : w.ownsRow B e size v n xs) (hb : Q w w') : w'.ownsRow B e size v n xs := by
  obtain ⟨h1, h2⟩ := h
  rcases h2 with hn | ⟨g, cap, cur, e1, hg, hgg, rest⟩
  · exact ⟨h1, Or.inl hn⟩
  · exact ⟨h1, Or.inr ⟨g, cap, cur, e1, hg, (hb.block g (Array.getElem?_eq_some_iff.1 hgg).1).trans hgg, rest⟩⟩

theorem own_low {w : World} {B B' e size n : Nat} {v : Value} {xs : List Value} (h : w.ownsRow B e size v n xs) (hb : B' ≤ B) : w.ownsRow B' e size v n xs := by
  obtain ⟨h1, h2⟩ := h
  rcases h2 with hn | ⟨g, cap, cur, e1, hg, rest⟩
  · exact ⟨h1, Or.inl hn⟩
  · exact ⟨h1, Or.inr ⟨g, cap, cur, e1, Nat.le_trans hb hg, rest⟩⟩

/-- Rows whose elements are of two types lie apart. -/
theorem own_apart {w : World} {B B' e e' size size' n n' : Nat} {v v' : Value} {xs xs' : List Value} (h : w.ownsRow B e size v n xs) (h' : w.ownsRow B' e' size' v' n' xs') (hne : e ≠ e') : v.ownBlock = none ∨ v.ownBlock ≠ v'.ownBlock := by
  rcases h.2 with ⟨e1, _⟩ | ⟨g, cap, cur, e1, _, hgg, _⟩
  · left; rw [e1]; rfl
  · right
    rcases h'.2 with ⟨e2, _⟩ | ⟨g', cap', cur', e2, _, hgg', _⟩
    · rw [e1, e2]; simp [Value.ownBlock]
    · rw [e1, e2]
      intro he
      simp only [Value.ownBlock, Option.some.injEq] at he
      subst he
      rw [hgg] at hgg'
      simp only [Option.some.injEq, Obj.cells.injEq] at hgg'
      exact hne hgg'.2.1

theorem own_le {w : World} {B e size n cap : Nat} {ao : Option Addr} {m : Nat} {xs : List Value} (h : w.ownsRow B e size (.slice ao m cap) n xs) : n ≤ cap ∧ cap ≤ maxLen ∧ m = n := by
  rcases h.2 with ⟨e1, h2⟩ | ⟨g, cap', cur, e1, hb, hh, hn, hm, hs, ht⟩
  · cases e1; exact ⟨by omega, by unfold maxLen; omega, by omega⟩
  · cases e1; exact ⟨hn, hm, rfl⟩

/-- Elements that lie in a row, to be read. -/
def RowG {α : Type} (f : α → List Value) (sz : Nat) (w : World) (ao : Option Addr) (xs : List α) : Prop :=
  (xs = []) ∨ ∃ g o, ao = some ⟨g, o, none⟩ ∧ g < w.heap.size ∧ ∀ (j i : Nat) x v, xs[j]? = some x → i < sz → (f x)[i]? = some v → w.cell? ⟨g, o + (j * sz + i), none⟩ = some v

theorem RowG.q {α : Type} {f : α → List Value} {sz : Nat} {w w' : World} {ao : Option Addr} {xs : List α} (h : RowG f sz w ao xs) (hb : Q w w') : RowG f sz w' ao xs := by
  rcases h with h | ⟨g, o, e, hg, hc⟩
  · exact Or.inl h
  · exact Or.inr ⟨g, o, e, Nat.lt_of_lt_of_le hg hb.size, fun j i x v h1 h2 h3 => (hb.cell (p := ⟨g, o + (j * sz + i), none⟩) hg).trans (hc j i x v h1 h2 h3)⟩

theorem RowG.own {α : Type} {f : α → List Value} {sz : Nat} (hf : ∀ x, (f x).length = sz) (hz : 0 < sz) {w : World} {B e cap n : Nat} {ao : Option Addr} {xs : List α} (h : w.ownsRow B e sz (.slice ao n cap) n (lay f xs)) : RowG f sz w ao xs := by
  obtain ⟨h1, h2⟩ := h
  rw [lay_length hf] at h1
  rcases h2 with ⟨e1, h2⟩ | ⟨g, cap', cur, e1, hb, hh, hn, hm, hs, ht⟩
  · left
    rw [h2, Nat.zero_mul] at h1
    rcases Nat.mul_eq_zero.1 h1 with h | h
    · exact List.eq_nil_of_length_eq_zero h
    · omega
  · cases e1
    refine Or.inr ⟨g, 0, rfl, (Array.getElem?_eq_some_iff.1 hh).1, ?_⟩
    intro j i x v hx hi hv
    rw [Nat.zero_add, cell_of_row w g (j * sz + i) cur e (0, 0) hh, ← Array.getElem?_toList]
    have hj : j < xs.length := (List.getElem?_eq_some_iff.1 hx).1
    have hlt : j * sz + i < n * sz := by
      rw [← h1]
      have : (j + 1) * sz ≤ xs.length * sz := Nat.mul_le_mul_right _ hj
      rw [Nat.add_mul] at this; omega
    have hg := lay_get hf xs j i x hx hi
    rw [← ht, List.getElem?_take, if_pos hlt, hv] at hg
    exact hg

/-- An owned row that is not empty: where it lies, that it may be written. -/
theorem own_some {α : Type} {f : α → List Value} {sz : Nat} (hf : ∀ x, (f x).length = sz) (hz : 0 < sz) {w : World} {B e cap n : Nat} {ao : Option Addr} {xs : List α} (hn : 0 < n) (h : w.ownsRow B e sz (.slice ao n cap) n (lay f xs)) :
    ∃ g, ao = some ⟨g, 0, none⟩ ∧ B ≤ g ∧ g < w.heap.size ∧ (∀ o, w.frozen? ⟨g, o, none⟩ = false) ∧ ∀ (j i : Nat) x v, xs[j]? = some x → i < sz → (f x)[i]? = some v → w.cell? ⟨g, j * sz + i, none⟩ = some v := by
  have hr := RowG.own hf hz h
  obtain ⟨h1, h2⟩ := h
  rw [lay_length hf] at h1
  rcases h2 with ⟨e1, h2⟩ | ⟨g, cap', cur, e1, hb, hh, hnn, hm, hs, ht⟩
  · omega
  · cases e1
    refine ⟨g, rfl, hb, (Array.getElem?_eq_some_iff.1 hh).1, fun o => frozen_of_row w g o cur e hh, ?_⟩
    intro j i x v hx hi hv
    rcases hr with hr | ⟨g', o, e2, hg, hc⟩
    · rw [hr] at hx; simp at hx
    · cases e2
      have := hc j i x v hx hi hv
      rwa [Nat.zero_add] at this

/-- A cell of an owned row is written. -/
theorem own_set {α : Type} {f : α → List Value} {sz : Nat} (hf : ∀ x, (f x).length = sz) {w : World} {B e cap n g : Nat} {xs : List α} (h : w.ownsRow B e sz (.slice (some ⟨g, 0, none⟩) n cap) n (lay f xs))
    (j i : Nat) (x y : α) (v : Value) (hx : xs[j]? = some x) (hi : i < sz) (he : f y = (f x).set i v) :
    (w.setCell ⟨g, j * sz + i, none⟩ v).ownsRow B e sz (.slice (some ⟨g, 0, none⟩) n cap) n (lay f (xs.set j y)) := by
  obtain ⟨h1, h2⟩ := h
  have hl : (lay f (xs.set j y)).length = n * sz := by
    rw [lay_length hf, List.length_set, ← lay_length hf, h1]
  rcases h2 with ⟨e1, h2⟩ | ⟨g', cap', cur, e1, hb, hh, hn, hm, hs, ht⟩
  · cases e1
  · cases e1
    refine ⟨hl, Or.inr ⟨g, cap, cur.setIfInBounds (j * sz + i) v, rfl, hb, heap_setCell_same w g _ cur e v hh, hn, hm, by simpa using hs, ?_⟩⟩
    rw [lay_set hf xs j i x y v hx hi he, ← ht, Array.toList_setIfInBounds, List.take_set]

/-- What an append asks of a block that has just been made. -/
theorem news_new (w : World) (cs : Array Value) (t : TypeId) : ∀ j u, cs.toList[j]? = some u → (w.alloc (.cells cs t)).cell? ((⟨w.heap.size, 0, none⟩ : Addr).add j) = some u :=
  World.news_of_block (heap_alloc_new w _)
theorem news_at {w : World} {n : Nat} (h : n = w.heap.size) (cs : Array Value) (t : TypeId) : ∀ j u, cs.toList[j]? = some u → (w.alloc (.cells cs t)).cell? ((⟨n, 0, none⟩ : Addr).add j) = some u := by
  subst h; exact news_new w cs t
theorem rowG_block {α : Type} {f : α → List Value} {sz : Nat} (hf : ∀ x, (f x).length = sz) (w : World) (cs : Array Value) (t : TypeId) (xs : List α) (h : cs.toList = lay f xs) : RowG f sz (w.alloc (.cells cs t)) (some ⟨w.heap.size, 0, none⟩) xs := by
  refine Or.inr ⟨w.heap.size, 0, rfl, by simp, ?_⟩
  intro j i x v hx hi hv
  have h1 := news_new w cs t (j * sz + i) v (by rw [h, lay_get hf xs j i x hx hi]; exact hv)
  rw [← h1]
  congr 1
  unfold Addr.add; split <;> simp_all

theorem le_alloc {B : Nat} {w : World} (h : B ≤ w.heap.size) (o : Obj) : B ≤ (w.alloc o).heap.size := Nat.le_trans h (by simp)
theorem size_alloc (w : World) (o : Obj) : (w.alloc o).heap.size = w.heap.size + 1 := by simp
theorem one_int (k : IntKind) (n : Int) : ∀ u ∈ [Value.int k n], u.oneCell' = true := by intro u hu; simp at hu; subst hu; rfl
theorem one_str (s : ByteArray) : ∀ u ∈ [Value.string s], u.oneCell' = true := by intro u hu; simp at hu; subst hu; rfl
theorem one_bs (b : Bool) (s : ByteArray) : ∀ u ∈ [Value.bool b, .string s], u.oneCell' = true := by intro u hu; simp at hu; rcases hu with rfl | rfl <;> rfl

end Go.Proofs.YtpddckgkaopnlaaGreatDoor

/- Plain facts on scopes, with no program in them: binds, which may be, where a name stands, one set, one told; no conditions. -/
namespace Go.Proofs.YtpddckgkaopnlaaGreatDoor
open Go.RowKit

/-- A bind: its name, its text. -/
abbrev Bd := ByteArray × ByteArray

def dv (b : Bd) : List Value := [.string b.1, .string b.2]
theorem dv_len (b : Bd) : (dv b).length = 2 := rfl

theorem bl_inj {x y : ByteArray} (h : bl x = bl y) : x = y := (of_bl h).trans (of_bl rfl).symm

def named (n : ByteArray) (b : Bd) : Bool := bl b.1 == bl n
theorem named_toList (n : ByteArray) (b : Bd) : (b.1.toList == n.toList) = named n b := by rw [bl_toList, bl_toList]; rfl
theorem named_eq {n : ByteArray} {b : Bd} (h : named n b = true) : b.1 = n := bl_inj (by simpa [named] using h)

/-- May the text be one's? -/
def txB (t : ByteArray) : Bool := decide ((t.size : Int) ≤ 256) && plainL (bl t)
def mayBd (b : Bd) : Bool := mayB b.1 && txB b.2

def okAt (bs : List Bd) (k : Nat) (b : Bd) : Bool := mayBd b && !(bs.take k).any (named b.1)
def okK (bs : List Bd) : Nat → Bool
  | 0 => true
  | k + 1 => okK bs k && (match bs[k]? with | some b => okAt bs k b | none => true)

/-- May the scope be? -/
def scOk (bs : List Bd) : Bool := decide (bs.length ≤ 16) && okK bs bs.length

theorem okK_succ {bs : List Bd} {k : Nat} {b : Bd} (h : bs[k]? = some b) : okK bs (k + 1) = (okK bs k && okAt bs k b) := by
  show (okK bs k && _) = _
  rw [h]

theorem okK_down {bs : List Bd} {m : Nat} (h : okK bs m = true) : ∀ {k : Nat}, k ≤ m → okK bs k = true := by
  induction m with
  | zero => intro k hk; rw [Nat.le_zero.1 hk]; rfl
  | succ m ih =>
    intro k hk
    rcases Nat.lt_or_ge k (m + 1) with h1 | h1
    · refine ih ?_ (Nat.lt_succ_iff.1 h1)
      exact (Bool.and_eq_true_iff.1 (show (okK bs m && _) = true from h)).1
    · rw [Nat.le_antisymm hk h1]; exact h

theorem scOk_bad {bs : List Bd} {k : Nat} {b : Bd} (h : bs[k]? = some b) (hb : okAt bs k b = false) : scOk bs = false := by
  have hlt : k < bs.length := (List.getElem?_eq_some_iff.1 h).1
  unfold scOk
  cases ho : okK bs bs.length
  · simp
  · have := okK_down ho (show k + 1 ≤ bs.length from hlt)
    rw [okK_succ h, hb, Bool.and_false] at this
    cases this
theorem scOk_long {bs : List Bd} (h : 16 < bs.length) : scOk bs = false := by unfold scOk; rw [decide_eq_false (by omega)]; rfl
theorem scOk_end {bs : List Bd} (h : okK bs bs.length = true) : scOk bs = decide (bs.length ≤ 16) := by unfold scOk; rw [h, Bool.and_true]
theorem scOk_parts {bs : List Bd} (h : scOk bs = true) : bs.length ≤ 16 ∧ ∀ k b, bs[k]? = some b → mayBd b = true ∧ (bs.take k).any (named b.1) = false := by
  have h2 := Bool.and_eq_true_iff.1 h
  refine ⟨by simpa using h2.1, fun k b hb => ?_⟩
  have := okK_down h2.2 (show k + 1 ≤ bs.length from (List.getElem?_eq_some_iff.1 hb).1)
  rw [okK_succ hb] at this
  have h3 := Bool.and_eq_true_iff.1 (Bool.and_eq_true_iff.1 this).2
  exact ⟨h3.1, by simpa using h3.2⟩
theorem scOk_of {bs : List Bd} (hl : bs.length ≤ 16) (h : ∀ k b, bs[k]? = some b → mayBd b = true ∧ (bs.take k).any (named b.1) = false) : scOk bs = true := by
  have : ∀ m, m ≤ bs.length → okK bs m = true := by
    intro m
    induction m with
    | zero => intro _; rfl
    | succ m ih =>
      intro hm
      have hg : bs[m]? = some bs[m] := List.getElem?_eq_getElem (by omega)
      obtain ⟨h1, h2⟩ := h m _ hg
      rw [okK_succ hg, ih (by omega), okAt, h1, h2]; rfl
  unfold scOk
  rw [this _ (Nat.le_refl _), decide_eq_true hl]; rfl

/-- Where the name stands. -/
def hit (bs : List Bd) (n : ByteArray) : Option Nat := bs.findIdx? (named n)
def hitI (bs : List Bd) (n : ByteArray) : Int := match hit bs n with | some k => (k : Int) | none => -1

theorem any_take_succ {bs : List Bd} {k : Nat} {b : Bd} (p : Bd → Bool) (h : bs[k]? = some b) : (bs.take (k + 1)).any p = ((bs.take k).any p || p b) := by
  rw [List.take_add_one, h, List.any_append]; simp

theorem hit_at {bs : List Bd} {n : ByteArray} {k : Nat} {b : Bd} (h : bs[k]? = some b) (hno : (bs.take k).any (named n) = false) (hb : named n b = true) : hit bs n = some k := by
  unfold hit
  obtain ⟨hlt, he⟩ := List.getElem?_eq_some_iff.1 h
  rw [List.findIdx?_eq_some_iff_getElem]
  refine ⟨hlt, by rw [he]; exact hb, ?_⟩
  intro j hj
  have := List.any_eq_false.1 hno bs[j] (by
    rw [List.mem_take_iff_getElem]; exact ⟨j, by omega, rfl⟩)
  simpa using this
theorem hit_none {bs : List Bd} {n : ByteArray} (hno : bs.any (named n) = false) : hit bs n = none := by
  unfold hit
  rw [List.findIdx?_eq_none_iff]
  intro x hx
  simpa using List.any_eq_false.1 hno x hx
theorem hit_some {bs : List Bd} {n : ByteArray} {k : Nat} (h : hit bs n = some k) : ∃ b, bs[k]? = some b ∧ named n b = true ∧ (bs.take k).any (named n) = false := by
  unfold hit at h
  rw [List.findIdx?_eq_some_iff_getElem] at h
  obtain ⟨hlt, h1, h2⟩ := h
  refine ⟨bs[k], List.getElem?_eq_getElem hlt, h1, ?_⟩
  rw [List.any_eq_false]
  intro x hx
  rw [List.mem_take_iff_getElem] at hx
  obtain ⟨j, hj, rfl⟩ := hx
  simpa using h2 j (by omega)
theorem hit_none' {bs : List Bd} {n : ByteArray} (h : hit bs n = none) : bs.any (named n) = false := by
  unfold hit at h
  rw [List.findIdx?_eq_none_iff] at h
  rw [List.any_eq_false]
  intro x hx; simpa using h x hx

/-- One is set: the binds, the number. -/
def setB (bs : List Bd) (n t : ByteArray) : List Bd :=
  if scOk bs && mayB n && txB t then
    match hit bs n with
    | some k => bs.set k (n, t)
    | none => if bs.length = 16 then [] else bs ++ [(n, t)]
  else []
def setE (bs : List Bd) (n t : ByteArray) : Int :=
  if scOk bs && mayB n && txB t then
    match hit bs n with
    | some _ => 0
    | none => if bs.length = 16 then 401 else 0
  else 400
/-- One's text is told. -/
def getB (bs : List Bd) (n : ByteArray) : ByteArray :=
  if scOk bs then match hit bs n with
    | some k => match bs[k]? with | some b => b.2 | none => ByteArray.empty
    | none => ByteArray.empty
  else ByteArray.empty

theorem set_no {bs : List Bd} {n t : ByteArray} (h : (scOk bs && mayB n && txB t) = false) : setB bs n t = [] ∧ setE bs n t = 400 := by
  unfold setB setE; rw [h]; exact ⟨rfl, rfl⟩
theorem set_hit {bs : List Bd} {n t : ByteArray} {k : Nat} (h : (scOk bs && mayB n && txB t) = true) (hh : hit bs n = some k) : setB bs n t = bs.set k (n, t) ∧ setE bs n t = 0 := by
  unfold setB setE; rw [h, hh]; exact ⟨rfl, rfl⟩
theorem set_full {bs : List Bd} {n t : ByteArray} (h : (scOk bs && mayB n && txB t) = true) (hh : hit bs n = none) (hl : bs.length = 16) : setB bs n t = [] ∧ setE bs n t = 401 := by
  unfold setB setE; rw [h, hh]; simp [hl]
theorem set_more {bs : List Bd} {n t : ByteArray} (h : (scOk bs && mayB n && txB t) = true) (hh : hit bs n = none) (hl : bs.length ≠ 16) : setB bs n t = bs ++ [(n, t)] ∧ setE bs n t = 0 := by
  unfold setB setE; rw [h, hh]; simp [hl]
theorem get_no {bs : List Bd} {n : ByteArray} (h : scOk bs = false) : getB bs n = ByteArray.empty := by unfold getB; rw [h]; rfl
theorem get_hit {bs : List Bd} {n : ByteArray} {k : Nat} {b : Bd} (h : scOk bs = true) (hh : hit bs n = some k) (hb : bs[k]? = some b) : getB bs n = b.2 := by
  unfold getB; rw [h, hh]; simp [hb]
theorem get_none {bs : List Bd} {n : ByteArray} (hh : hit bs n = none) : getB bs n = ByteArray.empty := by
  unfold getB; rw [hh]; simp

/-- Each text is no longer than a string can be. -/
def Fit (bs : List Bd) : Prop := ∀ b ∈ bs, b.1.size ≤ maxLen ∧ b.2.size ≤ maxLen
theorem Fit.at {bs : List Bd} (h : Fit bs) {k : Nat} {b : Bd} (hb : bs[k]? = some b) : b.1.size ≤ maxLen ∧ b.2.size ≤ maxLen := h b (List.mem_of_getElem? hb)

theorem mayB_size {s : ByteArray} (h : mayB s = true) : s.size ≤ 16 := by
  unfold mayB at h
  have := (Bool.and_eq_true_iff.1 (Bool.and_eq_true_iff.1 h).1).2
  simpa using this
theorem txB_size {s : ByteArray} (h : txB s = true) : s.size ≤ 256 := by
  unfold txB at h
  have := (Bool.and_eq_true_iff.1 h).1
  have h2 := of_decide_eq_true this
  omega
theorem mayBd_size {b : Bd} (h : mayBd b = true) : b.1.size ≤ 16 ∧ b.2.size ≤ 256 := by
  have := Bool.and_eq_true_iff.1 h
  exact ⟨mayB_size this.1, txB_size this.2⟩

/-- What is set may be. -/
theorem set_ok {bs : List Bd} {n t : ByteArray} (h : setE bs n t = 0) : scOk (setB bs n t) = true := by
  cases ha : (scOk bs && mayB n && txB t)
  · rw [(set_no ha).2] at h; cases h
  have h3 := Bool.and_eq_true_iff.1 ha
  have h4 := Bool.and_eq_true_iff.1 h3.1
  obtain ⟨hl, hk⟩ := scOk_parts h4.1
  have hnt : mayBd (n, t) = true := by unfold mayBd; rw [h4.2, h3.2]; rfl
  cases hh : hit bs n with
  | none =>
    by_cases h16 : bs.length = 16
    · rw [(set_full ha hh h16).2] at h; cases h
    · rw [(set_more ha hh h16).1]
      refine scOk_of (by rw [List.length_append]; simp; omega) ?_
      intro k b hb
      rcases Nat.lt_or_ge k bs.length with h1 | h1
      · rw [List.getElem?_append_left h1] at hb
        rw [List.take_append_of_le_length (by omega)]
        exact hk k b hb
      · rw [List.getElem?_append_right h1] at hb
        have h0 : k - bs.length = 0 := by
          rcases Nat.eq_zero_or_pos (k - bs.length) with h | h
          · exact h
          · rw [List.getElem?_eq_none (by simp; omega)] at hb; cases hb
        rw [h0] at hb
        simp at hb
        subst hb
        refine ⟨hnt, ?_⟩
        rw [show k = bs.length by omega, List.take_left]
        exact hit_none' hh
  | some i =>
    obtain ⟨c, hc, hcn, hno⟩ := hit_some hh
    rw [(set_hit ha hh).1]
    have hne : ∀ (m : ByteArray) (k : Nat), ((bs.set i (n, t)).take k).any (named m) = (bs.take k).any (named m) := by
      intro m k
      rw [List.take_set]
      rw [Bool.eq_iff_iff, List.any_eq_true, List.any_eq_true]
      have hcm : named m c = named m (n, t) := by unfold named; rw [named_eq hcn]
      constructor
      · rintro ⟨x, hx, hm⟩
        rcases List.mem_or_eq_of_mem_set hx with h1 | h1
        · exact ⟨x, h1, hm⟩
        · subst h1
          rw [List.mem_iff_getElem?] at hx
          obtain ⟨j, hj⟩ := hx
          by_cases hji : j = i
          · subst hji
            have hlen : j < (bs.take k).length := by
              have := (List.getElem?_eq_some_iff.1 hj).1
              simpa using this
            have : (bs.take k)[j]? = some c := by rw [List.getElem?_take, if_pos (by simp at hlen; omega)]; exact hc
            exact ⟨c, List.mem_of_getElem? this, by rw [hcm]; exact hm⟩
          · rw [List.getElem?_set_ne (Ne.symm hji)] at hj
            exact ⟨_, List.mem_of_getElem? hj, hm⟩
      · rintro ⟨x, hx, hm⟩
        rw [List.mem_iff_getElem?] at hx
        obtain ⟨j, hj⟩ := hx
        by_cases hji : j = i
        · subst hji
          have hjl := (List.getElem?_eq_some_iff.1 hj).1
          refine ⟨(n, t), List.mem_of_getElem? (i := j) (by rw [List.getElem?_set_self hjl]), ?_⟩
          have : x = c := by
            rw [List.getElem?_take, if_pos (by simp at hjl; omega)] at hj
            rw [hc] at hj; exact (Option.some.inj hj).symm
          rw [← hcm, ← this]; exact hm
        · exact ⟨x, List.mem_of_getElem? (i := j) (by rw [List.getElem?_set_ne (Ne.symm hji)]; exact hj), hm⟩
    refine scOk_of (by rw [List.length_set]; exact hl) ?_
    intro k b hb
    rw [hne]
    by_cases hki : k = i
    · subst hki
      rw [List.getElem?_set_self (List.getElem?_eq_some_iff.1 hc).1] at hb
      cases hb
      exact ⟨hnt, hno⟩
    · rw [List.getElem?_set_ne (Ne.symm hki)] at hb
      exact hk k b hb

theorem set_fit {bs : List Bd} {n t : ByteArray} : Fit (setB bs n t) ∧ (setB bs n t).length ≤ 16 ∧ ∀ b ∈ setB bs n t, b.1.size ≤ 16 ∧ b.2.size ≤ 256 := by
  by_cases h : setE bs n t = 0
  · have h2 := scOk_parts (set_ok h)
    have h3 : ∀ b ∈ setB bs n t, b.1.size ≤ 16 ∧ b.2.size ≤ 256 := by
      intro b hb
      obtain ⟨k, hk⟩ := List.mem_iff_getElem?.1 hb
      exact mayBd_size (h2.2 k b hk).1
    exact ⟨fun b hb => by have := h3 b hb; unfold maxLen; omega, h2.1, h3⟩
  · have : setB bs n t = [] := by
      unfold setE at h; unfold setB
      split
      · rename_i ha
        rw [ha, if_pos rfl] at h
        cases hh : hit bs n with
        | some k => rw [hh] at h; exact absurd rfl h
        | none =>
          rw [hh] at h
          by_cases h16 : bs.length = 16
          · simp [h16]
          · simp [h16] at h
      · rfl
    rw [this]
    exact ⟨fun b hb => by simp at hb, by simp, fun b hb => by simp at hb⟩

end Go.Proofs.YtpddckgkaopnlaaGreatDoor

/- Plain facts on values, with no program in them: a text's pieces, each told, one behind the other; no conditions. -/
namespace Go.Proofs.YtpddckgkaopnlaaGreatDoor
open Go.RowKit

theorem mk_bl (x : ByteArray) : (⟨(bl x).toArray⟩ : ByteArray) = x := (of_bl rfl).symm

/-- What a piece stands for. -/
def txt (ins outs : List Bd) (p : Pc) : List UInt8 :=
  if p.1 then (if bl (getB ins ⟨p.2.toArray⟩) = [] then bl (getB outs ⟨p.2.toArray⟩) else bl (getB ins ⟨p.2.toArray⟩)) else p.2

/-- What pieces stand for. -/
def evT (ins outs : List Bd) (ps : List Pc) : List UInt8 := ps.flatMap (txt ins outs)

def evOk (l : List UInt8) (ins outs : List Bd) : Bool := decide (cutE l = 0) && scOk ins && scOk outs

/-- The value, or none; the number. -/
def evS (l : List UInt8) (ins outs : List Bd) : List UInt8 :=
  if evOk l ins outs && decide ((evT ins outs (cutP l)).length ≤ 256) then evT ins outs (cutP l) else []
def evE (l : List UInt8) (ins outs : List Bd) : Int :=
  if evOk l ins outs then (if (evT ins outs (cutP l)).length ≤ 256 then 0 else 501) else 500

theorem txt_text {ins outs : List Bd} {l : List UInt8} : txt ins outs (false, l) = l := by simp [txt]
theorem txt_of {ins outs : List Bd} {p : Pc} (h : p.1 = false) : txt ins outs p = p.2 := by simp [txt, h]
theorem txt_out {ins outs : List Bd} {p : Pc} (h : p.1 = true) (h0 : bl (getB ins ⟨p.2.toArray⟩) = []) : txt ins outs p = bl (getB outs ⟨p.2.toArray⟩) := by simp [txt, h, h0]
theorem txt_in {ins outs : List Bd} {p : Pc} (h : p.1 = true) (h0 : bl (getB ins ⟨p.2.toArray⟩) ≠ []) : txt ins outs p = bl (getB ins ⟨p.2.toArray⟩) := by simp [txt, h, h0]

theorem evT_nil (ins outs : List Bd) : evT ins outs [] = [] := rfl
theorem evT_app (ins outs : List Bd) (ps qs : List Pc) : evT ins outs (ps ++ qs) = evT ins outs ps ++ evT ins outs qs := by unfold evT; rw [List.flatMap_append]
theorem evT_snoc (ins outs : List Bd) (ps : List Pc) (p : Pc) : evT ins outs (ps ++ [p]) = evT ins outs ps ++ txt ins outs p := by rw [evT_app]; simp [evT]
theorem evT_take (ins outs : List Bd) {ps : List Pc} {k : Nat} {p : Pc} (h : ps[k]? = some p) : evT ins outs (ps.take (k + 1)) = evT ins outs (ps.take k) ++ txt ins outs p := by
  rw [List.take_add_one, h]; exact evT_snoc _ _ _ _
theorem evT_take_le (ins outs : List Bd) (ps : List Pc) (k : Nat) : (evT ins outs (ps.take k)).length ≤ (evT ins outs ps).length := by
  conv => rhs; rw [← List.take_append_drop k ps, evT_app, List.length_append]
  omega

theorem get_size {bs : List Bd} (n : ByteArray) : (bl (getB bs n)).length ≤ 256 := by
  unfold getB
  split
  · rename_i h
    split
    · split
      · rename_i b hb
        rw [bl_size]
        exact (mayBd_size ((scOk_parts h).2 _ b hb).1).2
      · decide
    · decide
  · decide
theorem txt_le {ins outs : List Bd} {n : Nat} {p : Pc} (hn : 256 ≤ n) (h : p.2.length ≤ n) : (txt ins outs p).length ≤ n := by
  unfold txt
  have h1 := get_size (bs := ins) ⟨p.2.toArray⟩
  have h2 := get_size (bs := outs) ⟨p.2.toArray⟩
  split
  · split <;> omega
  · exact h
theorem txt_cut {ins outs : List Bd} {l : List UInt8} {k : Nat} {p : Pc} (h : (cutP l)[k]? = some p) : (txt ins outs p).length ≤ 2064 :=
  txt_le (by omega) ((cutP_facts l).2 p (List.mem_of_getElem? h))

theorem ev_bad {l : List UInt8} {ins outs : List Bd} (h : evOk l ins outs = false) : evS l ins outs = [] ∧ evE l ins outs = 500 := by
  unfold evS evE; rw [h]; exact ⟨rfl, rfl⟩
theorem ev_long {l : List UInt8} {ins outs : List Bd} (h : evOk l ins outs = true) (h2 : 256 < (evT ins outs (cutP l)).length) : evS l ins outs = [] ∧ evE l ins outs = 501 := by
  unfold evS evE; rw [h, if_neg (by simp; omega), if_pos rfl, if_neg (by omega)]; exact ⟨rfl, rfl⟩
theorem ev_good {l : List UInt8} {ins outs : List Bd} (h : evOk l ins outs = true) (h2 : (evT ins outs (cutP l)).length ≤ 256) : evS l ins outs = evT ins outs (cutP l) ∧ evE l ins outs = 0 := by
  unfold evS evE; rw [h, if_pos (by simp; omega), if_pos rfl, if_pos h2]; exact ⟨rfl, rfl⟩
theorem evOk_cut {l : List UInt8} {ins outs : List Bd} (h : cutE l ≠ 0) : evOk l ins outs = false := by unfold evOk; rw [decide_eq_false h]; rfl
theorem evOk_in {l : List UInt8} {ins outs : List Bd} (h : scOk ins = false) : evOk l ins outs = false := by unfold evOk; rw [h]; simp
theorem evOk_out {l : List UInt8} {ins outs : List Bd} (h : scOk outs = false) : evOk l ins outs = false := by unfold evOk; rw [h]; simp
theorem evOk_all {l : List UInt8} {ins outs : List Bd} (h0 : cutE l = 0) (h1 : scOk ins = true) (h2 : scOk outs = true) : evOk l ins outs = true := by unfold evOk; rw [h1, h2, decide_eq_true h0]; rfl

theorem cut_no_or (l : List UInt8) : cutE l = 0 ∨ cutE l = 300 := by unfold cutE; split <;> simp

/-- A builder stays as it was where nothing old has turned. -/
theorem builder_q {T e B b : Nat} {bs : List Value} {w w' : World} (h : Lib.IsBuilder T e B b bs w) (q : Q w w') : Lib.IsBuilder T e B b bs w' := by
  have go : ∀ p, Lib.BuilderAt T e B b p bs w → Lib.BuilderAt T e B b p bs w' := by
    rintro p ⟨hB, v, hb, hown, hne⟩
    exact ⟨hB, v, (q.block b (Array.getElem?_eq_some_iff.1 hb).1).trans hb, own_q hown q, hne⟩
  rcases h with h | h
  · exact Or.inl (go _ h)
  · exact Or.inr (go _ h)

end Go.Proofs.YtpddckgkaopnlaaGreatDoor

/- Plain facts on manifests, with no program in them: what a text's lines say, one after the other, and the graph that they make; no conditions. -/
namespace Go.Proofs.YtpddckgkaopnlaaGreatDoor
open Go.RowKit

abbrev Tx := List UInt8
/-- An edge: outs, ins, implicit, order, command, deps, pool. -/
abbrev Ed := Ws × Ws × Ws × Ws × Tx × Bool × Tx
abbrev Pl := Tx × Nat
/-- A rule: name, command, deps, pool. -/
abbrev Rl := Tx × Tx × Bool × Tx
abbrev Gr := List Ed × List Pl × Ws
/-- What is under way: nothing, a rule, a pool, a build line (its edge without a command, its rule, its binds). -/
abbrev Un := Option (Rl ⊕ (Pl ⊕ (Ed × Rl × List Bd)))

structure Sm where
  es : List Ed
  ps : List Pl
  ds : Ws
  rs : List Rl
  bs : List Bd
  un : Un

def mkB (l : Tx) : ByteArray := ⟨l.toArray⟩

/-- Cut at the first sign. -/
def ctL (c : UInt8) : Tx → Option (Tx × Tx)
  | [] => none
  | x :: r => if x = c then some ([], r) else (ctL c r).map fun y => (x :: y.1, y.2)

/-- A bind line: its name, its value. -/
def bnL (l : Tx) : Option (Tx × Tx) := match ctL 61 l with
  | none => none
  | some x => if mayL (trL x.1) then some (trL x.1, trL x.2) else none

/-- The first word, what is behind it. -/
def hdL (l : Tx) : Tx × Tx := (ctL 32 l).getD (l, [])

def rlAt (rs : List Rl) (n : Tx) : Option Rl := rs.find? fun r => r.1 == n
def plHas (ps : List Pl) (n : Tx) : Bool := ps.any fun p => p.1 == n

/-- All as paths. -/
def clL : Ws → Option Ws
  | [] => some []
  | x :: r => match cleanL x, clL r with
    | some a, some b => some (a :: b)
    | _, _ => none

/-- A scope's number, here. -/
def rfE (e : Int) : Int := if e = 0 then 0 else if e = 401 then 801 else 800

/-- A bind is set to what a text stands for in the outer scope. -/
def stL (bs ou : List Bd) (k v : Tx) : Except Int (List Bd) :=
  if evE v ou ou ≠ 0 then .error 800 else
  if setE bs (mkB k) (mkB (evS v ou ou)) ≠ 0 then .error (rfE (setE bs (mkB k) (mkB (evS v ou ou)))) else .ok (setB bs (mkB k) (mkB (evS v ou ou)))

def kIn : Tx := [105, 110]
def kOut : Tx := [111, 117, 116]
def kRule : Tx := [114, 117, 108, 101]
def kPool : Tx := [112, 111, 111, 108]
def kBuild : Tx := [98, 117, 105, 108, 100]
def kDefault : Tx := [100, 101, 102, 97, 117, 108, 116]
def kCommand : Tx := [99, 111, 109, 109, 97, 110, 100]
def kDeps : Tx := [100, 101, 112, 115]
def kDepth : Tx := [100, 101, 112, 116, 104]

/-- The inner scope of an edge that is over. -/
def inS (e : Ed) (own : List Bd) : List Bd := setB own (mkB kIn) (mkB (Lib.join e.2.1 [32]))
def inE (e : Ed) (own : List Bd) : Int := setE own (mkB kIn) (mkB (Lib.join e.2.1 [32]))
def ouS (e : Ed) (own : List Bd) : List Bd := setB (inS e own) (mkB kOut) (mkB (Lib.join e.1 [32]))
def ouE (e : Ed) (own : List Bd) : Int := setE (inS e own) (mkB kOut) (mkB (Lib.join e.1 [32]))

/-- The command of an edge that is over. -/
def cmL (e : Ed) (r : Rl) (own ou : List Bd) : Except Int Tx :=
  if inE e own ≠ 0 then .error (rfE (inE e own)) else
  if ouE e own ≠ 0 then .error (rfE (ouE e own)) else
  if evE r.2.1 (ouS e own) ou ≠ 0 ∨ evS r.2.1 (ouS e own) ou = [] then .error 800 else .ok (evS r.2.1 (ouS e own) ou)

def withC (e : Ed) (c : Tx) : Ed := (e.1, e.2.1, e.2.2.1, e.2.2.2.1, c, e.2.2.2.2.2)

/-- What is under way is over. -/
def ovL (s : Sm) : Except Int Sm := match s.un with
  | none => .ok s
  | some (.inl r) => if r.2.1 = [] then .error 800 else .ok ⟨s.es, s.ps, s.ds, s.rs ++ [r], s.bs, none⟩
  | some (.inr (.inl p)) => if p.2 = 0 then .error 800 else .ok ⟨s.es, s.ps ++ [p], s.ds, s.rs, s.bs, none⟩
  | some (.inr (.inr x)) => match cmL x.1 x.2.1 x.2.2 s.bs with
    | .error n => .error n
    | .ok c => .ok ⟨s.es ++ [withC x.1 c], s.ps, s.ds, s.rs, s.bs, none⟩

/-- The depth that a digit tells; 0: none. -/
def dpth : Tx → Nat
  | [c] => if 49 ≤ c.toNat ∧ c.toNat ≤ 56 then c.toNat - 48 else 0
  | _ => 0

/-- What a bind line below a rule tells. -/
def rlT (ps : List Pl) (r : Rl) (k v : Tx) : Option Rl :=
  if k = kCommand ∧ r.2.1 = [] ∧ v ≠ [] then some (r.1, v, r.2.2)
  else if k = kDeps ∧ r.2.2.1 = false ∧ v = [49] then some (r.1, r.2.1, true, r.2.2.2)
  else if k = kPool ∧ r.2.2.2 = [] ∧ plHas ps v = true then some (r.1, r.2.1, r.2.2.1, v)
  else none

/-- What a bind line below the line under way tells. -/
def tkL (s : Sm) (k v : Tx) : Except Int Sm := match s.un with
  | none => .error 800
  | some (.inl r) => match rlT s.ps r k v with
    | none => .error 800
    | some r' => .ok ⟨s.es, s.ps, s.ds, s.rs, s.bs, some (.inl r')⟩
  | some (.inr (.inl p)) => if k = kDepth ∧ p.2 = 0 ∧ dpth v ≠ 0 then .ok ⟨s.es, s.ps, s.ds, s.rs, s.bs, some (.inr (.inl (p.1, dpth v)))⟩ else .error 800
  | some (.inr (.inr x)) => match stL x.2.2 s.bs k v with
    | .error n => .error n
    | .ok own => .ok ⟨s.es, s.ps, s.ds, s.rs, s.bs, some (.inr (.inr (x.1, x.2.1, own)))⟩

def dpL (s : Sm) (l : Tx) : Except Int Sm := match bnL l with
  | none => .error 800
  | some x => tkL s x.1 x.2

/-- The edge of a build line, without its command, and its rule. -/
def edL (rs : List Rl) (l : Tx) : Option (Ed × Rl) := match bdR l with
  | none => none
  | some b => match rlAt rs b.2.1 with
    | none => none
    | some r => match clL b.1, clL b.2.2.1, clL b.2.2.2.1, clL b.2.2.2.2 with
      | some o, some i, some m, some d => some ((o, i, m, d, [], r.2.2.1, r.2.2.2), r)
      | _, _, _, _ => none

def ruL (s : Sm) (n : Tx) : Except Int Sm :=
  if mayL n = false ∨ (rlAt s.rs n).isSome = true then .error 800 else if s.rs.length = 8 then .error 801 else .ok ⟨s.es, s.ps, s.ds, s.rs, s.bs, some (.inl (n, [], false, []))⟩
def poL (s : Sm) (n : Tx) : Except Int Sm :=
  if mayL n = false ∨ plHas s.ps n = true then .error 800 else if s.ps.length = 4 then .error 801 else .ok ⟨s.es, s.ps, s.ds, s.rs, s.bs, some (.inr (.inl (n, 0)))⟩
def buL (s : Sm) (l : Tx) : Except Int Sm := match edL s.rs l with
  | none => .error 800
  | some x => if s.es.length = 16 then .error 801 else .ok ⟨s.es, s.ps, s.ds, s.rs, s.bs, some (.inr (.inr (x.1, x.2, [])))⟩
def deL (s : Sm) (ws : Ws) : Except Int Sm := match clL ws with
  | none => .error 800
  | some ds => if ws = [] then .error 800 else if 8 < s.ds.length + ds.length then .error 801 else .ok ⟨s.es, s.ps, s.ds ++ ds, s.rs, s.bs, none⟩
def biL (s : Sm) (l : Tx) : Except Int Sm := match bnL l with
  | none => .error 800
  | some x => match stL s.bs s.bs x.1 x.2 with
    | .error n => .error n
    | .ok bs => .ok ⟨s.es, s.ps, s.ds, s.rs, bs, none⟩

/-- A line that is not deep, behind what was over. -/
def fwL (s : Sm) (l : Tx) : Except Int Sm :=
  if (hdL l).1 = kRule then ruL s (trL (hdL l).2) else
  if (hdL l).1 = kPool then poL s (trL (hdL l).2) else
  if (hdL l).1 = kBuild then buL s (hdL l).2 else
  if (hdL l).1 = kDefault then deL s (wdL (hdL l).2) else biL s l

def flL (s : Sm) (l : Tx) : Except Int Sm := match ovL s with
  | .error n => .error n
  | .ok s => fwL s l

/-- One line. -/
def liL (s : Sm) (x : Ln) : Except Int Sm := if x.1 then dpL s x.2 else flL s x.2

def lsL : Sm → List Ln → Except Int Sm
  | s, [] => .ok s
  | s, x :: r => match liL s x with
    | .error n => .error n
    | .ok s => lsL s r

def sm0 : Sm := ⟨[], [], [], [], [], none⟩

def grOf (s : Sm) : Gr := (s.es, s.ps, s.ds)

/-- A text's graph, or the number. -/
def mfL (l : Tx) : Except Int Gr := match lnC l with
  | none => .error 800
  | some ls => match lsL sm0 ls with
    | .error n => .error n
    | .ok s => match ovL s with
      | .error n => .error n
      | .ok s => .ok (grOf s)

def gr0 : Gr := ([], [], [])
def mfG (l : Tx) : Gr := match mfL l with | .ok g => g | .error _ => gr0
def mfE (l : Tx) : Int := match mfL l with | .ok _ => 0 | .error n => n

theorem lsL_app (s : Sm) : ∀ (a b : List Ln), lsL s (a ++ b) = match lsL s a with | .error n => .error n | .ok t => lsL t b
  | [], b => rfl
  | x :: r, b => by
    show (match liL s x with | .error n => _ | .ok s => lsL s (r ++ b)) = _
    rw [lsL]
    cases liL s x with
    | error n => rfl
    | ok t => exact lsL_app t r b

end Go.Proofs.YtpddckgkaopnlaaGreatDoor

/- Where the first of a row is that a test takes; a text cut at its first sign: plain facts, no program in them; no conditions. -/
namespace Go.Proofs.YtpddckgkaopnlaaGreatDoor
open Go.RowKit

theorem txt_beq (a : Tx) (n : ByteArray) : ((⟨a.toArray⟩ : ByteArray).toList == n.toList) = (a == bl n) := by rw [bl_toList, bl_toList]; rfl
theorem is_key {k : ByteArray} {l : Tx} (h : bl k = l) : (k.toList == l) = true := by rw [bl_toList, h]; simp
theorem no_key {k : ByteArray} {l : Tx} (h : bl k ≠ l) : (k.toList == l) = false := by rw [bl_toList]; simpa using h
theorem is_keyn {k : ByteArray} {l : Tx} (h : bl k = l) : (k.toList != l) = false := by unfold bne; rw [is_key h]; rfl
theorem no_keyn {k : ByteArray} {l : Tx} (h : bl k ≠ l) : (k.toList != l) = true := by unfold bne; rw [no_key h]; rfl
theorem is_emp {k : ByteArray} (h : bl k = []) : k.toList.isEmpty = true := by rw [bl_toList, h]; rfl
theorem no_emp {k : ByteArray} (h : bl k ≠ []) : k.toList.isEmpty = false := by
  rw [bl_toList]
  cases hb : bl k with
  | nil => exact absurd hb h
  | cons a b => rfl

def ixB {α : Type} (p : α → Bool) (xs : List α) : Int := match xs.findIdx? p with | some k => (k : Int) | none => -1

theorem anyt_succ {α : Type} {xs : List α} {k : Nat} {x : α} (p : α → Bool) (h : xs[k]? = some x) : (xs.take (k + 1)).any p = ((xs.take k).any p || p x) := by
  rw [List.take_add_one, h, List.any_append]; simp
theorem find_at {α : Type} {p : α → Bool} {xs : List α} {k : Nat} {x : α} (h : xs[k]? = some x) (hno : (xs.take k).any p = false) (hx : p x = true) : xs.findIdx? p = some k := by
  obtain ⟨hlt, he⟩ := List.getElem?_eq_some_iff.1 h
  rw [List.findIdx?_eq_some_iff_getElem]
  refine ⟨hlt, by rw [he]; exact hx, ?_⟩
  intro j hj
  have := List.any_eq_false.1 hno xs[j] (by rw [List.mem_take_iff_getElem]; exact ⟨j, by omega, rfl⟩)
  simpa using this
theorem find_no {α : Type} {p : α → Bool} {xs : List α} (hno : xs.any p = false) : xs.findIdx? p = none := by
  rw [List.findIdx?_eq_none_iff]
  intro x hx
  simpa using List.any_eq_false.1 hno x hx
theorem ixB_at {α : Type} {p : α → Bool} {xs : List α} {k : Nat} {x : α} (h : xs[k]? = some x) (hno : (xs.take k).any p = false) (hx : p x = true) : ixB p xs = k := by
  unfold ixB; rw [find_at h hno hx]
theorem ixB_no {α : Type} {p : α → Bool} {xs : List α} (hno : xs.any p = false) : ixB p xs = -1 := by
  unfold ixB; rw [find_no hno]
theorem ixB_dec {α : Type} (p : α → Bool) (xs : List α) : decide (0 ≤ ixB p xs) = xs.any p := by
  unfold ixB
  cases h : xs.findIdx? p with
  | none =>
    rw [List.findIdx?_eq_none_iff] at h
    have : xs.any p = false := by rw [List.any_eq_false]; intro x hx; simpa using h x hx
    rw [this]; rfl
  | some k =>
    rw [List.findIdx?_eq_some_iff_getElem] at h
    obtain ⟨hlt, h1, _⟩ := h
    have : xs.any p = true := List.any_eq_true.2 ⟨xs[k], List.getElem_mem hlt, h1⟩
    rw [this]; simp
/-- The rule of a name, and where it is. -/
theorem rl_none {rs : List Rl} {n : Tx} (h : rlAt rs n = none) : ixB (fun r : Rl => r.1 == n) rs = -1 := by
  refine ixB_no ?_
  rw [List.any_eq_false]
  intro x hx
  exact (List.find?_eq_none.1 h) x hx
theorem rl_some {rs : List Rl} {n : Tx} {r : Rl} (h : rlAt rs n = some r) : ∃ k : Nat, ixB (fun r : Rl => r.1 == n) rs = k ∧ rs[k]? = some r ∧ k < rs.length ∧ r.1 = n := by
  unfold rlAt at h
  rw [List.find?_eq_some_iff_getElem] at h
  obtain ⟨h1, k, hk, he, h2⟩ := h
  refine ⟨k, ?_, by rw [List.getElem?_eq_getElem hk, he], hk, by simpa using h1⟩
  refine ixB_at (x := r) (by rw [List.getElem?_eq_getElem hk, he]) ?_ h1
  rw [List.any_eq_false]
  intro x hx
  rw [List.mem_take_iff_getElem] at hx
  obtain ⟨j, hj, rfl⟩ := hx
  simpa using h2 j (by omega)

theorem ctL_none {d : UInt8} : ∀ {l : Tx}, Lib.indexByte l d = -1 → ctL d l = none
  | [], _ => rfl
  | x :: r, h => by
    have hg := Lib.indexByte_ge r d
    unfold Lib.indexByte at h
    by_cases hx : (x == d) = true
    · rw [if_pos hx] at h; omega
    · rw [if_neg hx] at h
      by_cases h2 : (Lib.indexByte r d == -1) = true
      · have hne : x ≠ d := by simpa using hx
        show (if x = d then _ else _) = _
        rw [if_neg hne, ctL_none (l := r) (by simpa using h2)]; rfl
      · rw [if_neg h2] at h
        have : Lib.indexByte r d ≠ -1 := by simpa using h2
        omega
theorem ctL_some {d : UInt8} : ∀ {l : Tx} {i : Nat}, Lib.indexByte l d = i → ctL d l = some (l.take i, l.drop (i + 1)) ∧ i < l.length
  | [], i, h => by unfold Lib.indexByte at h; omega
  | x :: r, i, h => by
    have hg := Lib.indexByte_ge r d
    unfold Lib.indexByte at h
    by_cases hx : (x == d) = true
    · rw [if_pos hx] at h
      obtain rfl : i = 0 := by omega
      have he : x = d := by simpa using hx
      refine ⟨?_, by simp⟩
      show (if x = d then _ else _) = _
      rw [if_pos he]; rfl
    · rw [if_neg hx] at h
      have hne : x ≠ d := by simpa using hx
      by_cases h2 : (Lib.indexByte r d == -1) = true
      · rw [if_pos h2] at h; omega
      · rw [if_neg h2] at h
        have h3 : Lib.indexByte r d ≠ -1 := by simpa using h2
        obtain ⟨j, hj⟩ : ∃ j : Nat, Lib.indexByte r d = j := ⟨(Lib.indexByte r d).toNat, by omega⟩
        obtain rfl : i = j + 1 := by omega
        obtain ⟨h4, h5⟩ := ctL_some (l := r) hj
        refine ⟨?_, by simp; omega⟩
        show (if x = d then _ else _) = _
        rw [if_neg hne, h4]; rfl

end Go.Proofs.YtpddckgkaopnlaaGreatDoor

/- A manifest's lines are plain and short: plain facts, no program in them; no conditions. -/
namespace Go.Proofs.YtpddckgkaopnlaaGreatDoor
open Go.RowKit

theorem plain_sub {a b : Tx} (h : a.Sublist b) (hb : plainL b = true) : plainL a = true := List.all_eq_true.2 (fun c hc => List.all_eq_true.1 hb c (h.subset hc))
theorem trimR_sub (l : Tx) (c : UInt8) : (Lib.trimRightB l c).Sublist l := by
  unfold Lib.trimRightB
  have := List.dropWhile_sublist (l := l.reverse) (fun b => b == c)
  have h2 := this.reverse
  rwa [List.reverse_reverse] at h2
theorem trL_sub (l : Tx) : (trL l).Sublist l := (List.dropWhile_sublist _).trans (trimR_sub l 32)
theorem rowL_sub (b : Bool) (l : Tx) : (rowL b l).Sublist l := by
  unfold rowL; split
  · exact List.dropWhile_sublist _
  · exact List.Sublist.refl _

theorem cutR_plain : ∀ (rs : List Tx) (b : Bool) (a : Tx) (x : List Ln), cutR b a rs = some x → plainL a = true → (∀ r ∈ rs, plainL r = true) → ∀ y ∈ x, plainL y.2 = true
  | [], b, a, x, h, _, _ => by
    cases b with
    | true => simp [cutR] at h
    | false => simp [cutR] at h; subst h; intro y hy; cases hy
  | r :: rs, b, a, x, h, ha, hr => by
    rw [cutR] at h
    have hrow : plainL (rowL b r) = true := plain_sub (rowL_sub b r) (hr r (by simp))
    split at h
    · exact cutR_plain rs true _ x h (by rw [plainL_app, ha, plain_sub (List.dropLast_sublist _) hrow]; rfl) (fun q hq => hr q (List.mem_cons_of_mem _ hq))
    · obtain ⟨y, h1, rfl⟩ := Option.map_eq_some_iff.1 h
      intro z hz
      rcases List.mem_append.1 hz with hz | hz
      · have hl := Option.mem_toList.1 hz
        unfold lnOf at hl
        split at hl
        · cases hl
        · cases hl
          exact plain_sub (trL_sub _) (by rw [plainL_app, ha, hrow]; rfl)
      · exact cutR_plain rs false [] y h1 rfl (fun q hq => hr q (List.mem_cons_of_mem _ hq)) z hz

theorem lnC_facts {l : Tx} {x : List Ln} (h : lnC l = some x) : x.length ≤ 2048 ∧ ∀ y ∈ x, y.2.length ≤ 2049 ∧ plainL y.2 = true := by
  obtain ⟨h1, h2⟩ := lnC_some h
  obtain ⟨h3, h4, h5⟩ := lnT_some h2
  obtain ⟨h6, h7⟩ := cutR_len _ _ _ _ h5
  have h8 := spc_len 10 l
  rw [List.length_dropLast] at h6
  refine ⟨by omega, fun y hy => ⟨?_, ?_⟩⟩
  · have h9 := h7 y hy
    have h10 : tot (spc 10 l).dropLast ≤ tot (spc 10 l) := by
      rw [rows_end h3, tot_app]; simp
    rw [tot_spc] at h10
    simp at h9; omega
  · refine cutR_plain _ _ _ _ h5 rfl (fun r hr => ?_) y hy
    rw [rows_plain] at h4
    exact List.all_eq_true.1 h4 r (List.dropLast_subset _ hr)

/-- The lines so far. -/
theorem lsL_take {s s1 s2 : Sm} {ls : List Ln} {k : Nat} {x : Ln} (h : lsL s (ls.take k) = .ok s1) (hx : ls[k]? = some x) (h2 : liL s1 x = .ok s2) : lsL s (ls.take (k + 1)) = .ok s2 := by
  rw [List.take_add_one, hx, lsL_app, h]
  show (match liL s1 x with | .error n => _ | .ok s => lsL s []) = _
  rw [h2]; rfl
theorem lsL_stop {s s1 : Sm} {ls : List Ln} {k : Nat} {x : Ln} {n : Int} (h : lsL s (ls.take k) = .ok s1) (hx : ls[k]? = some x) (h2 : liL s1 x = .error n) : lsL s ls = .error n := by
  have hk : k < ls.length := (List.getElem?_eq_some_iff.1 hx).1
  have e : ls = ls.take k ++ (x :: ls.drop (k + 1)) := by
    rw [← (List.getElem?_eq_some_iff.1 hx).2, ← List.drop_eq_getElem_cons hk, List.take_append_drop]
  rw [e, lsL_app, h]
  show (match liL s1 x with | .error n => _ | .ok s => lsL s _) = _
  rw [h2]

theorem mf_none {l : Tx} (h : lnC l = none) : mfG l = gr0 ∧ mfE l = 800 := by unfold mfG mfE mfL; rw [h]; exact ⟨rfl, rfl⟩
theorem mf_line {l : Tx} {ls : List Ln} {n : Int} (h : lnC l = some ls) (h2 : lsL sm0 ls = .error n) : mfG l = gr0 ∧ mfE l = n := by unfold mfG mfE mfL; rw [h]; simp only; rw [h2]; exact ⟨rfl, rfl⟩
theorem mf_over {l : Tx} {ls : List Ln} {s : Sm} {n : Int} (h : lnC l = some ls) (h2 : lsL sm0 ls = .ok s) (h3 : ovL s = .error n) : mfG l = gr0 ∧ mfE l = n := by unfold mfG mfE mfL; rw [h]; simp only; rw [h2]; simp only; rw [h3]; exact ⟨rfl, rfl⟩
theorem mf_ok {l : Tx} {ls : List Ln} {s s1 : Sm} (h : lnC l = some ls) (h2 : lsL sm0 ls = .ok s) (h3 : ovL s = .ok s1) : mfG l = grOf s1 ∧ mfE l = 0 := by unfold mfG mfE mfL; rw [h]; simp only; rw [h2]; simp only; rw [h3]; exact ⟨rfl, rfl⟩

end Go.Proofs.YtpddckgkaopnlaaGreatDoor

/- When two graphs are the same: plain facts, no program in them; no conditions. -/
namespace Go.Proofs.YtpddckgkaopnlaaGreatDoor
open Go.RowKit

def eqEd (a b : Ed) : Bool := decide (a.1 = b.1) && (decide (a.2.1 = b.2.1) && (decide (a.2.2.1 = b.2.2.1) && (decide (a.2.2.2.1 = b.2.2.2.1) && (a.2.2.2.2.1 == b.2.2.2.2.1 && (a.2.2.2.2.2.1 == b.2.2.2.2.2.1 && a.2.2.2.2.2.2 == b.2.2.2.2.2.2)))))
theorem eqEd_iff (a b : Ed) : eqEd a b = true ↔ a = b := by
  obtain ⟨a1, a2, a3, a4, a5, a6, a7⟩ := a
  obtain ⟨c1, c2, c3, c4, c5, c6, c7⟩ := b
  unfold eqEd
  simp only [Bool.and_eq_true, decide_eq_true_eq, beq_iff_eq, Prod.mk.injEq]

def eqEs : List Ed → List Ed → Bool
  | [], [] => true
  | a :: r, b :: s => eqEd a b && eqEs r s
  | _, _ => false
theorem eqEs_iff : ∀ (a b : List Ed), eqEs a b = true ↔ a = b
  | [], [] => by simp [eqEs]
  | a :: r, b :: s => by rw [eqEs, Bool.and_eq_true, eqEd_iff, eqEs_iff r s]; simp
  | [], b :: s => by simp [eqEs]
  | a :: r, [] => by simp [eqEs]
def eqGr (a b : Gr) : Bool := eqEs a.1 b.1 && (decide (a.2.1 = b.2.1) && decide (a.2.2 = b.2.2))
theorem eqGr_iff (a b : Gr) : eqGr a b = true ↔ a = b := by
  obtain ⟨a1, a2, a3⟩ := a
  obtain ⟨b1, b2, b3⟩ := b
  unfold eqGr
  simp only [Bool.and_eq_true, decide_eq_true_eq, eqEs_iff, Prod.mk.injEq]


end Go.Proofs.YtpddckgkaopnlaaGreatDoor

/- What holds of every graph that a manifest makes: plain facts, no program in them; no conditions. -/
namespace Go.Proofs.YtpddckgkaopnlaaGreatDoor
open Go.RowKit

/-- All are clean paths, at most eight. -/
def PathsL (ws : Ws) : Prop := ws.length ≤ 8 ∧ ∀ x ∈ ws, cleanL x = some x
def PoolL (ps : List Pl) (n : Tx) : Prop := n = [] ∨ plHas ps n = true

structure EdP (ps : List Pl) (e : Ed) : Prop where
  o0 : e.1 ≠ []
  o : PathsL e.1
  i : PathsL e.2.1
  m : PathsL e.2.2.1
  d : PathsL e.2.2.2.1
  p : PoolL ps e.2.2.2.2.2.2

structure EdM (ps : List Pl) (e : Ed) : Prop where
  b : EdP ps e
  c : plainL e.2.2.2.2.1 = true
  c1 : 1 ≤ e.2.2.2.2.1.length
  c2 : e.2.2.2.2.1.length ≤ 256

def PlsM (ps : List Pl) : Prop := ps.length ≤ 4 ∧ ∀ k p, ps[k]? = some p → mayL p.1 = true ∧ 1 ≤ p.2 ∧ p.2 ≤ 8 ∧ plHas (ps.take k) p.1 = false

structure GrMay (g : Gr) : Prop where
  p : PlsM g.2.1
  le : g.1.length ≤ 16
  e : ∀ e ∈ g.1, EdM g.2.1 e
  d : PathsL g.2.2

def RlM (ps : List Pl) (r : Rl) : Prop := plainL r.2.1 = true ∧ PoolL ps r.2.2.2
def UnM (s : Sm) : Prop := match s.un with
  | none => True
  | some (.inl r) => RlM s.ps r
  | some (.inr (.inl p)) => mayL p.1 = true ∧ p.2 ≤ 8 ∧ plHas s.ps p.1 = false ∧ s.ps.length ≠ 4
  | some (.inr (.inr x)) => s.es.length ≠ 16 ∧ EdP s.ps x.1 ∧ RlM s.ps x.2.1

structure SmMay (s : Sm) : Prop where
  p : PlsM s.ps
  le : s.es.length ≤ 16
  e : ∀ e ∈ s.es, EdM s.ps e
  d : PathsL s.ds
  r : ∀ r ∈ s.rs, RlM s.ps r
  un : UnM s

theorem sm0_may : SmMay sm0 := ⟨⟨by decide, (fun k p h => by simp [sm0] at h)⟩, by decide, (fun e he => by cases he), ⟨by decide, (fun x hx => by cases hx)⟩, (fun r hr => by cases hr), trivial⟩

theorem plHas_app (a b : List Pl) (n : Tx) : plHas (a ++ b) n = (plHas a n || plHas b n) := by unfold plHas; rw [List.any_append]
theorem PoolL.more {ps : List Pl} {n : Tx} (h : PoolL ps n) (p : Pl) : PoolL (ps ++ [p]) n := by
  rcases h with h | h
  · exact Or.inl h
  · exact Or.inr (by rw [plHas_app, h]; rfl)
theorem EdP.more {ps : List Pl} {e : Ed} (h : EdP ps e) (p : Pl) : EdP (ps ++ [p]) e := ⟨h.o0, h.o, h.i, h.m, h.d, h.p.more p⟩
theorem EdM.more {ps : List Pl} {e : Ed} (h : EdM ps e) (p : Pl) : EdM (ps ++ [p]) e := ⟨h.b.more p, h.c, h.c1, h.c2⟩
theorem RlM.more {ps : List Pl} {r : Rl} (h : RlM ps r) (p : Pl) : RlM (ps ++ [p]) r := ⟨h.1, h.2.more p⟩
theorem PlsM.more {ps : List Pl} {p : Pl} (h : PlsM ps) (h1 : mayL p.1 = true) (h2 : 1 ≤ p.2) (h3 : p.2 ≤ 8) (h4 : plHas ps p.1 = false) (h5 : ps.length ≠ 4) : PlsM (ps ++ [p]) := by
  refine ⟨by rw [List.length_append]; have := h.1; simp; omega, fun k q hk => ?_⟩
  by_cases hl : k < ps.length
  · rw [List.getElem?_append_left hl] at hk
    rw [List.take_append_of_le_length (by omega)]
    exact h.2 k q hk
  · have hk2 : k < (ps ++ [p]).length := (List.getElem?_eq_some_iff.1 hk).1
    have e : k = ps.length := by rw [List.length_append] at hk2; simp at hk2; omega
    subst e
    rw [List.getElem?_append_right (Nat.le_refl _)] at hk
    simp at hk
    subst hk
    rw [List.take_left]
    exact ⟨h1, h2, h3, h4⟩

theorem plain_get (bs : List Bd) (n : ByteArray) : plainL (bl (getB bs n)) = true := by
  cases hs : scOk bs with
  | false => rw [get_no hs]; rfl
  | true =>
    cases hh : hit bs n with
    | none => rw [get_none hh]; rfl
    | some k =>
      obtain ⟨b, hb, _, _⟩ := hit_some hh
      rw [get_hit hs hh hb]
      have := ((scOk_parts hs).2 k b hb).1
      unfold mayBd txB at this
      simp only [Bool.and_eq_true] at this
      exact this.2.2
theorem plain_txt (ins outs : List Bd) (p : Pc) (h : plainL p.2 = true) : plainL (txt ins outs p) = true := by
  unfold txt
  split
  · split <;> exact plain_get _ _
  · exact h
theorem plain_flat {α : Type} (f : α → Tx) : ∀ (l : List α), (∀ x ∈ l, plainL (f x) = true) → plainL (l.flatMap f) = true
  | [], _ => rfl
  | x :: r, h => by rw [List.flatMap_cons, plainL_app, h x (by simp), plain_flat f r (fun y hy => h y (List.mem_cons_of_mem _ hy))]; rfl

def TokP : Tok → Prop
  | .inl c => plainL [c] = true
  | .inr n => plainL n = true
theorem tk_plain {l : Tx} {x : Tok} {k : Nat} (h : tk l = some (x, k)) (hl : plainL l = true) : TokP x := by
  have hm : ∀ a : Tx, a.Sublist l → plainL a = true := fun a ha => plain_sub ha hl
  unfold tk at h
  split at h
  · cases h
  · rename_i c r
    split at h
    · cases h; exact hm [c] (by simp)
    · split at h
      · cases h
      · rename_i d r'
        split at h
        · cases h; exact hm [d] (by simp)
        · split at h
          · split at h
            · cases h; exact hm _ (((List.take_sublist _ _).trans (List.sublist_cons_self _ _)).trans (List.sublist_cons_self _ _))
            · cases h
          · split at h
            · cases h; exact hm _ ((List.take_sublist _ _).trans (List.sublist_cons_self _ _))
            · cases h
theorem tksF_plain : ∀ (n : Nat) (l : Tx) (ts : List Tok), tksF n l = some ts → plainL l = true → ∀ x ∈ ts, TokP x
  | _, [], ts, h, _ => by simp [tksF] at h; subst h; intro x hx; cases hx
  | 0, _ :: _, ts, h, _ => by simp [tksF] at h
  | n + 1, c :: r, ts, h, hl => by
    rw [tksF] at h
    split at h
    · cases h
    · rename_i x k hk
      obtain ⟨y, h1, rfl⟩ := Option.map_eq_some_iff.1 h
      intro z hz
      rcases List.mem_cons.1 hz with rfl | hz
      · exact tk_plain hk hl
      · exact tksF_plain n _ y h1 (plain_sub (List.drop_sublist _ _) hl) z hz
theorem add_plain {ps : List Pc} {x : Tok} (h : ∀ p ∈ ps, plainL p.2 = true) (hx : TokP x) : ∀ p ∈ add ps x, plainL p.2 = true := by
  intro p hp
  cases x with
  | inr n =>
    unfold add at hp
    rcases List.mem_append.1 hp with hp | hp
    · exact h p hp
    · simp at hp; subst hp; exact hx
  | inl c =>
    unfold add at hp
    dsimp only at hp
    split at hp
    · rename_i l hl
      rcases List.mem_append.1 hp with hp | hp
      · exact h p (List.dropLast_subset _ hp)
      · simp at hp; subst hp
        show plainL (l ++ [c]) = true
        rw [plainL_app, h (false, l) (List.mem_of_getLast? hl), hx]; rfl
    · rcases List.mem_append.1 hp with hp | hp
      · exact h p hp
      · simp at hp; subst hp; exact hx
theorem addAll_plain : ∀ (ts : List Tok) (ps : List Pc), (∀ p ∈ ps, plainL p.2 = true) → (∀ x ∈ ts, TokP x) → ∀ p ∈ addAll ps ts, plainL p.2 = true
  | [], ps, h, _ => h
  | x :: r, ps, h, hx => addAll_plain r (add ps x) (add_plain h (hx x (by simp))) (fun y hy => hx y (List.mem_cons_of_mem _ hy))
theorem cutP_plain (l : Tx) : ∀ p ∈ cutP l, plainL p.2 = true := by
  unfold cutP cutL
  split
  · rename_i h
    cases ht : tks l with
    | none => intro p hp; cases hp
    | some ts => exact addAll_plain ts [] (fun p hp => by cases hp) (tksF_plain _ _ _ ht h.2)
  · intro p hp; cases hp
theorem evS_plain (l : Tx) (ins outs : List Bd) : plainL (evS l ins outs) = true ∧ (evS l ins outs).length ≤ 256 := by
  cases ho : evOk l ins outs with
  | false => rw [(ev_bad ho).1]; exact ⟨rfl, by decide⟩
  | true =>
    by_cases hl : (evT ins outs (cutP l)).length ≤ 256
    · rw [(ev_good ho hl).1]
      exact ⟨plain_flat _ _ (fun p hp => plain_txt _ _ _ (cutP_plain l p hp)), hl⟩
    · rw [(ev_long ho (by omega)).1]; exact ⟨rfl, by decide⟩

theorem cl_facts : ∀ (ws ds : Ws), clL ws = some ds → ds.length = ws.length ∧ ∀ x ∈ ds, cleanL x = some x
  | [], ds, h => by simp [clL] at h; subst h; exact ⟨rfl, fun x hx => by cases hx⟩
  | x :: r, ds, h => by
    rw [clL] at h
    split at h
    · rename_i a b h1 h2
      cases h
      obtain ⟨i1, i2⟩ := cl_facts r b h2
      refine ⟨by simp [i1], fun y hy => ?_⟩
      rcases List.mem_cons.1 hy with rfl | hy
      · exact clean_again h1
      · exact i2 y hy
    · cases h

theorem prW_len (x : Tx) (ws : Ws) : (prW x ws).1.length ≤ 8 := by
  unfold prW
  split
  · exact tk_len _
  · simp
theorem bdR_len {l : Tx} {b : Bt} (h : bdR l = some b) : b.1 ≠ [] ∧ b.1.length ≤ 8 ∧ b.2.2.1.length ≤ 8 ∧ b.2.2.2.1.length ≤ 8 ∧ b.2.2.2.2.length ≤ 8 := by
  unfold bdR bdW at h
  dsimp only at h
  split at h
  · cases h
  · rename_i h1
    split at h
    · cases h
    · split at h
      · cases h
        refine ⟨?_, tk_len _, tk_len _, prW_len _ _, prW_len _ _⟩
        intro e
        rw [show tkW (wdL l) = [] from e] at h1
        simp at h1
      · cases h
theorem edL_facts {ps : List Pl} {rs : List Rl} {l : Tx} {x : Ed × Rl} (h : edL rs l = some x) (hr : ∀ r ∈ rs, RlM ps r) : EdP ps x.1 ∧ RlM ps x.2 := by
  unfold edL at h
  split at h
  · cases h
  · rename_i b hb
    split at h
    · cases h
    · rename_i r hrl
      split at h
      · rename_i o i m d ho hi hm hd
        cases h
        obtain ⟨b0, b1, b2, b3, b4⟩ := bdR_len hb
        have hR := hr r (List.mem_of_find?_eq_some hrl)
        have e1 := cl_facts _ _ ho
        have e2 := cl_facts _ _ hi
        have e3 := cl_facts _ _ hm
        have e4 := cl_facts _ _ hd
        refine ⟨⟨?_, ⟨by rw [e1.1]; exact b1, e1.2⟩, ⟨by rw [e2.1]; exact b2, e2.2⟩, ⟨by rw [e3.1]; exact b3, e3.2⟩, ⟨by rw [e4.1]; exact b4, e4.2⟩, hR.2⟩, hR⟩
        intro e
        have := e1.1
        rw [show o = [] from e] at this
        exact b0 (List.length_eq_zero_iff.1 this.symm)
      · cases h

theorem ov_may {s s' : Sm} (h : ovL s = .ok s') (hs : SmMay s) : SmMay s' ∧ s'.un = none := by
  have hu := hs.un
  unfold ovL at h
  unfold UnM at hu
  split at h
  · rename_i hun
    cases h
    exact ⟨hs, hun⟩
  · rename_i r hun
    rw [hun] at hu
    split at h
    · cases h
    · cases h
      refine ⟨⟨hs.p, hs.le, hs.e, hs.d, fun x hx => ?_, trivial⟩, rfl⟩
      rcases List.mem_append.1 hx with hx | hx
      · exact hs.r x hx
      · simp at hx; subst hx; exact hu
  · rename_i p hun
    rw [hun] at hu
    split at h
    · cases h
    · rename_i h0
      cases h
      obtain ⟨u1, u2, u3, u4⟩ := hu
      exact ⟨⟨hs.p.more u1 (by omega) u2 u3 u4, hs.le, fun e he => (hs.e e he).more p, hs.d, fun r hr => (hs.r r hr).more p, trivial⟩, rfl⟩
  · rename_i x hun
    rw [hun] at hu
    obtain ⟨u1, u2, u3⟩ := hu
    split at h
    · cases h
    · rename_i c hc
      cases h
      refine ⟨⟨hs.p, by have := hs.le; simp; omega, fun e he => ?_, hs.d, hs.r, trivial⟩, rfl⟩
      rcases List.mem_append.1 he with he | he
      · exact hs.e e he
      · simp at he; subst he
        unfold cmL at hc
        split at hc
        · cases hc
        · split at hc
          · cases hc
          · split at hc
            · cases hc
            · rename_i hne
              cases hc
              obtain ⟨e1, e2⟩ := evS_plain x.2.1.2.1 (ouS x.1 x.2.2) s.bs
              refine ⟨⟨u2.o0, u2.o, u2.i, u2.m, u2.d, u2.p⟩, e1, ?_, e2⟩
              show 1 ≤ (evS x.2.1.2.1 (ouS x.1 x.2.2) s.bs).length
              cases he : evS x.2.1.2.1 (ouS x.1 x.2.2) s.bs with
              | nil => exact absurd (Or.inr he) hne
              | cons a b => simp

theorem ct_sub {c : UInt8} : ∀ {l : Tx} {x : Tx × Tx}, ctL c l = some x → x.1.Sublist l ∧ x.2.Sublist l
  | [], x, h => by simp [ctL] at h
  | a :: r, x, h => by
    rw [ctL] at h
    split at h
    · cases h; exact ⟨by simp, by simp⟩
    · obtain ⟨y, h1, rfl⟩ := Option.map_eq_some_iff.1 h
      obtain ⟨i1, i2⟩ := ct_sub h1
      exact ⟨i1.cons_cons a, i2.cons a⟩
theorem bn_plain {l : Tx} {x : Tx × Tx} (h : bnL l = some x) (hl : plainL l = true) : plainL x.2 = true ∧ mayL x.1 = true := by
  unfold bnL at h
  split at h
  · cases h
  · rename_i y hy
    split at h
    · rename_i hm
      cases h
      exact ⟨plain_sub ((trL_sub _).trans (ct_sub hy).2) hl, hm⟩
    · cases h

theorem tk_may {s s' : Sm} {k v : Tx} (h : tkL s k v = .ok s') (hs : SmMay s) (hv : plainL v = true) : SmMay s' := by
  have hu := hs.un
  unfold tkL at h
  unfold UnM at hu
  split at h
  · cases h
  · rename_i r hun
    rw [hun] at hu
    split at h
    · cases h
    · rename_i r' hr
      cases h
      refine ⟨hs.p, hs.le, hs.e, hs.d, hs.r, ?_⟩
      show RlM s.ps r'
      unfold rlT at hr
      split at hr
      · cases hr; exact ⟨hv, hu.2⟩
      · split at hr
        · cases hr; exact hu
        · split at hr
          · rename_i hp; cases hr; exact ⟨hu.1, Or.inr hp.2.2⟩
          · cases hr
  · rename_i p hun
    rw [hun] at hu
    split at h
    · cases h
      refine ⟨hs.p, hs.le, hs.e, hs.d, hs.r, ?_⟩
      refine ⟨hu.1, ?_, hu.2.2⟩
      show dpth v ≤ 8
      unfold dpth
      split
      · split <;> omega
      · omega
    · cases h
  · rename_i x hun
    rw [hun] at hu
    split at h
    · cases h
    · cases h
      exact ⟨hs.p, hs.le, hs.e, hs.d, hs.r, hu⟩

theorem fw_may {s s' : Sm} {l : Tx} (h : fwL s l = .ok s') (hs : SmMay s) : SmMay s' := by
  unfold fwL at h
  split at h
  · unfold ruL at h
    split at h
    · cases h
    · split at h
      · cases h
      · cases h; exact ⟨hs.p, hs.le, hs.e, hs.d, hs.r, ⟨rfl, Or.inl rfl⟩⟩
  · split at h
    · unfold poL at h
      split at h
      · cases h
      · rename_i hn
        split at h
        · cases h
        · rename_i h4
          cases h
          refine ⟨hs.p, hs.le, hs.e, hs.d, hs.r, ?_⟩
          simp only [not_or, Bool.not_eq_false, Bool.not_eq_true] at hn
          exact ⟨hn.1, Nat.zero_le _, hn.2, h4⟩
    · split at h
      · unfold buL at h
        split at h
        · cases h
        · rename_i x hx
          split at h
          · cases h
          · rename_i h16
            cases h
            obtain ⟨e1, e2⟩ := edL_facts hx hs.r
            exact ⟨hs.p, hs.le, hs.e, hs.d, hs.r, ⟨h16, e1, e2⟩⟩
      · split at h
        · unfold deL at h
          split at h
          · cases h
          · rename_i ds hd
            split at h
            · cases h
            · split at h
              · cases h
              · rename_i h8
                cases h
                refine ⟨hs.p, hs.le, hs.e, ⟨by rw [List.length_append]; omega, fun x hx => ?_⟩, hs.r, trivial⟩
                rcases List.mem_append.1 hx with hx | hx
                · exact hs.d.2 x hx
                · exact (cl_facts _ _ hd).2 x hx
        · unfold biL at h
          split at h
          · cases h
          · split at h
            · cases h
            · cases h; exact ⟨hs.p, hs.le, hs.e, hs.d, hs.r, trivial⟩

theorem li_may {s s' : Sm} {x : Ln} (h : liL s x = .ok s') (hs : SmMay s) (hx : plainL x.2 = true) : SmMay s' := by
  unfold liL at h
  split at h
  · unfold dpL at h
    split at h
    · cases h
    · rename_i y hy
      exact tk_may h hs (bn_plain hy hx).1
  · unfold flL at h
    split at h
    · cases h
    · rename_i t ht
      exact fw_may h (ov_may ht hs).1

theorem ls_may : ∀ (ls : List Ln) (s s' : Sm), lsL s ls = .ok s' → SmMay s → (∀ x ∈ ls, plainL x.2 = true) → SmMay s'
  | [], s, s', h, hs, _ => by rw [lsL] at h; cases h; exact hs
  | x :: r, s, s', h, hs, hp => by
    rw [lsL] at h
    split at h
    · cases h
    · rename_i t ht
      exact ls_may r t s' h (li_may ht hs (hp x (by simp))) (fun y hy => hp y (List.mem_cons_of_mem _ hy))

theorem mf_may {l : Tx} {g : Gr} (h : mfL l = .ok g) : GrMay g := by
  unfold mfL at h
  split at h
  · cases h
  · rename_i ls hls
    split at h
    · cases h
    · rename_i s hs
      split at h
      · cases h
      · rename_i s1 h1
        cases h
        have := (ov_may h1 (ls_may ls sm0 s hs sm0_may (fun x hx => ((lnC_facts hls).2 x hx).2))).1
        exact ⟨this.p, this.le, this.e, this.d⟩

/-- A graph whose lists are not long. -/
structure GrS (g : Gr) : Prop where
  e : ∀ e ∈ g.1, e.1.length ≤ 4096 ∧ e.2.1.length ≤ 4096 ∧ e.2.2.1.length ≤ 4096 ∧ e.2.2.2.1.length ≤ 4096
  le : g.1.length ≤ 4096
  lp : g.2.1.length ≤ 4096
  ld : g.2.2.length ≤ 4096
theorem GrMay.s {g : Gr} (h : GrMay g) : GrS g :=
  ⟨fun e he => ⟨by have := (h.e e he).b.o.1; omega, by have := (h.e e he).b.i.1; omega, by have := (h.e e he).b.m.1; omega, by have := (h.e e he).b.d.1; omega⟩, by have := h.le; omega, by have := h.p.1; omega, by have := h.d.1; omega⟩
theorem gr0_s : GrS gr0 := ⟨(fun e he => by cases he), by decide, by decide, by decide⟩
theorem mf_s (l : Tx) : GrS (mfG l) := by
  unfold mfG
  cases h : mfL l with
  | ok g => exact (mf_may h).s
  | error n => exact gr0_s
theorem mf_of {l : Tx} {g : Gr} (h : mfL l = .ok g) : mfG l = g ∧ mfE l = 0 := by unfold mfG mfE; rw [h]; exact ⟨rfl, rfl⟩
theorem mf_er {l : Tx} {n : Int} (h : mfL l = .error n) : mfG l = gr0 ∧ mfE l = n := by unfold mfG mfE; rw [h]; exact ⟨rfl, rfl⟩

end Go.Proofs.YtpddckgkaopnlaaGreatDoor

/- The fixed manifests that every statement on manifests asks of first: plain facts, by the kernel's own reckoning; no conditions. -/
namespace Go.Proofs.YtpddckgkaopnlaaGreatDoor
open Go.RowKit

def txA : Tx := [102, 108, 97, 103, 115, 32, 61, 32, 45, 111, 50, 10, 112, 111, 111, 108, 32, 116, 119, 111, 10, 32, 32, 100, 101, 112, 116, 104, 32, 61, 32, 50, 10, 114, 117, 108, 101, 32, 99, 99, 10, 32, 32, 99, 111, 109, 109, 97, 110, 100, 32, 61, 32, 99, 99, 32, 36, 102, 108, 97, 103, 115, 32, 36, 105, 110, 32, 45, 111, 32, 36, 111, 117, 116, 32, 36, 109, 111, 114, 101, 10, 32, 32, 100, 101, 112, 115, 32, 61, 32, 49, 10, 32, 32, 112, 111, 111, 108, 32, 61, 32, 116, 119, 111, 10, 98, 117, 105, 108, 100, 32, 46, 47, 97, 46, 111, 32, 58, 32, 99, 99, 32, 97, 46, 99, 32, 124, 32, 97, 46, 104, 10, 32, 32, 109, 111, 114, 101, 32, 61, 32, 45, 103, 10, 98, 117, 105, 108, 100, 32, 98, 46, 111, 32, 58, 32, 99, 99, 32, 98, 46, 99, 32, 124, 124, 32, 97, 46, 111, 10, 102, 108, 97, 103, 115, 32, 61, 32, 108, 97, 116, 101, 10, 100, 101, 102, 97, 117, 108, 116, 32, 98, 46, 111, 10]
def txB' : Tx := [114, 117, 108, 101, 32, 99, 99, 10]
def txC : Tx := [98, 117, 105, 108, 100, 32, 97, 32, 58, 32, 99, 99, 32, 98, 10]
def edA1 : Ed := ([[97, 46, 111]], [[97, 46, 99]], [[97, 46, 104]], [], [99, 99, 32, 45, 111, 50, 32, 97, 46, 99, 32, 45, 111, 32, 97, 46, 111, 32, 45, 103], true, [116, 119, 111])
def edA2 : Ed := ([[98, 46, 111]], [[98, 46, 99]], [], [[97, 46, 111]], [99, 99, 32, 45, 111, 50, 32, 98, 46, 99, 32, 45, 111, 32, 98, 46, 111, 32], true, [116, 119, 111])
def grA : Gr := ([edA1, edA2], [([116, 119, 111], 2)], [[98, 46, 111]])
set_option maxRecDepth 100000 in
theorem mfA : mfL txA = .ok grA := by kernel_rfl
theorem mfB : mfL txB' = .error 800 := by kernel_rfl
theorem mfC : mfL txC = .error 800 := by kernel_rfl

end Go.Proofs.YtpddckgkaopnlaaGreatDoor
