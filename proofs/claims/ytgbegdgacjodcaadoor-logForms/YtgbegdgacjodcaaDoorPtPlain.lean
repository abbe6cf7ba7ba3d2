/- Plain facts on paths, with no program in them: a text cut at each slash, the pieces that stay, the path that they make; no conditions. -/
import Derived.Test.YtgbegdgacjodcaaDoorNmPlain
import Derived.Lib.SplitLaws
import Derived.Lib.Join
namespace Go.Proofs.YtgbegdgacjodcaaDoor
open Go.RowKit

/-- A text cut at each slash. -/
def sp : List UInt8 → List (List UInt8)
  | [] => [[]]
  | c :: r => if c = 47 then [] :: sp r else (c :: (sp r).headD []) :: (sp r).tail

/-- One piece more, from the left. -/
def kst (ks : List (List UInt8)) (p : List UInt8) : Option (List (List UInt8)) :=
  if p = [] ∨ p = [46] then some ks else if p = [46, 46] then (if ks = [] then none else some ks.dropLast) else some (ks ++ [p])

def kf : List (List UInt8) → List (List UInt8) → Option (List (List UInt8))
  | ks, [] => some ks
  | ks, p :: r => match kst ks p with
    | none => none
    | some k => kf k r

def mayL (l : List UInt8) : Bool := decide (1 ≤ l.length) && decide (l.length ≤ 16) && allOk l

def cleanL (l : List UInt8) : Option (List UInt8) :=
  if mayL l = true ∧ l.head? ≠ some 47 then
    match kf [] (sp l) with
    | none => none
    | some [] => none
    | some (p :: ps) => some (Lib.join (p :: ps) [47])
  else none

def cstr (l : List UInt8) : List UInt8 := (cleanL l).getD []
def cerr (l : List UInt8) : Int := if (cleanL l).isSome then 0 else 200

theorem mayB_mayL (s : ByteArray) : mayB s = mayL s.data.toList := by
  have e : s.size = s.data.toList.length := by rw [Array.length_toList]; rfl
  unfold mayB mayL; rw [e]

theorem sp_ne (l : List UInt8) : sp l ≠ [] := by
  cases l with
  | nil => simp [sp]
  | cons c r => unfold sp; split <;> simp

theorem sp_cons_tail (l : List UInt8) : (sp l).headD [] :: (sp l).tail = sp l := by
  have := sp_ne l
  cases h : sp l with
  | nil => exact absurd h this
  | cons a b => rfl

theorem sp_plain : ∀ (p : List UInt8), (47 : UInt8) ∉ p → sp p = [p]
  | [], _ => rfl
  | c :: r, h => by
    have hc : c ≠ 47 := fun e => h (by simp [e])
    have hr : (47 : UInt8) ∉ r := fun e => h (by simp [e])
    rw [sp, if_neg hc, sp_plain r hr]; rfl

theorem sp_app : ∀ (a b : List UInt8), sp (a ++ 47 :: b) = sp a ++ sp b
  | [], b => by simp [sp]
  | c :: r, b => by
    have ih := sp_app r b
    rw [List.cons_append, sp, sp, ih]
    have hn := sp_ne r
    by_cases hc : c = 47
    · simp [hc]
    · rw [if_neg hc, if_neg hc]
      cases h : sp r with
      | nil => exact absurd h hn
      | cons x y => simp

theorem sp_mem47 : ∀ (l : List UInt8) p, p ∈ sp l → (47 : UInt8) ∉ p
  | [], p, h => by simp [sp] at h; simp [h]
  | c :: r, p, h => by
    have ih := sp_mem47 r
    have hn := sp_cons_tail r
    rw [sp] at h
    by_cases hc : c = 47
    · rw [if_pos hc] at h
      rcases List.mem_cons.1 h with rfl | h
      · simp
      · exact ih p h
    · rw [if_neg hc] at h
      rcases List.mem_cons.1 h with rfl | h
      · intro h47
        rcases List.mem_cons.1 h47 with h47 | h47
        · exact hc h47.symm
        · exact ih ((sp r).headD []) (by rw [← hn]; simp) h47
      · exact ih p (by rw [← hn]; simp [h])

theorem join_snoc (ps : List (List UInt8)) (p : List UInt8) (h : ps ≠ []) : Lib.join (ps ++ [p]) [47] = Lib.join ps [47] ++ 47 :: p := by
  cases ps with
  | nil => exact absurd rfl h
  | cons a r => rw [List.cons_append, Lib.join_cons, Lib.join_cons]; simp [Lib.joinTail]

theorem join_cons2 (p q : List UInt8) (r : List (List UInt8)) : Lib.join (p :: q :: r) [47] = p ++ 47 :: Lib.join (q :: r) [47] := by
  rw [Lib.join_cons, Lib.join_cons]; simp [Lib.joinTail]

theorem sp_join : ∀ (ps : List (List UInt8)), ps ≠ [] → (∀ p ∈ ps, (47 : UInt8) ∉ p) → sp (Lib.join ps [47]) = ps
  | [], h, _ => absurd rfl h
  | [p], _, h => by rw [Lib.join_one]; exact sp_plain p (h p (by simp))
  | p :: q :: r, _, h => by
    rw [join_cons2, sp_app, sp_plain p (h p (by simp)), sp_join (q :: r) (by simp) (fun x hx => h x (List.mem_cons_of_mem _ hx))]
    rfl

/-- How long pieces are, each with a slash behind it. -/
def tot (ps : List (List UInt8)) : Nat := (ps.map fun p => p.length + 1).sum

theorem tot_app (a b : List (List UInt8)) : tot (a ++ b) = tot a + tot b := by simp [tot]
theorem tot_cons (a : List UInt8) (b : List (List UInt8)) : tot (a :: b) = a.length + 1 + tot b := by simp [tot]

theorem tot_one (a : List UInt8) : tot [a] = a.length + 1 := by simp [tot]

theorem tot_sp : ∀ (l : List UInt8), tot (sp l) = l.length + 1
  | [] => by simp [sp, tot]
  | c :: r => by
    have ih := tot_sp r
    have hn := sp_cons_tail r
    rw [sp]
    by_cases hc : c = 47
    · rw [if_pos hc, tot_cons, ih]; simp only [List.length_nil, List.length_cons]; omega
    · rw [if_neg hc, tot_cons]
      rw [← hn, tot_cons] at ih
      simp only [List.length_cons]; omega

theorem tot_join : ∀ (ps : List (List UInt8)), ps ≠ [] → (Lib.join ps [47]).length + 1 = tot ps
  | [], h => absurd rfl h
  | [p], _ => by simp [Lib.join_one, tot]
  | p :: q :: r, _ => by
    have := tot_join (q :: r) (by simp)
    rw [join_cons2, tot_cons]; simp; omega

theorem tot_dropLast (ps : List (List UInt8)) : tot ps.dropLast ≤ tot ps := by
  by_cases h : ps = []
  · simp [h]
  · have e : ps = ps.dropLast ++ [ps.getLast h] := (List.dropLast_concat_getLast h).symm
    have := tot_app ps.dropLast [ps.getLast h]
    rw [← e] at this; omega

/-- Pieces that stay: none is empty, a point, two points; none holds a slash; all bytes are a name's. -/
def Good (ks : List (List UInt8)) : Prop := ∀ p ∈ ks, p ≠ [] ∧ p ≠ [46] ∧ p ≠ [46, 46] ∧ (47 : UInt8) ∉ p ∧ allOk p = true

theorem kst_good {ks : List (List UInt8)} {p : List UInt8} {ks' : List (List UInt8)} (h : kst ks p = some ks') (hk : Good ks) (hp : (47 : UInt8) ∉ p) (ho : allOk p = true) : Good ks' ∧ tot ks' ≤ tot ks + p.length + 1 := by
  unfold kst at h
  split at h
  · cases h; exact ⟨hk, by omega⟩
  · rename_i h1
    split at h
    · split at h
      · cases h
      · cases h
        exact ⟨fun q hq => hk q (List.dropLast_subset _ hq), by have := tot_dropLast ks; omega⟩
    · rename_i h2
      cases h
      refine ⟨?_, by rw [tot_app, tot_cons]; simp only [tot, List.map_nil, List.sum_nil]; omega⟩
      intro q hq
      rcases List.mem_append.1 hq with hq | hq
      · exact hk q hq
      · simp at hq; subst hq
        exact ⟨fun e => h1 (Or.inl e), fun e => h1 (Or.inr e), h2, hp, ho⟩

theorem kf_good : ∀ (ps ks ks' : List (List UInt8)), kf ks ps = some ks' → Good ks → (∀ p ∈ ps, (47 : UInt8) ∉ p) → (∀ p ∈ ps, allOk p = true) → Good ks' ∧ tot ks' ≤ tot ks + tot ps
  | [], ks, ks', h, hk, _, _ => by simp [kf] at h; subst h; exact ⟨hk, by omega⟩
  | p :: r, ks, ks', h, hk, h47, ho => by
    unfold kf at h
    split at h
    · cases h
    · rename_i k hk1
      have g := kst_good hk1 hk (h47 p (by simp)) (ho p (by simp))
      have := kf_good r k ks' h g.1 (fun q hq => h47 q (by simp [hq])) (fun q hq => ho q (by simp [hq]))
      refine ⟨this.1, ?_⟩
      rw [tot_cons]; have := this.2; have := g.2; omega

theorem kf_id : ∀ (ps ks : List (List UInt8)), Good ps → kf ks ps = some (ks ++ ps)
  | [], ks, _ => by simp [kf]
  | p :: r, ks, h => by
    have hp := h p (by simp)
    have e : kst ks p = some (ks ++ [p]) := by
      unfold kst; rw [if_neg (by rintro (e | e); exact hp.1 e; exact hp.2.1 e), if_neg hp.2.2.1]
    unfold kf; rw [e]
    show kf (ks ++ [p]) r = _
    rw [kf_id r _ (fun q hq => h q (by simp [hq]))]; simp

theorem kf_app : ∀ (a b ks : List (List UInt8)), kf ks (a ++ b) = match kf ks a with | none => none | some k => kf k b
  | [], b, ks => rfl
  | p :: r, b, ks => by
    rw [List.cons_append, kf, kf]
    cases kst ks p with
    | none => rfl
    | some k => exact kf_app r b k

theorem kf_snoc {a : List (List UInt8)} {p : List UInt8} {ks k k' : List (List UInt8)} (h : kf ks a = some k) (h' : kst k p = some k') : kf ks (a ++ [p]) = some k' := by
  rw [kf_app, h]; show kf k [p] = _; unfold kf; rw [h']; rfl

theorem kf_fail {a b : List (List UInt8)} {p : List UInt8} {ks k : List (List UInt8)} (h : kf ks a = some k) (h' : kst k p = none) : kf ks (a ++ p :: b) = none := by
  rw [kf_app, h]; show kf k (p :: b) = _; unfold kf; rw [h']

theorem allOk_mem : ∀ (l : List UInt8) p, p ∈ sp l → allOk l = true → allOk p = true
  | [], p, h, _ => by simp [sp] at h; subst h; rfl
  | c :: r, p, h, ho => by
    have ih := allOk_mem r
    have hn := sp_cons_tail r
    have ho2 : okb c.toNat = true ∧ allOk r = true := by simpa [allOk] using ho
    rw [sp] at h
    by_cases hc : c = 47
    · rw [if_pos hc] at h
      rcases List.mem_cons.1 h with rfl | h
      · rfl
      · exact ih p h ho2.2
    · rw [if_neg hc] at h
      rcases List.mem_cons.1 h with rfl | h
      · have := ih ((sp r).headD []) (by rw [← hn]; simp) ho2.2
        have e : allOk (c :: (sp r).headD []) = (okb c.toNat && allOk ((sp r).headD [])) := by simp [allOk]
        rw [e, ho2.1, this]; rfl
      · exact ih p (by rw [← hn]; simp [h]) ho2.2

theorem join_allOk : ∀ (ps : List (List UInt8)), (∀ p ∈ ps, allOk p = true) → allOk (Lib.join ps [47]) = true
  | [], _ => rfl
  | [p], h => by rw [Lib.join_one]; exact h p (by simp)
  | p :: q :: r, h => by
    have ih := join_allOk (q :: r) (fun x hx => h x (List.mem_cons_of_mem _ hx))
    rw [join_cons2, allOk_append, h p (by simp)]
    have e : allOk (47 :: Lib.join (q :: r) [47]) = (okb (47 : UInt8).toNat && allOk (Lib.join (q :: r) [47])) := by simp [allOk]
    rw [e, ih]; rfl

/-- What is told: pieces, joined. -/
theorem clean_some {l a : List UInt8} (h : cleanL l = some a) : ∃ ks, ks ≠ [] ∧ Good ks ∧ a = Lib.join ks [47] ∧ kf [] (sp l) = some ks ∧ tot ks ≤ l.length + 1 ∧ l.length ≤ 16 := by
  unfold cleanL at h
  split at h
  · rename_i h1
    split at h
    · cases h
    · cases h
    · rename_i p ps hk
      cases h
      have hm := h1.1
      have ho : allOk l = true := by unfold mayL at hm; simp at hm; exact hm.2
      have hl : l.length ≤ 16 := by unfold mayL at hm; simp at hm; exact hm.1.2
      have g := kf_good (sp l) [] (p :: ps) hk (fun q hq => by simp at hq) (sp_mem47 l) (fun q hq => allOk_mem l q hq ho)
      exact ⟨p :: ps, by simp, g.1, rfl, hk, by have := g.2; rw [tot_sp] at this; simp [tot] at this ⊢; omega, hl⟩
  · cases h

/-- Pieces, joined, that are no longer than a name: they are a path. -/
theorem clean_join {ks : List (List UInt8)} (h0 : ks ≠ []) (hg : Good ks) (hl : tot ks ≤ 17) : cleanL (Lib.join ks [47]) = some (Lib.join ks [47]) := by
  have h47 := fun p hp => (hg p hp).2.2.2.1
  have ht := tot_join ks h0
  cases ks with
  | nil => exact absurd rfl h0
  | cons p ps =>
    have hp := hg p (by simp)
    have e : Lib.join (p :: ps) [47] = p ++ Lib.joinTail [47] ps := Lib.join_cons p ps [47]
    have hh : (Lib.join (p :: ps) [47]).head? ≠ some 47 := by
      cases p with
      | nil => exact absurd rfl hp.1
      | cons c r => rw [e]; simp; intro e47; exact hp.2.2.2.1 (by simp [e47])
    have h1 : 1 ≤ (Lib.join (p :: ps) [47]).length := by
      cases p with
      | nil => exact absurd rfl hp.1
      | cons c r => rw [e]; simp
    have hm : mayL (Lib.join (p :: ps) [47]) = true := by
      unfold mayL
      rw [join_allOk _ (fun q hq => (hg q hq).2.2.2.2)]
      simp; omega
    unfold cleanL
    rw [if_pos ⟨hm, hh⟩, sp_join _ h0 h47, kf_id _ _ hg]
    rfl

theorem clean_again {l a : List UInt8} (h : cleanL l = some a) : cleanL a = some a := by
  obtain ⟨ks, h0, hg, rfl, _, ht, hl⟩ := clean_some h
  exact clean_join h0 hg (by omega)

theorem clean_le {l a : List UInt8} (h : cleanL l = some a) : a.length ≤ l.length ∧ l.length ≤ 16 ∧ a ≠ [] := by
  obtain ⟨ks, h0, hg, rfl, _, ht, hl⟩ := clean_some h
  have := tot_join ks h0
  refine ⟨by omega, hl, ?_⟩
  cases ks with
  | nil => exact absurd rfl h0
  | cons p ps =>
    have hp := hg p (by simp)
    rw [Lib.join_cons]
    intro e
    exact hp.1 (List.append_eq_nil_iff.1 e).1

theorem index47_none (l : List UInt8) (h : Lib.index l [47] = -1) : (47 : UInt8) ∉ l := by
  induction l with
  | nil => simp
  | cons c r ih =>
    rw [Lib.index] at h
    split at h
    · omega
    · rename_i h1
      split at h
      · rename_i h2
        have := ih (beq_iff_eq.1 h2)
        intro h47
        rcases List.mem_cons.1 h47 with e | e
        · subst e; simp [List.isPrefixOf] at h1
        · exact this e
      · have := Lib.index_ge r [47]; omega

theorem index47_some (l : List UInt8) (i : Nat) (h : Lib.index l [47] = i) : l = l.take i ++ 47 :: l.drop (i + 1) ∧ (47 : UInt8) ∉ l.take i := by
  induction l generalizing i with
  | nil => exact absurd h (by unfold Lib.index; simp)
  | cons c r ih =>
    rw [Lib.index] at h
    split at h
    · rename_i h1
      have e : i = 0 := by omega
      subst e
      have hc : c = 47 := by simp [List.isPrefixOf] at h1; exact h1.symm
      subst hc; simp
    · rename_i h1
      split at h
      · omega
      · have hg := Lib.index_ge r [47]
        obtain ⟨j, rfl⟩ : ∃ j, i = j + 1 := ⟨i - 1, by rename_i h2; have : Lib.index r [47] ≠ -1 := fun e => h2 (beq_iff_eq.2 e); omega⟩
        have := ih j (by omega)
        have hc : c ≠ 47 := fun e => by subst e; simp [List.isPrefixOf] at h1
        refine ⟨?_, ?_⟩
        · rw [List.take_succ_cons, List.drop_succ_cons, List.cons_append, ← this.1]
        · rw [List.take_succ_cons]; intro h47
          rcases List.mem_cons.1 h47 with e | e
          · exact hc e.symm
          · exact this.2 e

theorem splitK_sp : ∀ (k : Nat) (l : List UInt8), Lib.count l [47] = k → Lib.splitK [47] 0 k l = sp l
  | 0, l, h => by
    by_cases hi : Lib.index l [47] = -1
    · rw [sp_plain l (index47_none l hi)]; rfl
    · have hg := Lib.index_ge l [47]
      obtain ⟨i, hi'⟩ : ∃ i : Nat, Lib.index l [47] = i := ⟨(Lib.index l [47]).toNat, by omega⟩
      rw [Lib.count_hit (by simp) hi'] at h; omega
  | k + 1, l, h => by
    by_cases hi : Lib.index l [47] = -1
    · rw [Lib.count_miss hi] at h; omega
    · have hg := Lib.index_ge l [47]
      obtain ⟨i, hi'⟩ : ∃ i : Nat, Lib.index l [47] = i := ⟨(Lib.index l [47]).toNat, by omega⟩
      have hc := Lib.count_hit (sub := [47]) (by simp) hi'
      have e := index47_some l i hi'
      rw [Lib.splitK, if_neg (fun e => hi (beq_iff_eq.1 e)), hi']
      have ih := splitK_sp k (l.drop (i + 1)) (by simp at hc; omega)
      simp only [Int.toNat_natCast, Nat.add_zero, List.length_cons, List.length_nil, Nat.zero_add]
      rw [ih]
      conv => rhs; rw [e.1]
      rw [sp_app, sp_plain _ e.2]; rfl

theorem splitB_sp (s : ByteArray) : (Lib.splitB ⟨#[47]⟩ 0 (Lib.countB s ⟨#[47]⟩) s).map (·.data.toList) = sp s.data.toList := by
  rw [Lib.splitB_data]; exact splitK_sp _ _ rfl

theorem clean_of_pieces {ps ks : List (List UInt8)} (h0 : ps ≠ []) (hh : ps.head? ≠ some []) (h47 : ∀ p ∈ ps, (47 : UInt8) ∉ p) (hok : ∀ p ∈ ps, allOk p = true) (ht : tot ps ≤ 17)
    (hk : kf [] ps = some ks) (hne : ks ≠ []) : cleanL (Lib.join ps [47]) = some (Lib.join ks [47]) := by
  have htj := tot_join ps h0
  have hsp := sp_join ps h0 h47
  cases ps with
  | nil => exact absurd rfl h0
  | cons p r =>
    cases p with
    | nil => exact absurd rfl hh
    | cons c q =>
      have e : Lib.join ((c :: q) :: r) [47] = (c :: q) ++ Lib.joinTail [47] r := Lib.join_cons (c :: q) r [47]
      have hh2 : (Lib.join ((c :: q) :: r) [47]).head? ≠ some 47 := by
        rw [e]; simp; intro e47; exact h47 (c :: q) (by simp) (by simp [e47])
      have h1 : 1 ≤ (Lib.join ((c :: q) :: r) [47]).length := by rw [e]; simp
      have hm : mayL (Lib.join ((c :: q) :: r) [47]) = true := by
        unfold mayL
        rw [join_allOk _ hok]
        simp; omega
      unfold cleanL
      rw [if_pos ⟨hm, hh2⟩, hsp, hk]
      cases ks with
      | nil => exact absurd rfl hne
      | cons a b => rfl

theorem clean_of_cleanL {l a : List UInt8} (h : cleanL l = some a) : cstr l = a ∧ cerr l = 0 := by
  unfold cstr cerr; rw [h]; exact ⟨rfl, rfl⟩
theorem clean_of_none {l : List UInt8} (h : cleanL l = none) : cstr l = [] ∧ cerr l = 200 := by
  unfold cstr cerr; rw [h]; exact ⟨rfl, rfl⟩

theorem clean_cases (l : List UInt8) : (cleanL l = none ∧ cstr l = [] ∧ cerr l = 200) ∨ ∃ a, cleanL l = some a ∧ cstr l = a ∧ cerr l = 0 ∧ cstr a = a ∧ cerr a = 0 ∧ a.length ≤ 16 := by
  cases h : cleanL l with
  | none => exact Or.inl ⟨rfl, clean_of_none h⟩
  | some a =>
    have h2 := clean_again h
    have h3 := clean_le h
    exact Or.inr ⟨a, rfl, (clean_of_cleanL h).1, (clean_of_cleanL h).2, (clean_of_cleanL h2).1, (clean_of_cleanL h2).2, by omega⟩

theorem Good.ok {ks : List (List UInt8)} (h : Good ks) : ∀ p ∈ ks, allOk p = true := fun p hp => (h p hp).2.2.2.2
theorem Good.no47 {ks : List (List UInt8)} (h : Good ks) : ∀ p ∈ ks, (47 : UInt8) ∉ p := fun p hp => (h p hp).2.2.2.1

/-- Points, and a name and a way back, turn nothing. -/
theorem dots {l a : List UInt8} (h : cleanL l = some a) (h9 : a.length ≤ 9) :
    cleanL ([46, 47] ++ a) = some a ∧ cleanL (a ++ [47, 46]) = some a ∧ cleanL (a ++ [47]) = some a ∧ cleanL ([120, 47, 46, 46, 47] ++ a) = some a ∧ cleanL (a ++ [47, 120, 47, 46, 46]) = some a ∧ cleanL (a ++ [47, 47, 46]) = some a := by
  obtain ⟨ks, h0, hg, rfl, _, _, _⟩ := clean_some h
  have ht := tot_join ks h0
  have hid := kf_id ks [] hg
  rw [List.nil_append] at hid
  have hh : ks.head? ≠ some [] := by
    cases ks with
    | nil => simp
    | cons p r => simp; exact (hg p (by simp)).1
  have hhs : ∀ r, (ks ++ r).head? ≠ some [] := by
    intro r
    cases ks with
    | nil => exact absurd rfl h0
    | cons p q => simpa using hh
  have nil_ok : allOk [] = true := rfl
  have dot_ok : allOk [46] = true := by decide
  have dots_ok : allOk [46, 46] = true := by decide
  have x_ok : allOk [120] = true := by decide
  obtain ⟨p, r, rfl⟩ : ∃ p r, ks = p :: r := by
    cases ks with
    | nil => exact absurd rfl h0
    | cons p r => exact ⟨p, r, rfl⟩
  refine ⟨?_, ?_, ?_, ?_, ?_, ?_⟩
  · have e : [46, 47] ++ Lib.join (p :: r) [47] = Lib.join ([46] :: p :: r) [47] := by rw [join_cons2]; rfl
    rw [e]
    refine clean_of_pieces (by simp) (by simp) ?_ ?_ ?_ ?_ h0
    · intro q hq; rcases List.mem_cons.1 hq with rfl | hq; decide; exact hg.no47 q hq
    · intro q hq; rcases List.mem_cons.1 hq with rfl | hq; exact dot_ok; exact hg.ok q hq
    · rw [tot_cons]; simp only [List.length_cons, List.length_nil]; omega
    · exact hid
  · have e : Lib.join (p :: r) [47] ++ [47, 46] = Lib.join ((p :: r) ++ [[46]]) [47] := by rw [join_snoc _ _ h0]
    rw [e]
    refine clean_of_pieces (by simp) (hhs _) ?_ ?_ ?_ ?_ h0
    · intro q hq; rcases List.mem_append.1 hq with hq | hq; exact hg.no47 q hq; simp at hq; subst hq; decide
    · intro q hq; rcases List.mem_append.1 hq with hq | hq; exact hg.ok q hq; simp at hq; subst hq; exact dot_ok
    · rw [tot_app, tot_one]; simp only [List.length_cons, List.length_nil]; omega
    · exact kf_snoc hid (by simp [kst])
  · have e : Lib.join (p :: r) [47] ++ [47] = Lib.join ((p :: r) ++ [[]]) [47] := by rw [join_snoc _ _ h0]
    rw [e]
    refine clean_of_pieces (by simp) (hhs _) ?_ ?_ ?_ ?_ h0
    · intro q hq; rcases List.mem_append.1 hq with hq | hq; exact hg.no47 q hq; simp at hq; subst hq; decide
    · intro q hq; rcases List.mem_append.1 hq with hq | hq; exact hg.ok q hq; simp at hq; subst hq; exact nil_ok
    · rw [tot_app, tot_one]; simp only [List.length_nil]; omega
    · exact kf_snoc hid (by simp [kst])
  · have e : [120, 47, 46, 46, 47] ++ Lib.join (p :: r) [47] = Lib.join ([120] :: [46, 46] :: p :: r) [47] := by rw [join_cons2, join_cons2]; rfl
    rw [e]
    refine clean_of_pieces (by simp) (by simp) ?_ ?_ ?_ ?_ h0
    · intro q hq; rcases List.mem_cons.1 hq with rfl | hq; decide; rcases List.mem_cons.1 hq with rfl | hq; decide; exact hg.no47 q hq
    · intro q hq; rcases List.mem_cons.1 hq with rfl | hq; exact x_ok; rcases List.mem_cons.1 hq with rfl | hq; exact dots_ok; exact hg.ok q hq
    · rw [tot_cons, tot_cons]; simp only [List.length_cons, List.length_nil]; omega
    · exact hid
  · have e : Lib.join (p :: r) [47] ++ [47, 120, 47, 46, 46] = Lib.join (((p :: r) ++ [[120]]) ++ [[46, 46]]) [47] := by rw [join_snoc _ _ (by simp), join_snoc _ _ h0]; simp
    rw [e]
    refine clean_of_pieces (by simp) (by rw [List.append_assoc]; exact hhs _) ?_ ?_ ?_ ?_ h0
    · intro q hq; rcases List.mem_append.1 hq with hq | hq; rcases List.mem_append.1 hq with hq | hq; exact hg.no47 q hq; simp at hq; subst hq; decide; simp at hq; subst hq; decide
    · intro q hq; rcases List.mem_append.1 hq with hq | hq; rcases List.mem_append.1 hq with hq | hq; exact hg.ok q hq; simp at hq; subst hq; exact x_ok; simp at hq; subst hq; exact dots_ok
    · rw [tot_app, tot_app, tot_one, tot_one]; simp only [List.length_cons, List.length_nil]; omega
    · have k1 : kf [] ((p :: r) ++ [[120]]) = some ((p :: r) ++ [[120]]) := kf_snoc hid (by simp [kst])
      refine kf_snoc k1 ?_
      unfold kst; rw [if_neg (by decide), if_pos rfl, if_neg (by simp), List.dropLast_concat]
  · have e : Lib.join (p :: r) [47] ++ [47, 47, 46] = Lib.join (((p :: r) ++ [[]]) ++ [[46]]) [47] := by rw [join_snoc _ _ (by simp), join_snoc _ _ h0]; simp
    rw [e]
    refine clean_of_pieces (by simp) (by rw [List.append_assoc]; exact hhs _) ?_ ?_ ?_ ?_ h0
    · intro q hq; rcases List.mem_append.1 hq with hq | hq; rcases List.mem_append.1 hq with hq | hq; exact hg.no47 q hq; simp at hq; subst hq; decide; simp at hq; subst hq; decide
    · intro q hq; rcases List.mem_append.1 hq with hq | hq; rcases List.mem_append.1 hq with hq | hq; exact hg.ok q hq; simp at hq; subst hq; exact nil_ok; simp at hq; subst hq; exact dot_ok
    · rw [tot_app, tot_app, tot_one, tot_one]; simp only [List.length_cons, List.length_nil]; omega
    · have k1 : kf [] ((p :: r) ++ [[]]) = some (p :: r) := kf_snoc hid (by simp [kst])
      exact kf_snoc k1 (by simp [kst])

end Go.Proofs.YtgbegdgacjodcaaDoor
