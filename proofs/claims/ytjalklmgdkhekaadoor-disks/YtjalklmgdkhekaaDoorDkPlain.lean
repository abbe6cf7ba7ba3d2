/- Disks, plainly: which may be, what a write, a file taken away, a look tells; no program in them; no conditions. -/
import Derived.Test.YtjalklmgdkhekaaDoorBnGfPlain
import Derived.Test.YtjalklmgdkhekaaDoorStPlain
namespace Go.Proofs.YtjalklmgdkhekaaDoor
open Go.RowKit

/-- A file: its name, its content, its time. -/
abbrev Fl := Tx × Int × Int
def fv (f : Fl) : List Value := [.string ⟨f.1.toArray⟩, .int .i64 f.2.1, .int .i64 f.2.2]
theorem fv_len (f : Fl) : (fv f).length = 3 := rfl

def ltT (a b : Tx) : Bool := Op.bytesLess a b
theorem lt_nil (a : Tx) : ltT a [] = false := by cases a <;> rfl
theorem lt_cons (a b : UInt8) (x y : Tx) : ltT (a :: x) (b :: y) = (decide (a.toNat < b.toNat) || (decide (a.toNat = b.toNat) && ltT x y)) := by
  have h1 : decide (a < b) = decide (a.toNat < b.toNat) := by rw [decide_eq_decide]; exact UInt8.lt_iff_toNat_lt
  have h2 : (a == b) = decide (a.toNat = b.toNat) := by
    rw [Bool.eq_iff_iff, beq_iff_eq, decide_eq_true_iff]
    exact UInt8.toNat_inj.symm
  show Op.bytesLess (a :: x) (b :: y) = _
  rw [Op.bytesLess, h1, h2]; rfl
theorem lt_irr : ∀ a : Tx, ltT a a = false
  | [] => rfl
  | a :: r => by rw [lt_cons, lt_irr r]; simp
theorem lt_tr : ∀ {a b c : Tx}, ltT a b = true → ltT b c = true → ltT a c = true
  | a, b, [], _, h => by rw [lt_nil] at h; cases h
  | a, [], _ :: _, h, _ => by rw [lt_nil] at h; cases h
  | [], _ :: _, _ :: _, _, _ => rfl
  | a :: x, b :: y, c :: z, h1, h2 => by
    rw [lt_cons] at h1 h2 ⊢
    have ih := @lt_tr x y z
    simp only [Bool.or_eq_true, Bool.and_eq_true, decide_eq_true_eq] at h1 h2 ⊢
    rcases h1 with h1 | ⟨h1, h3⟩ <;> rcases h2 with h2 | ⟨h2, h4⟩
    · left; omega
    · left; omega
    · left; omega
    · right; exact ⟨by omega, ih h3 h4⟩
theorem lt_tri : ∀ {a b : Tx}, ltT a b = false → ltT b a = false → a = b
  | [], [], _, _ => rfl
  | [], _ :: _, h, _ => by cases h
  | _ :: _, [], _, h => by cases h
  | a :: x, b :: y, h1, h2 => by
    rw [lt_cons] at h1 h2
    simp only [Bool.or_eq_false_iff, Bool.and_eq_false_iff, decide_eq_false_iff_not] at h1 h2
    have e : a.toNat = b.toNat := by omega
    have e1 : a = b := UInt8.toNat_inj.1 e
    subst e1
    rw [@lt_tri x y (by rcases h1.2 with h | h; exact absurd rfl h; exact h) (by rcases h2.2 with h | h; exact absurd rfl h; exact h)]
theorem lt_as {a b : Tx} (h : ltT a b = true) : ltT b a = false := by
  cases h2 : ltT b a
  · rfl
  · have := lt_tr h h2; rw [lt_irr] at this; cases this
theorem lt_ne {a b : Tx} (h : ltT a b = true) : (a == b) = false := by
  cases h2 : (a == b)
  · rfl
  · rw [beq_iff_eq] at h2; rw [h2, lt_irr] at h; cases h
theorem lt_ne' {a b : Tx} (h : ltT a b = true) : (b == a) = false := by
  cases h2 : (b == a)
  · rfl
  · rw [beq_iff_eq] at h2; rw [h2, lt_irr] at h; cases h
theorem cmp_lt : ∀ a b : Tx, decide (Lib.compareBytes a b < 0) = ltT a b
  | [], [] => rfl
  | [], _ :: _ => rfl
  | _ :: _, [] => rfl
  | a :: x, b :: y => by
    have ih := cmp_lt x y
    rw [lt_cons, Lib.compareBytes, ← ih]
    by_cases h : a < b
    · have := UInt8.lt_iff_toNat_lt.1 h
      simp [h, this]
    · have h' : ¬ a.toNat < b.toNat := fun e => h (UInt8.lt_iff_toNat_lt.2 e)
      by_cases h2 : b < a
      · have := UInt8.lt_iff_toNat_lt.1 h2
        have h3 : ¬ a.toNat = b.toNat := by omega
        simp [h, h2, h', h3]
      · have h2' : ¬ b.toNat < a.toNat := fun e => h2 (UInt8.lt_iff_toNat_lt.2 e)
        have h3 : a.toNat = b.toNat := by omega
        simp [h, h2, h3]
theorem cmp_z : ∀ a b : Tx, decide (Lib.compareBytes a b = 0) = (a == b)
  | [], [] => rfl
  | [], _ :: _ => rfl
  | _ :: _, [] => rfl
  | a :: x, b :: y => by
    have ih := cmp_z x y
    rw [Lib.compareBytes, List.cons_beq_cons, ← ih]
    by_cases h : a < b
    · have hne : (a == b) = false := beq_eq_false_iff_ne.2 (fun e => by subst e; exact absurd h (UInt8.lt_irrefl a))
      simp [h, hne]
    · by_cases h2 : b < a
      · have hne : (a == b) = false := beq_eq_false_iff_ne.2 (fun e => by subst e; exact absurd h2 (UInt8.lt_irrefl a))
        simp [h, h2, hne]
      · have h3 : a = b := by
          apply UInt8.toNat_inj.1
          have : ¬ a.toNat < b.toNat := fun e => h (UInt8.lt_iff_toNat_lt.2 e)
          have : ¬ b.toNat < a.toNat := fun e => h2 (UInt8.lt_iff_toNat_lt.2 e)
          omega
        simp [h3]

/-! which may be -/
def coOk (x : Int) : Bool := decide (0 ≤ x) && decide (x ≤ 2147483647)
def tmOk (c t : Int) : Bool := decide (1 ≤ t) && decide (t ≤ c)
def flOk (c : Int) (f : Fl) : Bool := pthB f.1 && (coOk f.2.1 && tmOk c f.2.2)
def prOk (fs : List Fl) (f : Fl) : Nat → Bool
  | 0 => true
  | j + 1 => match fs[j]? with | some g => ltT g.1 f.1 | none => true
def tmB (fs : List Fl) (f : Fl) : Bool := fs.any fun g => g.2.2 == f.2.2
def dkAt (c : Int) (fs : List Fl) (k : Nat) (f : Fl) : Bool := flOk c f && (prOk fs f k && !tmB (fs.take k) f)
def dkK (c : Int) (fs : List Fl) : Nat → Bool
  | 0 => true
  | k + 1 => dkK c fs k && (match fs[k]? with | some f => dkAt c fs k f | none => true)
def ckOk (c : Int) (fs : List Fl) : Bool := (decide (0 ≤ c) && decide (c ≤ 1048576)) && decide (fs.length ≤ 64)
def dkOk (c : Int) (fs : List Fl) : Bool := ckOk c fs && dkK c fs fs.length

theorem dkK_succ {c : Int} {fs : List Fl} {k : Nat} {f : Fl} (h : fs[k]? = some f) : dkK c fs (k + 1) = (dkK c fs k && dkAt c fs k f) := by
  show (dkK c fs k && _) = _
  rw [h]
theorem dkK_down {c : Int} {fs : List Fl} {m : Nat} (h : dkK c fs m = true) : ∀ {k : Nat}, k ≤ m → dkK c fs k = true := by
  induction m with
  | zero => intro k hk; rw [Nat.le_zero.1 hk]; rfl
  | succ m ih =>
    intro k hk
    rcases Nat.lt_or_ge k (m + 1) with h1 | h1
    · refine ih ?_ (Nat.lt_succ_iff.1 h1)
      exact (Bool.and_eq_true_iff.1 (show (dkK c fs m && _) = true from h)).1
    · rw [Nat.le_antisymm hk h1]; exact h
theorem dkK_bad {c : Int} {fs : List Fl} {k : Nat} {f : Fl} (h : fs[k]? = some f) (hb : dkAt c fs k f = false) : dkK c fs fs.length = false := by
  have hlt : k < fs.length := (List.getElem?_eq_some_iff.1 h).1
  cases ho : dkK c fs fs.length
  · rfl
  · have := dkK_down ho (show k + 1 ≤ fs.length from hlt)
    rw [dkK_succ h, hb, Bool.and_false] at this
    cases this
theorem dk_bad {c : Int} {fs : List Fl} {k : Nat} {f : Fl} (h : fs[k]? = some f) (hb : dkAt c fs k f = false) : dkOk c fs = false := by
  unfold dkOk; rw [dkK_bad h hb, Bool.and_false]
theorem dk_ck {c : Int} {fs : List Fl} (h : ckOk c fs = false) : dkOk c fs = false := by unfold dkOk; rw [h]; rfl
theorem dk_end {c : Int} {fs : List Fl} (h : dkK c fs fs.length = true) : dkOk c fs = ckOk c fs := by unfold dkOk; rw [h, Bool.and_true]
theorem dkAt_fl {c : Int} {fs : List Fl} {k : Nat} {f : Fl} (h : flOk c f = false) : dkAt c fs k f = false := by unfold dkAt; rw [h]; rfl
theorem dkAt_pr {c : Int} {fs : List Fl} {k : Nat} {f : Fl} (h : prOk fs f k = false) : dkAt c fs k f = false := by unfold dkAt; rw [h]; simp
theorem dkAt_tm {c : Int} {fs : List Fl} {k : Nat} {f : Fl} (h : tmB (fs.take k) f = true) : dkAt c fs k f = false := by unfold dkAt; rw [h]; simp
theorem dkAt_ok {c : Int} {fs : List Fl} {k : Nat} {f : Fl} (h1 : flOk c f = true) (h2 : prOk fs f k = true) (h3 : tmB (fs.take k) f = false) : dkAt c fs k f = true := by unfold dkAt; rw [h1, h2, h3]; rfl

abbrev Up (fs : List Fl) : Prop := fs.Pairwise fun f g => ltT f.1 g.1 = true
abbrev Tm (fs : List Fl) : Prop := fs.Pairwise fun f g => f.2.2 ≠ g.2.2
structure DkOk (c : Int) (fs : List Fl) : Prop where
  c0 : 0 ≤ c
  c1 : c ≤ 1048576
  n : fs.length ≤ 64
  f : ∀ f ∈ fs, flOk c f = true
  u : Up fs
  t : Tm fs

theorem up_next {fs : List Fl} (h : ∀ (j : Nat) f g, fs[j]? = some f → fs[j + 1]? = some g → ltT f.1 g.1 = true) : Up fs := by
  refine List.pairwise_iff_getElem.2 ?_
  have key : ∀ d i (hi : i + d + 1 < fs.length), ltT (fs[i]'(by omega)).1 (fs[i + d + 1]'hi).1 = true := by
    intro d
    induction d with
    | zero => intro i hi; exact h i _ _ (List.getElem?_eq_getElem (by omega)) (List.getElem?_eq_getElem (by omega))
    | succ d ih => intro i hi; exact lt_tr (ih i (by omega)) (h (i + d + 1) _ _ (List.getElem?_eq_getElem (by omega)) (List.getElem?_eq_getElem (by omega)))
  intro i j hi hj hij
  have := key (j - i - 1) i (by omega)
  simpa [show i + (j - i - 1) + 1 = j by omega] using this

theorem dk_parts {c : Int} {fs : List Fl} (h : dkOk c fs = true) : DkOk c fs := by
  have h1 := Bool.and_eq_true_iff.1 h
  have h2 := h1.1
  unfold ckOk at h2
  simp only [Bool.and_eq_true, decide_eq_true_eq] at h2
  have hk : ∀ k f, fs[k]? = some f → flOk c f = true ∧ prOk fs f k = true ∧ tmB (fs.take k) f = false := by
    intro k f hf
    have := dkK_down h1.2 (show k + 1 ≤ fs.length from (List.getElem?_eq_some_iff.1 hf).1)
    rw [dkK_succ hf] at this
    have h3 := Bool.and_eq_true_iff.1 (Bool.and_eq_true_iff.1 this).2
    have h4 := Bool.and_eq_true_iff.1 h3.2
    exact ⟨h3.1, h4.1, by simpa using h4.2⟩
  refine ⟨h2.1.1, h2.1.2, h2.2, ?_, ?_, ?_⟩
  · intro f hf
    obtain ⟨k, hk'⟩ := List.mem_iff_getElem?.1 hf
    exact (hk k f hk').1
  · refine up_next fun j f g hf hg => ?_
    have := (hk (j + 1) g hg).2.1
    simpa [prOk, hf] using this
  · refine List.pairwise_iff_getElem.2 ?_
    intro i j hi hj hij e
    have := (hk j _ (List.getElem?_eq_getElem hj)).2.2
    unfold tmB at this
    rw [List.any_eq_false] at this
    exact this fs[i] (List.mem_take_iff_getElem.2 ⟨i, by omega, rfl⟩) (by simpa using e)
theorem dk_of {c : Int} {fs : List Fl} (h : DkOk c fs) : dkOk c fs = true := by
  have hk : ∀ k f, fs[k]? = some f → dkAt c fs k f = true := by
    intro k f hf
    obtain ⟨hlt, he⟩ := List.getElem?_eq_some_iff.1 hf
    refine dkAt_ok (h.f f (List.mem_of_getElem? hf)) ?_ ?_
    · cases k with
      | zero => rfl
      | succ j =>
        have := List.pairwise_iff_getElem.1 h.u j (j + 1) (by omega) hlt (by omega)
        rw [he] at this
        have hj : fs[j]? = some fs[j] := List.getElem?_eq_getElem (by omega)
        show (match fs[j]? with | some g => ltT g.1 f.1 | none => true) = true
        rw [hj]; exact this
    · unfold tmB
      rw [List.any_eq_false]
      intro g hg
      obtain ⟨j, hj, rfl⟩ := List.mem_take_iff_getElem.1 hg
      have := List.pairwise_iff_getElem.1 h.t j k (by omega) hlt (by omega)
      rw [he] at this
      simpa using this
  have : ∀ m, m ≤ fs.length → dkK c fs m = true := by
    intro m
    induction m with
    | zero => intro _; rfl
    | succ m ih =>
      intro hm
      have hg : fs[m]? = some fs[m] := List.getElem?_eq_getElem (by omega)
      rw [dkK_succ hg, ih (by omega), hk m _ hg]; rfl
  unfold dkOk ckOk
  rw [this _ (Nat.le_refl _), decide_eq_true h.c0, decide_eq_true h.c1, decide_eq_true h.n]; rfl

/-! writes -/
def loF (fs : List Fl) (n : Tx) : List Fl := fs.filter fun g => ltT g.1 n
def hiF (fs : List Fl) (n : Tx) : List Fl := fs.filter fun g => ltT n g.1
def fnF (fs : List Fl) (n : Tx) : Option Fl := fs.find? fun g => g.1 == n
def putL (fs : List Fl) (n : Tx) (x t : Int) : List Fl := loF fs n ++ (n, x, t) :: hiF fs n
def remL (fs : List Fl) (n : Tx) : List Fl := fs.filter fun g => !(g.1 == n)
def fulB (c : Int) (fs : List Fl) (n : Tx) : Bool := decide (c = 1048576) || ((fnF fs n).isNone && decide (fs.length = 64))
def putE (c : Int) (fs : List Fl) (n : Tx) (x : Int) : Int := if dkOk c fs && (pthB n && coOk x) then (if fulB c fs n then 1201 else 0) else 1200
def putC (c : Int) (fs : List Fl) (n : Tx) (x : Int) : Int := if putE c fs n x = 0 then c + 1 else 0
def putF (c : Int) (fs : List Fl) (n : Tx) (x : Int) : List Fl := if putE c fs n x = 0 then putL fs n x (c + 1) else []
def remE (c : Int) (fs : List Fl) (n : Tx) : Int := if dkOk c fs && pthB n then (if (fnF fs n).isNone then 1202 else 0) else 1200
def remC (c : Int) (fs : List Fl) (n : Tx) : Int := if remE c fs n = 0 then c else 0
def remF (c : Int) (fs : List Fl) (n : Tx) : List Fl := if remE c fs n = 0 then remL fs n else []
def fdF (c : Int) (fs : List Fl) (n : Tx) : Option Fl := if dkOk c fs then fnF fs n else none

theorem all_hi {fs : List Fl} {n : Tx} (h : ∀ g ∈ fs, ltT n g.1 = true) : loF fs n = [] ∧ fnF fs n = none ∧ hiF fs n = fs := by
  refine ⟨?_, ?_, ?_⟩
  · unfold loF; rw [List.filter_eq_nil_iff]; intro g hg; rw [lt_as (h g hg)]; simp
  · unfold fnF; rw [List.find?_eq_none]; intro g hg; rw [lt_ne' (h g hg)]; simp
  · unfold hiF; rw [List.filter_eq_self]; exact h

theorem splitF {n : Tx} : ∀ {fs : List Fl}, Up fs → fs = loF fs n ++ ((fnF fs n).toList ++ hiF fs n)
  | [], _ => rfl
  | f :: r, h => by
    obtain ⟨h1, h2⟩ := List.pairwise_cons.1 h
    have ih := splitF (n := n) h2
    cases ha : ltT f.1 n
    · cases hb : ltT n f.1
      · have he := lt_tri ha hb
        have hr := all_hi (fs := r) (n := n) (fun g hg => by rw [← he]; exact h1 g hg)
        have e1 : loF (f :: r) n = [] := by unfold loF; rw [List.filter_cons_of_neg (by simp [ha])]; exact hr.1
        have e2 : fnF (f :: r) n = some f := by unfold fnF; rw [List.find?_cons_of_pos (by simp [he])]
        have e3 : hiF (f :: r) n = r := by unfold hiF; rw [List.filter_cons_of_neg (by simp [hb])]; exact hr.2.2
        rw [e1, e2, e3]; rfl
      · have hr := all_hi (fs := f :: r) (n := n) (fun g hg => by
          rcases List.mem_cons.1 hg with e | e
          · rw [e]; exact hb
          · exact lt_tr hb (h1 g e))
        rw [hr.1, hr.2.1, hr.2.2]; rfl
    · have e1 : loF (f :: r) n = f :: loF r n := by unfold loF; rw [List.filter_cons_of_pos (by simp [ha])]
      have e2 : fnF (f :: r) n = fnF r n := by unfold fnF; rw [List.find?_cons_of_neg (by simp [lt_ne ha])]
      have e3 : hiF (f :: r) n = hiF r n := by unfold hiF; rw [List.filter_cons_of_neg (by simp [lt_as ha])]
      rw [e1, e2, e3, List.cons_append, ← ih]
theorem fn_name {fs : List Fl} {n : Tx} {f : Fl} (h : fnF fs n = some f) : f.1 = n := by
  have := List.find?_some h; simpa using this
theorem fn_mem {fs : List Fl} {n : Tx} {f : Fl} (h : fnF fs n = some f) : f ∈ fs := List.mem_of_find?_eq_some h
theorem lo_le (fs : List Fl) (n : Tx) : (loF fs n).length ≤ fs.length := List.length_filter_le _ _
theorem take_lo {fs : List Fl} {n : Tx} (h : Up fs) : fs.take (loF fs n).length = loF fs n := by
  have e := splitF (n := n) h
  have := congrArg (List.take (loF fs n).length) e
  rwa [List.take_left] at this
theorem drop_lo {fs : List Fl} {n : Tx} (h : Up fs) : fs.drop (loF fs n).length = (fnF fs n).toList ++ hiF fs n := by
  have e := splitF (n := n) h
  have := congrArg (List.drop (loF fs n).length) e
  rwa [List.drop_left] at this
theorem lo_at {fs : List Fl} {n : Tx} {f : Fl} (h : Up fs) (hf : fnF fs n = some f) : fs[(loF fs n).length]? = some f := by
  have := drop_lo (n := n) h
  rw [hf] at this
  have h2 := congrArg (fun l => l[0]?) this
  simpa using h2
/-- What stands where it would stand has another name. -/
theorem lo_no {fs : List Fl} {n : Tx} {g : Fl} (hf : fnF fs n = none) (hg : fs[(loF fs n).length]? = some g) : (g.1 == n) = false := by
  unfold fnF at hf
  rw [List.find?_eq_none] at hf
  simpa using hf g (List.mem_of_getElem? hg)
theorem lo_len {fs : List Fl} {n : Tx} {i : Nat} (hi : i ≤ fs.length) (h1 : ∀ t g, t < i → fs[t]? = some g → ltT g.1 n = true) (h2 : ∀ t g, i ≤ t → fs[t]? = some g → ltT g.1 n = false) : (loF fs n).length = i := by
  have e : loF fs n = fs.take i := by
    unfold loF
    conv => lhs; rw [← List.take_append_drop i fs]
    rw [List.filter_append]
    have e1 : (fs.take i).filter (fun g => ltT g.1 n) = fs.take i := by
      rw [List.filter_eq_self]
      intro g hg
      obtain ⟨j, hj, rfl⟩ := List.mem_take_iff_getElem.1 hg
      exact h1 j _ (by omega) (List.getElem?_eq_getElem (by omega))
    have e2 : (fs.drop i).filter (fun g => ltT g.1 n) = [] := by
      rw [List.filter_eq_nil_iff]
      intro g hg
      obtain ⟨j, hj, rfl⟩ := List.mem_drop_iff_getElem.1 hg
      rw [h2 (i + j) _ (by omega) (List.getElem?_eq_getElem (by omega))]; simp
    rw [e1, e2, List.append_nil]
  rw [e, List.length_take]; omega

theorem put_len {fs : List Fl} {n : Tx} {x t : Int} (h : Up fs) : (putL fs n x t).length = fs.length + (if (fnF fs n).isNone then 1 else 0) := by
  have e := congrArg List.length (splitF (n := n) h)
  unfold putL
  rw [List.length_append, List.length_append] at *
  rw [List.length_cons]
  cases hf : fnF fs n with
  | none => rw [hf] at e; simp at e ⊢; omega
  | some f => rw [hf] at e; simp at e ⊢; omega
theorem rem_lo {fs : List Fl} {n : Tx} (h : Up fs) : remL fs n = loF fs n ++ hiF fs n := by
  unfold remL
  conv => lhs; rw [splitF (n := n) h]
  rw [List.filter_append, List.filter_append]
  have e1 : (loF fs n).filter (fun g => !(g.1 == n)) = loF fs n := by
    rw [List.filter_eq_self]; intro g hg
    rw [lt_ne (List.mem_filter.1 hg).2]; rfl
  have e3 : (hiF fs n).filter (fun g => !(g.1 == n)) = hiF fs n := by
    rw [List.filter_eq_self]; intro g hg
    rw [lt_ne' (List.mem_filter.1 hg).2]; rfl
  have e2 : (fnF fs n).toList.filter (fun g => !(g.1 == n)) = [] := by
    cases hf : fnF fs n with
    | none => rfl
    | some f => simp [fn_name hf]
  rw [e1, e2, e3, List.nil_append]

theorem put_ok {c : Int} {fs : List Fl} {n : Tx} {x : Int} (h : putE c fs n x = 0) : (DkOk c fs ∧ pthB n = true ∧ coOk x = true) ∧ fulB c fs n = false := by
  unfold putE at h
  split at h
  · rename_i ha
    have h1 := Bool.and_eq_true_iff.1 ha
    have h2 := Bool.and_eq_true_iff.1 h1.2
    refine ⟨⟨dk_parts h1.1, h2.1, h2.2⟩, ?_⟩
    split at h
    · cases h
    · rename_i hb; simpa using hb
  · cases h
theorem put_may {c : Int} {fs : List Fl} {n : Tx} {x : Int} (h : putE c fs n x = 0) : DkOk (c + 1) (putL fs n x (c + 1)) := by
  obtain ⟨⟨hd, hn, hx⟩, hf⟩ := put_ok h
  unfold fulB at hf
  simp only [Bool.or_eq_false_iff, decide_eq_false_iff_not, Bool.and_eq_false_iff] at hf
  have hc0 := hd.c0
  have hc1 := hd.c1
  have hl := put_len (n := n) (x := x) (t := c + 1) hd.u
  have hn64 := hd.n
  have ml : ∀ f ∈ loF fs n, f ∈ fs ∧ ltT f.1 n = true := fun f hf => List.mem_filter.1 hf
  have mh : ∀ f ∈ hiF fs n, f ∈ fs ∧ ltT n f.1 = true := fun f hf => List.mem_filter.1 hf
  have ft : ∀ f ∈ fs, f.2.2 ≤ c := fun f hf => by
    have := hd.f f hf
    unfold flOk tmOk at this
    simp only [Bool.and_eq_true, decide_eq_true_eq] at this
    exact this.2.2.2
  refine ⟨by omega, by omega, ?_, ?_, ?_, ?_⟩
  · rw [hl]
    split
    · rename_i h1
      rcases hf.2 with h2 | h2
      · rw [h1] at h2; cases h2
      · omega
    · omega
  · intro f hf
    have up : ∀ f ∈ fs, flOk (c + 1) f = true := fun f hf => by
      have := hd.f f hf
      unfold flOk tmOk at this ⊢
      simp only [Bool.and_eq_true, decide_eq_true_eq] at this ⊢
      exact ⟨this.1, this.2.1, this.2.2.1, by omega⟩
    unfold putL at hf
    rcases List.mem_append.1 hf with h1 | h1
    · exact up f (ml f h1).1
    · rcases List.mem_cons.1 h1 with h2 | h2
      · subst h2
        unfold flOk tmOk
        simp only [hn, hx, Bool.and_eq_true, decide_eq_true_eq, true_and]
        omega
      · exact up f (mh f h2).1
  · unfold putL
    refine List.pairwise_append.2 ⟨hd.u.filter _, List.pairwise_cons.2 ⟨fun g hg => (mh g hg).2, hd.u.filter _⟩, ?_⟩
    intro a ha b hb
    rcases List.mem_cons.1 hb with h2 | h2
    · subst h2; exact (ml a ha).2
    · exact lt_tr (ml a ha).2 (mh b h2).2
  · unfold putL
    have hs := splitF (n := n) hd.u
    have ht : Tm (loF fs n ++ ((fnF fs n).toList ++ hiF fs n)) := by rw [← hs]; exact hd.t
    obtain ⟨t1, t2, t3⟩ := List.pairwise_append.1 ht
    obtain ⟨_, t4, _⟩ := List.pairwise_append.1 t2
    refine List.pairwise_append.2 ⟨t1, List.pairwise_cons.2 ⟨fun g hg => ?_, t4⟩, ?_⟩
    · have := ft g (mh g hg).1
      show c + 1 ≠ g.2.2
      omega
    · intro a ha b hb
      rcases List.mem_cons.1 hb with h2 | h2
      · subst h2
        have := ft a (ml a ha).1
        show a.2.2 ≠ c + 1
        omega
      · exact t3 a ha b (List.mem_append_right _ h2)
theorem rem_ok {c : Int} {fs : List Fl} {n : Tx} (h : remE c fs n = 0) : (DkOk c fs ∧ pthB n = true) ∧ ∃ f, fnF fs n = some f := by
  unfold remE at h
  split at h
  · rename_i ha
    have h1 := Bool.and_eq_true_iff.1 ha
    refine ⟨⟨dk_parts h1.1, h1.2⟩, ?_⟩
    split at h
    · cases h
    · rename_i hb
      cases hf : fnF fs n with
      | none => rw [hf] at hb; exact absurd rfl hb
      | some f => exact ⟨f, rfl⟩
  · cases h
theorem rem_may {c : Int} {fs : List Fl} {n : Tx} (hd : DkOk c fs) : DkOk c (remL fs n) :=
  ⟨hd.c0, hd.c1, Nat.le_trans (List.length_filter_le _ _) hd.n, fun f hf => hd.f f (List.mem_filter.1 hf).1, hd.u.filter _, hd.t.filter _⟩
theorem fn_put {fs : List Fl} {n o : Tx} {x t : Int} (h : Up fs) : fnF (putL fs n x t) o = if o = n then some (n, x, t) else fnF fs o := by
  have hs := splitF (n := n) h
  have hlo : ∀ {o}, o = n → fnF (loF fs n) o = none := by
    rintro o rfl
    unfold fnF; rw [List.find?_eq_none]; intro g hg
    rw [lt_ne (List.mem_filter.1 hg).2]; simp
  split
  · rename_i e
    unfold putL
    show List.find? _ _ = _
    rw [List.find?_append, show (loF fs n).find? (fun g => g.1 == o) = none from hlo e, Option.none_or, List.find?_cons_of_pos (by simp [e])]
  · rename_i e
    have e2 : (n == o) = false := beq_eq_false_iff_ne.2 (Ne.symm e)
    conv => rhs; rw [hs]
    show List.find? _ (loF fs n ++ (n, x, t) :: hiF fs n) = List.find? _ _
    rw [List.find?_append, List.find?_append, List.find?_append, List.find?_cons_of_neg (by simp [e2])]
    have : (fnF fs n).toList.find? (fun g => g.1 == o) = none := by
      cases hf : fnF fs n with
      | none => rfl
      | some f => simp [fn_name hf, e2]
    rw [this, Option.none_or]
theorem fn_rem {fs : List Fl} {n o : Tx} : fnF (remL fs n) o = if o = n then none else fnF fs o := by
  unfold fnF remL
  rw [List.find?_filter]
  split
  · rename_i e
    rw [List.find?_eq_none]
    intro g _; simp [e]
  · rename_i e
    congr 1
    funext g
    cases hg : (g.1 == o)
    · simp
    · rw [beq_iff_eq] at hg
      simp [hg, e]

/-! the document's own write, file by file -/
def pst (n : Tx) (f : Fl) (s : List Fl × Bool) (g : Fl) : List Fl × Bool :=
  let a := if s.2 || ltT g.1 n then s else (s.1 ++ [f], true)
  if g.1 == n then a else (a.1 ++ [g], a.2)
def psts (n : Tx) (f : Fl) (fs : List Fl) : List Fl × Bool := fs.foldl (pst n f) ([], false)
theorem psts_succ {n : Tx} {f g : Fl} {fs : List Fl} {k : Nat} (h : fs[k]? = some g) : psts n f (fs.take (k + 1)) = pst n f (psts n f (fs.take k)) g := by
  unfold psts
  rw [List.take_add_one, h, List.foldl_append]; rfl
theorem pst_lo {n : Tx} {f : Fl} : ∀ (fs : List Fl) (a : List Fl), (∀ g ∈ fs, ltT g.1 n = true) → fs.foldl (pst n f) (a, false) = (a ++ fs, false)
  | [], a, _ => by simp
  | g :: r, a, h => by
    rw [List.foldl_cons]
    have h1 := h g (by simp)
    rw [show pst n f (a, false) g = (a ++ [g], false) by unfold pst; simp [h1, lt_ne h1], pst_lo r _ (fun x hx => h x (by simp [hx]))]
    simp
theorem pst_hi {n : Tx} {f : Fl} : ∀ (fs : List Fl) (a : List Fl), (∀ g ∈ fs, ltT n g.1 = true) → fs.foldl (pst n f) (a, true) = (a ++ fs, true)
  | [], a, _ => by simp
  | g :: r, a, h => by
    rw [List.foldl_cons]
    have h1 := h g (by simp)
    rw [show pst n f (a, true) g = (a ++ [g], true) by unfold pst; simp [lt_ne' h1], pst_hi r _ (fun x hx => h x (by simp [hx]))]
    simp
def pstL (s : List Fl × Bool) (f : Fl) : List Fl := if s.2 then s.1 else s.1 ++ [f]
theorem pst_put {fs : List Fl} {n : Tx} {x t : Int} (h : Up fs) : pstL (psts n (n, x, t) fs) (n, x, t) = putL fs n x t := by
  have hs := splitF (n := n) h
  have ml : ∀ f ∈ loF fs n, ltT f.1 n = true := fun f hf => (List.mem_filter.1 hf).2
  have mh : ∀ f ∈ hiF fs n, ltT n f.1 = true := fun f hf => (List.mem_filter.1 hf).2
  unfold psts putL
  conv => lhs; rw [hs]
  rw [List.foldl_append, pst_lo _ _ ml, List.foldl_append, List.nil_append]
  cases hf : fnF fs n with
  | some f =>
    have e := fn_name hf
    rw [show (some f : Option Fl).toList.foldl (pst n (n, x, t)) (loF fs n, false) = (loF fs n ++ [(n, x, t)], true) by
      show pst n (n, x, t) (loF fs n, false) f = _
      unfold pst; simp [e, lt_irr], pst_hi _ _ mh]
    unfold pstL; simp
  | none =>
    show pstL (List.foldl _ (loF fs n, false) (hiF fs n)) _ = _
    cases hh : hiF fs n with
    | nil => unfold pstL; simp
    | cons g r =>
      have h1 := mh g (by rw [hh]; simp)
      rw [List.foldl_cons, show pst n (n, x, t) (loF fs n, false) g = (loF fs n ++ [(n, x, t)] ++ [g], true) by unfold pst; simp [lt_as h1, lt_ne' h1],
        pst_hi r _ (fun x hx => mh x (by rw [hh]; simp [hx]))]
      unfold pstL; simp

theorem pth_len {x : Tx} (h : pthB x = true) : x.length ≤ 16 := by
  have h1 : cleanL x = some x := by unfold pthB at h; simpa using h
  unfold cleanL at h1
  split at h1
  · rename_i h2
    have := h2.1
    unfold mayL at this
    simp only [Bool.and_eq_true, decide_eq_true_eq] at this
    omega
  · cases h1
theorem fl_len {c : Int} {f : Fl} (h : flOk c f = true) : f.1.length ≤ 16 := pth_len (Bool.and_eq_true_iff.1 h).1
/-- What is asked of texts' lengths. -/
def FlZ (fs : List Fl) : Prop := ∀ f ∈ fs, f.1.length ≤ maxLen

end Go.Proofs.YtjalklmgdkhekaaDoor
