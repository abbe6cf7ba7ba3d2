/- A log's text, what a text loads, an output's last record, a log compacted: plain facts, no program in them; no conditions. -/
import Derived.Test.YtgbegdgacjodcaaDoorLgPlain
namespace Go.Proofs.YtgbegdgacjodcaaDoor
open Go.RowKit

abbrev Rs := List Rc
def loOk (rs : Rs) : Bool := decide (rs.length ≤ 256) && rs.all rcOk
def loL (rs : Rs) : Tx := rs.flatMap rcT
def loT (rs : Rs) : Tx := if loOk rs then loL rs else []
def loE (rs : Rs) : Int := if loOk rs then 0 else 1400
theorem lo_yes {rs : Rs} (h : loOk rs = true) : loT rs = loL rs ∧ loE rs = 0 := by unfold loT loE; rw [if_pos h, if_pos h]; exact ⟨rfl, rfl⟩
theorem lo_no {rs : Rs} (h : loOk rs = false) : loT rs = [] ∧ loE rs = 1400 := by
  have : ¬ loOk rs = true := by rw [h]; simp
  unfold loT loE; rw [if_neg this, if_neg this]; exact ⟨rfl, rfl⟩
theorem lo_parts {rs : Rs} (h : loOk rs = true) : rs.length ≤ 256 ∧ ∀ r ∈ rs, rcOk r = true := by
  unfold loOk at h
  rw [Bool.and_eq_true, decide_eq_true_iff] at h
  exact ⟨h.1, fun r hr => List.all_eq_true.1 h.2 r hr⟩
theorem lo_of {rs : Rs} (h1 : rs.length ≤ 256) (h2 : ∀ r ∈ rs, rcOk r = true) : loOk rs = true := by
  unfold loOk
  rw [decide_eq_true h1, List.all_eq_true.2 h2]; rfl
theorem loL_app (a b : Rs) : loL (a ++ b) = loL a ++ loL b := by unfold loL; rw [List.flatMap_append]
theorem loL_cons (r : Rc) (a : Rs) : loL (r :: a) = rcT r ++ loL a := by unfold loL; simp
theorem loL_len {rs : Rs} (h : ∀ r ∈ rs, rcOk r = true) : (loL rs).length ≤ rs.length * 2100 := by
  induction rs with
  | nil => simp [loL]
  | cons r a ih =>
    have h1 := rcT_len (h r (by simp))
    have h2 := ih (fun x hx => h x (by simp [hx]))
    rw [loL_cons, List.length_append, List.length_cons, Nat.add_mul]; omega

/-! what a text loads -/
/-- Where the first 10 stands. -/
def nlI : Tx → Option Nat
  | [] => none
  | c :: l => if c = 10 then some 0 else (nlI l).map (· + 1)
theorem nlI_app : ∀ (a b : Tx), (10 : UInt8) ∉ a → nlI (a ++ 10 :: b) = some a.length
  | [], b, _ => by simp [nlI]
  | c :: a, b, h => by
    have h1 : (10 : UInt8) ∉ a := fun hm => h (by simp [hm])
    have h2 : c ≠ 10 := fun e => h (by simp [e])
    rw [List.cons_append, nlI, if_neg h2, nlI_app a b h1]; simp
theorem nlI_none : ∀ {l : Tx}, (10 : UInt8) ∉ l → nlI l = none
  | [], _ => rfl
  | c :: l, h => by
    have h1 : (10 : UInt8) ∉ l := fun hm => h (by simp [hm])
    have h2 : c ≠ 10 := fun e => h (by simp [e])
    rw [nlI, if_neg h2, nlI_none h1]; rfl
theorem nlI_some : ∀ {l : Tx} {k : Nat}, nlI l = some k → k < l.length ∧ (10 : UInt8) ∉ l.take k ∧ l[k]? = some 10
  | [], k, h => by cases h
  | c :: l, k, h => by
    rw [nlI] at h
    by_cases hc : c = 10
    · rw [if_pos hc] at h; cases h; subst hc; exact ⟨by simp, by simp, by simp⟩
    · rw [if_neg hc] at h
      cases e : nlI l with
      | none => rw [e] at h; cases h
      | some j =>
        rw [e] at h; cases h
        obtain ⟨h1, h2, h3⟩ := nlI_some e
        refine ⟨by simp; omega, ?_, by simpa using h3⟩
        rw [List.take_succ_cons]
        intro hm
        rcases List.mem_cons.1 hm with hm | hm
        · exact hc hm.symm
        · exact h2 hm
theorem nlI_mem {l : Tx} (h : nlI l = none) : (10 : UInt8) ∉ l := by
  induction l with
  | nil => simp
  | cons c l ih =>
    rw [nlI] at h
    by_cases hc : c = 10
    · rw [if_pos hc] at h; cases h
    · rw [if_neg hc] at h
      have := ih (by cases e : nlI l with | none => rfl | some j => rw [e] at h; cases h)
      intro hm
      rcases List.mem_cons.1 hm with hm | hm
      · exact hc hm.symm
      · exact this hm
/-- The first line and what is behind it. -/
def fsL (s : Tx) : Option (Rc × Tx) := match nlI s with
  | none => none
  | some k => (gtL (s.take (k + 1))).map fun r => (r, s.drop (k + 1))
def ldN : Nat → Tx → Rs
  | 0, _ => []
  | n + 1, s => match fsL s with
    | none => []
    | some x => x.1 :: ldN n x.2
def ldL (s : Tx) : Rs := ldN 256 s

theorem fs_line {r : Rc} (h : rcOk r = true) (x : Tx) : fsL (rcT r ++ x) = some (r, x) := by
  obtain ⟨b, e, hb⟩ := line_end h
  have e2 : rcT r ++ x = b ++ 10 :: x := by rw [e]; simp
  have hn : nlI (rcT r ++ x) = some b.length := by rw [e2]; exact nlI_app b x hb
  have hl : (rcT r).length = b.length + 1 := by rw [e]; simp
  unfold fsL
  rw [hn]
  show (gtL ((rcT r ++ x).take (b.length + 1))).map _ = _
  rw [← hl, List.take_left, List.drop_left, gt_line h]; rfl
theorem fs_some {s : Tx} {y : Rc × Tx} (h : fsL s = some y) : rcOk y.1 = true ∧ s = rcT y.1 ++ y.2 := by
  unfold fsL at h
  cases e : nlI s with
  | none => rw [e] at h; cases h
  | some k =>
    rw [e] at h
    dsimp only at h
    cases g : gtL (s.take (k + 1)) with
    | none => rw [g] at h; cases h
    | some r =>
      rw [g] at h
      cases h
      obtain ⟨h1, h2⟩ := gt_some g
      exact ⟨h1, by rw [h2, List.take_append_drop]⟩
theorem fs_nil : fsL [] = none := rfl
theorem fs_none {s : Tx} (h : (10 : UInt8) ∉ s) : fsL s = none := by unfold fsL; rw [nlI_none h]
/-- A line that none is told of, whatever is behind it. -/
theorem fs_bad {a : Tx} (h : (10 : UInt8) ∉ a) (hg : gtL (a ++ [10]) = none) (x : Tx) : fsL (a ++ 10 :: x) = none := by
  unfold fsL
  rw [nlI_app a x h]
  show (gtL ((a ++ 10 :: x).take (a.length + 1))).map _ = _
  have : (a ++ 10 :: x).take (a.length + 1) = a ++ [10] := by
    rw [show a ++ 10 :: x = (a ++ [10]) ++ x by simp, show a.length + 1 = (a ++ [10]).length by simp, List.take_left]
  rw [this, hg]; rfl

theorem ld_le : ∀ (n : Nat) (s : Tx), (ldN n s).length ≤ n
  | 0, s => by simp [ldN]
  | n + 1, s => by
    rw [ldN]
    cases fsL s with
    | none => simp
    | some x => have := ld_le n x.2; simp; omega
theorem ld_ok : ∀ (n : Nat) (s : Tx), ∀ r ∈ ldN n s, rcOk r = true
  | 0, s, r, h => by simp [ldN] at h
  | n + 1, s, r, h => by
    rw [ldN] at h
    cases e : fsL s with
    | none => rw [e] at h; cases h
    | some x =>
      rw [e] at h
      rcases List.mem_cons.1 h with h | h
      · rw [h]; exact (fs_some e).1
      · exact ld_ok n x.2 r h
theorem ld_pre : ∀ (n : Nat) (s : Tx), ∃ x, s = loL (ldN n s) ++ x
  | 0, s => ⟨s, rfl⟩
  | n + 1, s => by
    rw [ldN]
    cases e : fsL s with
    | none => exact ⟨s, rfl⟩
    | some y =>
      obtain ⟨x, hx⟩ := ld_pre n y.2
      refine ⟨x, ?_⟩
      show s = loL (y.1 :: ldN n y.2) ++ x
      rw [loL_cons, List.append_assoc, ← hx]
      exact (fs_some e).2
/-- A log's text, and what is behind it. -/
theorem ld_text : ∀ (rs : Rs) (n : Nat) (x : Tx), (∀ r ∈ rs, rcOk r = true) → rs.length ≤ n → ldN n (loL rs ++ x) = rs ++ ldN (n - rs.length) x
  | [], n, x, _, _ => by simp [loL]
  | r :: rs, 0, x, _, h => by simp at h
  | r :: rs, n + 1, x, h, hl => by
    rw [loL_cons, List.append_assoc, ldN, fs_line (h r (by simp)), List.cons_append]
    dsimp only
    rw [ld_text rs n x (fun y hy => h y (by simp [hy])) (by simpa using hl), List.length_cons, Nat.add_sub_add_right]
theorem ld_none {n : Nat} {s : Tx} (h : fsL s = none) : ldN n s = [] := by
  cases n with
  | zero => rfl
  | succ n => rw [ldN, h]
theorem ldL_text {rs : Rs} (h : loOk rs = true) : ldL (loL rs) = rs := by
  obtain ⟨h1, h2⟩ := lo_parts h
  have := ld_text rs 256 [] h2 h1
  rw [List.append_nil] at this
  unfold ldL
  rw [this, ld_none fs_nil, List.append_nil]
/-- Behind what is no line nothing is loaded. -/
theorem ldL_stop {rs : Rs} (h : loOk rs = true) {x : Tx} (hx : fsL x = none) : ldL (loL rs ++ x) = rs := by
  obtain ⟨h1, h2⟩ := lo_parts h
  unfold ldL
  rw [ld_text rs 256 x h2 h1, ld_none hx, List.append_nil]
theorem ldL_may (s : Tx) : loOk (ldL s) = true := lo_of (ld_le 256 s) (ld_ok 256 s)

/-- A text whose first sign stands in no path. -/
theorem fs_odd {c : UInt8} (h : okb c.toNat = false) (x : Tx) : fsL (c :: x) = none := by
  cases e : fsL (c :: x) with
  | none => rfl
  | some y =>
    obtain ⟨h1, h2⟩ := fs_some e
    obtain ⟨h3, _, _⟩ := rc_parts h1
    have h4 := (may_len (pth_may h3)).1
    have h5 := may_free (pth_may h3) c h
    unfold rcT at h2
    cases g : y.1.1 with
    | nil => rw [g] at h4; simp at h4
    | cons d l =>
      rw [g] at h2 h5
      simp at h2
      exact absurd (show c ∈ d :: l by rw [h2.1]; simp) h5
theorem ld_many (n m : Nat) (g : Rc) (hg : rcOk g = true) (h : n ≤ m) : ldN n (loL (List.replicate m g)) = List.replicate n g := by
  have e : List.replicate m g = List.replicate n g ++ List.replicate (m - n) g := by rw [List.replicate_append_replicate]; congr 1; omega
  rw [e, loL_app, ld_text _ n _ (fun r hr => by rw [(List.mem_replicate.1 hr).2]; exact hg) (by simp), List.length_replicate, Nat.sub_self]
  simp [ldN]

/-! a text that was cut -/
def nlC (s : Tx) : Nat := s.count 10
theorem nlC_line {r : Rc} (h : rcOk r = true) : nlC (rcT r) = 1 := by
  obtain ⟨b, e, hb⟩ := line_end h
  unfold nlC
  rw [e, List.count_append, List.count_eq_zero.2 hb]; rfl
theorem pre_line {r : Rc} (h : rcOk r = true) {k : Nat} (hk : k < (rcT r).length) : (10 : UInt8) ∉ (rcT r).take k := by
  obtain ⟨b, e, hb⟩ := line_end h
  rw [e] at hk ⊢
  rw [List.take_append_of_le_length (by simp at hk; omega)]
  exact fun hm => hb (List.mem_of_mem_take hm)
/-- All that is whole ahead of the cut. -/
theorem cut_text : ∀ (rs : Rs) (n k : Nat), (∀ r ∈ rs, rcOk r = true) → rs.length ≤ n → k ≤ (loL rs).length → nlC ((loL rs).take k) ≤ rs.length ∧ ldN n ((loL rs).take k) = rs.take (nlC ((loL rs).take k))
  | [], n, k, _, _, hk => by
    have h0 : (loL []).take k = [] := by simp [loL]
    rw [h0]
    exact ⟨Nat.le_refl _, by rw [ld_none fs_nil]; rfl⟩
  | r :: rs, 0, k, _, h, _ => by simp at h
  | r :: rs, n + 1, k, h, hl, hk => by
    have hr := h r (by simp)
    rw [loL_cons] at hk ⊢
    by_cases hlt : k < (rcT r).length
    · have hp := pre_line hr hlt
      rw [List.take_append_of_le_length (by omega)]
      have h0 : nlC ((rcT r).take k) = 0 := List.count_eq_zero.2 hp
      rw [h0]
      exact ⟨Nat.zero_le _, by rw [ld_none (fs_none hp)]; rfl⟩
    · have hge : (rcT r).length ≤ k := by omega
      obtain ⟨j, rfl⟩ : ∃ j, k = (rcT r).length + j := ⟨k - (rcT r).length, by omega⟩
      rw [List.take_length_add_append]
      have ih := cut_text rs n j (fun y hy => h y (by simp [hy])) (by simpa using hl) (by rw [List.length_append] at hk; omega)
      have hc : nlC (rcT r ++ (loL rs).take j) = nlC ((loL rs).take j) + 1 := by
        have := nlC_line hr
        unfold nlC at *
        rw [List.count_append, this]; omega
      rw [hc, ldN, fs_line hr]
      refine ⟨by simpa using ih.1, ?_⟩
      dsimp only
      rw [ih.2, List.take_succ_cons]

/-! an output's last record -/
def laR (rs : Rs) (n : Tx) : Option Rc := if loOk rs then rs.reverse.find? (fun r => r.1 == n) else none
theorem la_snoc {rs : Rs} {r : Rc} {n : Tx} (h : loOk (rs ++ [r]) = true) : laR (rs ++ [r]) n = if (r.1 == n) = true then some r else laR rs n := by
  have h0 : loOk rs = true := by
    obtain ⟨h1, h2⟩ := lo_parts h
    exact lo_of (by simp at h1; omega) (fun x hx => h2 x (by simp [hx]))
  unfold laR
  rw [if_pos h, if_pos h0, List.reverse_append]
  show (r :: rs.reverse).find? _ = _
  rw [List.find?_cons]
  cases (r.1 == n) <;> simp
theorem la_no {rs : Rs} {n : Tx} (h : loOk rs = false) : laR rs n = none := by
  have : ¬ loOk rs = true := by rw [h]; simp
  unfold laR; rw [if_neg this]

/-! a log compacted -/
def cmR : Rs → Rs
  | [] => []
  | r :: t => if t.any (fun x => x.1 == r.1) then cmR t else r :: cmR t
theorem cm_mem : ∀ {rs : Rs} {r : Rc}, r ∈ cmR rs → r ∈ rs
  | [], r, h => h
  | x :: t, r, h => by
    rw [cmR] at h
    split at h
    · exact List.mem_cons_of_mem _ (cm_mem h)
    · rcases List.mem_cons.1 h with h | h
      · rw [h]; simp
      · exact List.mem_cons_of_mem _ (cm_mem h)
theorem cmR_len : ∀ rs : Rs, (cmR rs).length ≤ rs.length
  | [] => Nat.le_refl _
  | x :: t => by
    have := cmR_len t
    rw [cmR]; split <;> simp <;> omega
theorem cm_ok {rs : Rs} (h : loOk rs = true) : loOk (cmR rs) = true := by
  obtain ⟨h1, h2⟩ := lo_parts h
  exact lo_of (by have := cmR_len rs; omega) (fun r hr => h2 r (cm_mem hr))
theorem cm_out : ∀ {rs : Rs} {n : Tx}, (∃ r ∈ rs, r.1 = n) → ∃ r ∈ cmR rs, r.1 = n
  | [], n, ⟨r, hr, _⟩ => by cases hr
  | x :: t, n, ⟨r, hr, e⟩ => by
    rw [cmR]
    by_cases ha : (t.any fun y => y.1 == x.1) = true
    · rw [if_pos ha]
      apply cm_out
      rcases List.mem_cons.1 hr with h | h
      · subst h
        obtain ⟨y, hy, hyx⟩ := List.any_eq_true.1 ha
        exact ⟨y, hy, by rw [eq_of_beq hyx, e]⟩
      · exact ⟨r, h, e⟩
    · rw [if_neg ha]
      rcases List.mem_cons.1 hr with h | h
      · exact ⟨x, by simp, by rw [← h]; exact e⟩
      · obtain ⟨y, hy, hye⟩ := cm_out ⟨r, h, e⟩
        exact ⟨y, by simp [hy], hye⟩
/-- Of each output one record. -/
theorem cm_one : ∀ rs : Rs, (cmR rs).Pairwise fun a b => a.1 ≠ b.1
  | [] => List.Pairwise.nil
  | x :: t => by
    rw [cmR]
    by_cases ha : (t.any fun y => y.1 == x.1) = true
    · rw [if_pos ha]; exact cm_one t
    · rw [if_neg ha]
      refine List.Pairwise.cons (fun y hy e => ha ?_) (cm_one t)
      exact List.any_eq_true.2 ⟨y, cm_mem hy, by rw [e]; simp⟩
theorem cm_same : ∀ {rs : Rs}, (rs.Pairwise fun a b => a.1 ≠ b.1) → cmR rs = rs
  | [], _ => rfl
  | x :: t, h => by
    have h1 := List.pairwise_cons.1 h
    rw [cmR, if_neg, cm_same h1.2]
    intro ha
    obtain ⟨y, hy, e⟩ := List.any_eq_true.1 ha
    exact h1.1 y hy (eq_of_beq e).symm
theorem cm_again (rs : Rs) : cmR (cmR rs) = cmR rs := cm_same (cm_one rs)
theorem find_app {α : Type} (p : α → Bool) : ∀ (a b : List α), (a ++ b).find? p = (a.find? p).or (b.find? p)
  | [], b => rfl
  | x :: a, b => by
    rw [List.cons_append, List.find?_cons, List.find?_cons]
    cases p x
    · exact find_app p a b
    · rfl
theorem cm_last : ∀ (rs : Rs) (n : Tx), (cmR rs).reverse.find? (fun r => r.1 == n) = rs.reverse.find? (fun r => r.1 == n)
  | [], n => rfl
  | x :: t, n => by
    rw [cmR]
    have ih := cm_last t n
    by_cases ha : (t.any fun y => y.1 == x.1) = true
    · rw [if_pos ha, ih, List.reverse_cons, find_app]
      cases e : t.reverse.find? (fun r => r.1 == n) with
      | some y => rfl
      | none =>
        obtain ⟨y, hy, hyx⟩ := List.any_eq_true.1 ha
        have h1 := List.find?_eq_none.1 e y (by simpa using hy)
        have hx : (x.1 == n) = false := by
          rw [eq_of_beq hyx] at h1; simpa using h1
        simp [hx]
    · rw [if_neg ha, List.reverse_cons, List.reverse_cons, find_app, find_app, ih]
theorem la_cm {rs : Rs} (h : loOk rs = true) (n : Tx) : laR (cmR rs) n = laR rs n := by
  unfold laR
  rw [if_pos h, if_pos (cm_ok h)]
  exact cm_last rs n
theorem la_self {rs : Rs} (h : loOk rs = true) {r : Rc} (hr : r ∈ cmR rs) : laR rs r.1 = some r := by
  rw [← la_cm h]
  unfold laR
  rw [if_pos (cm_ok h)]
  have hone := cm_one rs
  generalize cmR rs = qs at hr hone
  induction qs with
  | nil => cases hr
  | cons x t ih =>
    have h1 := List.pairwise_cons.1 hone
    rw [List.reverse_cons, find_app]
    rcases List.mem_cons.1 hr with e | e
    · subst e
      have : t.reverse.find? (fun y => y.1 == r.1) = none := List.find?_eq_none.2 (fun y hy => by
        have := h1.1 y (by simpa using hy)
        simp; exact fun e => this e.symm)
      rw [this]; simp
    · rw [ih e h1.2]; rfl

/-! the document's own reading of a log compacted: place by place -/
def lasB (rs : Rs) (k : Nat) (r : Rc) : Bool := !(rs.drop (k + 1)).any fun x => x.1 == r.1
theorem cm_at : ∀ (rs : Rs) (k : Nat) (r : Rc), rs[k]? = some r → cmR (rs.drop k) = (if lasB rs k r then [r] else []) ++ cmR (rs.drop (k + 1)) := by
  intro rs k r h
  obtain ⟨hlt, he⟩ := List.getElem?_eq_some_iff.1 h
  rw [List.drop_eq_getElem_cons hlt, cmR, he]
  unfold lasB
  cases ((rs.drop (k + 1)).any fun x => x.1 == r.1) <;> simp

end Go.Proofs.YtgbegdgacjodcaaDoor
