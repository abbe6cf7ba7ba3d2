/- Several texts of mine in one: MfClean, MfState. -/
import Derived.Test.YtpddckgkaopnlaaGreatDoorBnMfBind
import Derived.Test.YtpddckgkaopnlaaGreatDoorSc1
import Derived.Test.YtpddckgkaopnlaaGreatDoorWk1
/- What package manifest's clean does to a row of texts that the call owns; the conditions: the lengths. -/
namespace Go.Proofs.YtpddckgkaopnlaaGreatDoor
open Go.RowKit

theorem clL_len : ∀ {xs ys : Ws}, clL xs = some ys → ys.length = xs.length
  | [], ys, h => by simp [clL] at h; subst h; rfl
  | x :: r, ys, h => by
    unfold clL at h
    cases hx : cleanL x with
    | none => rw [hx] at h; cases h
    | some a =>
      cases hr : clL r with
      | none => rw [hx, hr] at h; cases h
      | some b => rw [hx, hr] at h; simp at h; subst h; simp [clL_len hr]
theorem clL_snoc {x : Tx} : ∀ {xs ys : Ws}, clL xs = some ys → clL (xs ++ [x]) = (cleanL x).map fun a => ys ++ [a]
  | [], ys, h => by simp [clL] at h; subst h; simp [clL]; cases cleanL x <;> rfl
  | y :: r, ys, h => by
    unfold clL at h
    cases hy : cleanL y with
    | none => rw [hy] at h; cases h
    | some a =>
      cases hr : clL r with
      | none => rw [hy, hr] at h; cases h
      | some b =>
        rw [hy, hr] at h; simp at h; subst h
        rw [List.cons_append, clL, hy, clL_snoc hr]
        cases cleanL x <;> rfl
theorem clL_app_none {xs : Ws} (h : clL xs = none) (ys : Ws) : clL (xs ++ ys) = none := by
  induction xs with
  | nil => simp [clL] at h
  | cons x r ih =>
    rw [List.cons_append, clL]
    unfold clL at h
    cases hx : cleanL x with
    | none => rfl
    | some a =>
      cases hr : clL r with
      | none => rw [ih hr]
      | some b => rw [hx, hr] at h; cases h

/-- The state of clean's walk: zs is what the row holds. -/
def ClS (xs : Ws) (k : Nat) (zs : Ws) : Prop := ∃ ys, clL (xs.take k) = some ys ∧ zs = ys ++ xs.drop k
theorem ClS.start (xs : Ws) : ClS xs 0 xs := ⟨[], rfl, rfl⟩
theorem ClS.len {xs zs : Ws} {k : Nat} (h : ClS xs k zs) : zs.length = xs.length := by
  obtain ⟨ys, h1, rfl⟩ := h
  rw [List.length_append, clL_len h1, List.length_take, List.length_drop]; omega
theorem ClS.at {xs zs : Ws} {k : Nat} {x : Tx} (h : ClS xs k zs) (hx : xs[k]? = some x) : zs[k]? = some x := by
  obtain ⟨ys, h1, rfl⟩ := h
  have hk : k < xs.length := (List.getElem?_eq_some_iff.1 hx).1
  have hl := clL_len h1
  rw [List.length_take] at hl
  rw [List.getElem?_append_right (by omega), List.getElem?_drop, show k + (k - ys.length) = k by omega]; exact hx
theorem ClS.next {xs zs : Ws} {k : Nat} {x a : Tx} (h : ClS xs k zs) (hx : xs[k]? = some x) (ha : cleanL x = some a) : ClS xs (k + 1) (zs.set k a) := by
  obtain ⟨ys, h1, rfl⟩ := h
  have hk : k < xs.length := (List.getElem?_eq_some_iff.1 hx).1
  have hl := clL_len h1
  rw [List.length_take] at hl
  refine ⟨ys ++ [a], ?_, ?_⟩
  · rw [List.take_add_one, hx]; show clL (xs.take k ++ [x]) = _; rw [clL_snoc h1, ha]; rfl
  · have hyk : ys.length = k := by omega
    have hd : xs.drop k = x :: xs.drop (k + 1) := by
      rw [List.drop_eq_getElem_cons hk]; congr 1
      exact (List.getElem?_eq_some_iff.1 hx).2
    rw [hd, List.set_append_right _ _ (by omega), hyk, Nat.sub_self, List.set_cons_zero]; simp
theorem ClS.bad {xs zs : Ws} {k : Nat} {x : Tx} (h : ClS xs k zs) (hx : xs[k]? = some x) (ha : cleanL x = none) : clL xs = none := by
  obtain ⟨ys, h1, rfl⟩ := h
  have : clL (xs.take (k + 1)) = none := by
    rw [List.take_add_one, hx]; show clL (xs.take k ++ [x]) = _; rw [clL_snoc h1, ha]; rfl
  have h2 := clL_app_none this (xs.drop (k + 1))
  rwa [List.take_append_drop] at h2
theorem ClS.done {xs zs : Ws} {k : Nat} (h : ClS xs k zs) (hk : xs.length ≤ k) : clL xs = some zs := by
  obtain ⟨ys, h1, rfl⟩ := h
  rw [List.take_of_length_le hk] at h1
  rw [List.drop_eq_nil_of_le hk, List.append_nil]; exact h1

/-- Nothing but the row's own block, and what is new, has turned. -/
structure Own2 (v : Value) (w w' : World) : Prop where
  os : w'.os = w.os
  tape : w'.tape = w.tape
  output : w'.output = w.output
  size : w.heap.size ≤ w'.heap.size
  block : ∀ k, k < w.heap.size → v.ownBlock ≠ some k → w'.heap[k]? = w.heap[k]?
theorem Own2.refl (v : Value) (w : World) : Own2 v w w := ⟨rfl, rfl, rfl, Nat.le_refl _, fun _ _ _ => rfl⟩
theorem Own2.q {v : Value} {a b c : World} (h : Own2 v a b) (k : Q b c) : Own2 v a c :=
  ⟨k.os.trans h.os, k.tape.trans h.tape, k.output.trans h.output, Nat.le_trans h.size k.size, fun i hi hn => (k.block i (Nat.lt_of_lt_of_le hi h.size)).trans (h.block i hi hn)⟩
theorem Own2.set {v : Value} {a w : World} (h : Own2 v a w) {g o : Nat} (hg : v.ownBlock = some g) (u : Value) : Own2 v a (w.setCell ⟨g, o, none⟩ u) :=
  ⟨h.os, h.tape, h.output, by rw [show (w.setCell ⟨g, o, none⟩ u).heap.size = w.heap.size by simp [World.setCell]]; exact h.size,
   fun k hk hn => (Below.heap_setCell _ _ _ _ (by rintro rfl; exact hn hg)).trans (h.block k hk hn)⟩
theorem Own2.below {v : Value} {w w' : World} {B e size n : Nat} {xs : List Value} (h : Own2 v w w') (hB : B ≤ w.heap.size) (ho : w.ownsRow B e size v n xs) : Below B w w' :=
  ⟨h.os, h.tape, h.output, h.size, fun k hk => h.block k (by omega) (fun e => by have := (ho.lt k e).1; omega)⟩
/-- Another row stays, where it lies in another block. -/
theorem Own2.own {v : Value} {w w' : World} (h : Own2 v w w') {B e size n : Nat} {u : Value} {xs : List Value} (hu : w.ownsRow B e size u n xs) (hf : u.ownBlock = none ∨ u.ownBlock ≠ v.ownBlock) : w'.ownsRow B e size u n xs := by
  have hl := fun k hk => hu.lt k hk
  obtain ⟨h1, h2⟩ := hu
  rcases h2 with hn | ⟨g, cap, cur, e1, hg, hgg, rest⟩
  · exact ⟨h1, Or.inl hn⟩
  · have hg2 : u.ownBlock = some g := by rw [e1]; rfl
    refine ⟨h1, Or.inr ⟨g, cap, cur, e1, hg, (h.block g (hl g hg2).2 (fun e => ?_)).trans hgg, rest⟩⟩
    rcases hf with hf | hf
    · rw [hg2] at hf; cases hf
    · exact hf (hg2.trans e.symm)

theorem cerr_some {l a : Tx} (h : cleanL l = some a) : cstr l = a ∧ cerr l = 0 := by unfold cstr cerr; rw [h]; exact ⟨rfl, rfl⟩
theorem cerr_none {l : Tx} (h : cleanL l = none) : cstr l = [] ∧ cerr l = 200 := by unfold cstr cerr; rw [h]; exact ⟨rfl, rfl⟩

set_option maxHeartbeats 4000000 in
theorem mclean_any (ao : Option Addr) (cap B : Nat) (xs : Ws) (w : World) (hown : OwnT w B ao cap xs) (hn : xs.length ≤ 4096) (hm : ∀ p ∈ xs, p.length ≤ 4096) :
    Calls Tryz.prog 84 #[.slice ao xs.length cap] w fun e w' => e = .returned (.bool (clL xs).isSome) ∧ (∀ ys, clL xs = some ys → OwnT w' B ao cap ys) ∧ Own2 (.slice ao xs.length cap) w w' := by
  go_enter Tryz.func84, Tryz.ntmps84
  go_wp2_with fail
  go_loopw [9] (fun i wr => ∃ (k : Nat) (zs : Ws), k ≤ xs.length ∧ i = .int .i64 k ∧ Hid (ClS xs k zs) ∧ Hid (OwnT wr B ao cap zs) ∧ Hid (Own2 (.slice ao xs.length cap) w wr)) (fun i _ => xs.length - (intOf i).toNat)
  case atStart => exact ⟨0, xs, Nat.zero_le _, rfl, ClS.start xs, hown, Own2.refl _ _⟩
  case round =>
    obtain ⟨k, zs, hk, rfl, HL, HO, hq⟩ := hrel
    have hzl := HL.out.len
    have HO' := HO.out
    unfold OwnT at HO'
    by_cases hlt : k < xs.length
    · obtain ⟨p, hp⟩ : ∃ p, xs[k]? = some p := ⟨xs[k], List.getElem?_eq_getElem hlt⟩
      have hpl : p.length ≤ 4096 := hm p (List.mem_of_getElem? hp)
      have hzp : zs[k]? = some p := HL.out.at hp
      obtain ⟨g, rfl, hgB, hg, hf, hc⟩ := own_some tv_len (by decide) (by omega) HO'
      have c2 : wr.cell? ⟨g, k, none⟩ = some (.string ⟨p.toArray⟩) := by simpa using hc k 0 p _ hzp (by decide) rfl
      have hps : (⟨p.toArray⟩ : ByteArray).size ≤ maxLen := by rw [← bl_size]; show p.length ≤ maxLen; unfold maxLen; omega
      have hC := hide (clean_any ⟨p.toArray⟩ wr hps)
      rw [show bl ⟨p.toArray⟩ = p from rfl] at hC
      cases ha : cleanL p with
      | none =>
        rw [(cerr_none ha).1, (cerr_none ha).2] at hC
        have HB := hide (HL.out.bad hp ha)
        clear hc hf HL HO HO' hp hzp hzl hm hown ha
        generalize (⟨p.toArray⟩ : ByteArray) = t at *
        go_wp2_with fail
        refine (unhide hC).mono ?_
        rintro e w2 ⟨rfl, q2⟩
        go_wp2_with fail
        go_ret
        exact ⟨by rw [unhide HB]; rfl, (fun ys hy => by rw [unhide HB] at hy; cases hy), hq.out.q q2⟩
      | some a =>
        rw [(cerr_some ha).1, (cerr_some ha).2] at hC
        have HL2 := hide (HL.out.next hp ha)
        have HX := hide (fun (w3 : World) (h3 : OwnT w3 B (some ⟨g, 0, none⟩) cap zs) => own_set tv_len h3 k 0 p a (.string ⟨a.toArray⟩) hzp (by decide) rfl)
        rw [Nat.mul_one, Nat.add_zero] at HX
        have hfr := hf k
        clear hc hf HL HO' hp hzp hm hown ha
        have HZ := hide hzl
        clear hzl
        generalize (⟨p.toArray⟩ : ByteArray) = t at *
        go_wp2_with fail
        refine (unhide hC).mono ?_
        rintro e w2 ⟨rfl, q2⟩
        have hfr2 : w2.frozen? ⟨g, k, none⟩ = false := (q2.frozen (p := ⟨g, k, none⟩) hg).trans hfr
        have c3 : w2.cell? ⟨g, k, none⟩ = some (.string t) := (q2.cell (p := ⟨g, k, none⟩) hg).trans c2
        have HO2 : Hid (OwnT (w2.setCell ⟨g, k, none⟩ (.string ⟨a.toArray⟩)) B (some ⟨g, 0, none⟩) cap (zs.set k a)) := by
          show World.ownsRow _ _ _ _ (.slice _ (zs.set _ _).length _) (zs.set _ _).length _
          rw [List.length_set]; exact unhide HX w2 (own_q HO.out q2)
        have HQ2 : Hid (Own2 (.slice (some ⟨g, 0, none⟩) xs.length cap) w (w2.setCell ⟨g, k, none⟩ (.string ⟨a.toArray⟩))) := (hq.out.q q2).set (by rfl) _
        clear HX HO hq q2
        generalize (⟨a.toArray⟩ : ByteArray) = t2 at *
        go_wp2_with fail
        go_roundw
        case rel => exact ⟨k + 1, zs.set k a, by omega, by go_num, HL2, HO2, HQ2⟩
        case measure => simp [intOf]; omega
    · have HD := hide (HL.out.done (by omega))
      clear HO' hzl
      go_wp2_with fail
      go_ret
      exact ⟨by rw [unhide HD]; rfl, (fun ys hy => by rw [unhide HD] at hy; cases hy; exact HO.out), hq.out⟩

end Go.Proofs.YtpddckgkaopnlaaGreatDoor

/- How what package manifest has read lies in memory: the reader's block, its rows, the line under way; what stays of it when other blocks are written; no conditions. -/
namespace Go.Proofs.YtpddckgkaopnlaaGreatDoor
open Go.RowKit

theorem Fr.own2 {v : Value} {w w' : World} (h : Own2 v w w') : Fr (fun k => v.ownBlock = some k) w w' := ⟨h.os, h.tape, h.output, h.size, fun k hk hn => h.block k hk hn⟩

/-- Where the rows lie. -/
structure Ad where
  es : List EdA
  eo : Option Addr
  ec : Nat
  po : Option Addr
  pc : Nat
  dd : Option Addr
  dc : Nat
  ro : Option Addr
  rc : Nat
  oo : Option Addr
  oc : Nat

def Ad.vE (A : Ad) : Value := .slice A.eo A.es.length A.ec
def Ad.vP (A : Ad) (s : Sm) : Value := .slice A.po s.ps.length A.pc
def Ad.vD (A : Ad) (s : Sm) : Value := .slice A.dd s.ds.length A.dc
def Ad.vR (A : Ad) (s : Sm) : Value := .slice A.ro s.rs.length A.rc
def Ad.vO (A : Ad) (s : Sm) : Value := .slice A.oo s.bs.length A.oc

def adB (A : Ad) (s : Sm) : List Nat := (A.vD s).ownBlock.toList ++ A.es.flatMap edB

/-- The rows. -/
structure Ro (B : Nat) (w : World) (s : Sm) (A : Ad) : Prop where
  e : w.ownsRow B 65 7 A.vE A.es.length (lay ev A.es)
  em : A.es.map Prod.fst = s.es
  p : w.ownsRow B 73 2 (A.vP s) s.ps.length (lay plv s.ps)
  d : w.ownsRow B 9 1 (A.vD s) s.ds.length (lay tv s.ds)
  r : w.ownsRow B 109 4 (A.vR s) s.rs.length (lay rv s.rs)
  o : w.ownsRow B 169 2 (A.vO s) s.bs.length (lay dv s.bs)
  q : ∀ x ∈ A.es, EdR w B x
  nd : (adB A s).Nodup

theorem Ro.fr {P : Nat → Prop} {w w' : World} {B : Nat} {s : Sm} {A : Ad} (h : Ro B w s A) (hf : Fr P w w') (he : ∀ k, A.vE.ownBlock = some k → ¬ P k) (hp : ∀ k, (A.vP s).ownBlock = some k → ¬ P k)
    (hr : ∀ k, (A.vR s).ownBlock = some k → ¬ P k) (ho : ∀ k, (A.vO s).ownBlock = some k → ¬ P k) (hd : ∀ k ∈ adB A s, ¬ P k) : Ro B w' s A :=
  ⟨own_fr h.e hf he, h.em, own_fr h.p hf hp, own_fr h.d hf (fun k hk => hd k (List.mem_append_left _ (by rw [hk]; simp))), own_fr h.r hf hr, own_fr h.o hf ho,
   fun x hx => (h.q x hx).fr hf (fun k hk => hd k (List.mem_append_right _ (List.mem_flatMap.2 ⟨x, hx, hk⟩))), h.nd⟩
theorem Ro.mem {w : World} {B : Nat} {s : Sm} {A : Ad} (h : Ro B w s A) : ∀ k ∈ adB A s, B ≤ k ∧ k < w.heap.size := by
  intro k hk
  rcases List.mem_append.1 hk with h1 | h1
  · exact h.d.lt k (by simpa [Option.mem_toList] using h1)
  · obtain ⟨x, hx, hk⟩ := List.mem_flatMap.1 h1
    exact (h.q x hx).lt k hk
theorem Ro.memT {w : World} {B g : Nat} {s : Sm} {A : Ad} (h : Ro B w s A) {cs : Array Value} {t : TypeId} (hb : Blk w g cs t) (ht : t ≠ 9) : ∀ k ∈ adB A s, k ≠ g := by
  intro k hk
  rcases List.mem_append.1 hk with h1 | h1
  · exact hb.row h.d ht k (by simpa [Option.mem_toList] using h1)
  · obtain ⟨x, hx, hk⟩ := List.mem_flatMap.1 h1
    exact (h.q x hx).blk hb ht k hk
/-- A block of none of the rows' types is written. -/
theorem Ro.blk {P : Nat → Prop} {w w' : World} {B g : Nat} {s : Sm} {A : Ad} (h : Ro B w s A) (hf : Fr P w w') {cs : Array Value} {t : TypeId} (hb : Blk w g cs t) (hP : ∀ k, P k → k = g)
    (h1 : t ≠ 9) (h2 : t ≠ 65 ∨ ∀ k, A.vE.ownBlock = some k → k ≠ g) (h3 : t ≠ 73 ∨ ∀ k, (A.vP s).ownBlock = some k → k ≠ g) (h4 : t ≠ 109 ∨ ∀ k, (A.vR s).ownBlock = some k → k ≠ g) (h5 : t ≠ 169) : Ro B w' s A :=
  h.fr hf (fun k hk hp => (h2.elim (fun h2 => hb.row h.e h2 k hk) (fun h2 => h2 k hk)) (hP k hp)) (fun k hk hp => (h3.elim (fun h3 => hb.row h.p h3 k hk) (fun h3 => h3 k hk)) (hP k hp))
    (fun k hk hp => (h4.elim (fun h4 => hb.row h.r h4 k hk) (fun h4 => h4 k hk)) (hP k hp)) (fun k hk hp => hb.row h.o h5 k hk (hP k hp)) (fun k hk hp => h.memT hb h1 k hk (hP k hp))
theorem Ro.qq {w w' : World} {B : Nat} {s : Sm} {A : Ad} (h : Ro B w s A) (hq : Q w w') : Ro B w' s A :=
  h.fr (P := fun _ => False) (Fr.of_q hq) (fun _ _ x => x) (fun _ _ x => x) (fun _ _ x => x) (fun _ _ x => x) (fun _ _ x => x)

/-- The reader's cells. -/
def rdC (A : Ad) (s : Sm) (vT vV : Value) : Array Value := #[A.vE, A.vP s, A.vD s, A.vR s, A.vO s, vT, vV]

structure Rd (B : Nat) (w : World) (R : Nat) (s : Sm) (A : Ad) (vT vV : Value) : Prop where
  blk : Blk w R (rdC A s vT vV) 49
  ro : Ro B w s A
  lo : B ≤ R

theorem Rd.q {B : Nat} {w w' : World} {R : Nat} {s : Sm} {A : Ad} {vT vV : Value} (h : Rd B w R s A vT vV) (hq : Q w w') : Rd B w' R s A vT vV := ⟨h.blk.q hq, h.ro.qq hq, h.lo⟩

/-- The line under way. -/
def UnS (B : Nat) (w : World) (R : Nat) (s : Sm) (A : Ad) (vT vV : Value) : Prop := match s.un with
  | none => vT = .func (.func 28) #[] #[] ∧ vV = .func (.func 29) #[] #[]
  | some (.inl r) => ∃ M RB, vT = .func (.func 65) #[] #[.pointer (some ⟨M, 0, none⟩), .pointer (some ⟨RB, 0, none⟩)] ∧ vV = .func (.func 67) #[] #[.pointer (some ⟨M, 0, none⟩), .pointer (some ⟨RB, 0, none⟩)] ∧
      Blk w M (rv r).toArray 109 ∧ Blk w RB #[.pointer (some ⟨R, 0, none⟩)] 40 ∧ B ≤ M ∧ ∀ k, (A.vR s).ownBlock = some k → k ≠ M
  | some (.inr (.inl p)) => ∃ M RB, vT = .func (.func 76) #[] #[.pointer (some ⟨M, 0, none⟩)] ∧ vV = .func (.func 78) #[] #[.pointer (some ⟨M, 0, none⟩), .pointer (some ⟨RB, 0, none⟩)] ∧
      Blk w M (plv p).toArray 73 ∧ Blk w RB #[.pointer (some ⟨R, 0, none⟩)] 40 ∧ B ≤ M ∧ ∀ k, (A.vP s).ownBlock = some k → k ≠ M
  | some (.inr (.inr x)) => ∃ G BY O RB y oo oc, vT = .func (.func 80) #[] #[.pointer (some ⟨RB, 0, none⟩), .pointer (some ⟨O, 0, none⟩)] ∧ vV = .func (.func 82) #[] #[.pointer (some ⟨RB, 0, none⟩), .pointer (some ⟨G, 0, none⟩), .pointer (some ⟨BY, 0, none⟩), .pointer (some ⟨O, 0, none⟩)] ∧
      y.1 = x.1 ∧ Blk w G (ev y).toArray 65 ∧ Blk w BY (rv x.2.1).toArray 109 ∧ Blk w O #[.slice oo x.2.2.length oc] 47 ∧ Blk w RB #[.pointer (some ⟨R, 0, none⟩)] 40 ∧
      OwnD w B oo oc x.2.2 ∧ EdR w B y ∧ (adB A s ++ edB y).Nodup ∧ B ≤ G ∧ B ≤ O ∧ ∀ k, A.vE.ownBlock = some k → k ≠ G

end Go.Proofs.YtpddckgkaopnlaaGreatDoor
