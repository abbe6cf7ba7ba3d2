/- Several texts of mine in one: RpState, MfSpoil. -/
import Derived.Test.YtpddckgkaopnlaaGreatDoorBnMfOk
import Derived.Test.YtpddckgkaopnlaaGreatDoorRpSmall
import Derived.Test.YtpddckgkaopnlaaGreatDoorPk1
import Derived.Test.YtpddckgkaopnlaaGreatDoorMfParse
import Derived.Test.YtpddckgkaopnlaaGreatDoorWk1
/- The document's own parser under way, in memory; no conditions. -/
namespace Go.Proofs.YtpddckgkaopnlaaGreatDoor
open Go.RowKit

theorem own_ty {P : Nat → Prop} {w w' : World} {B e size n : Nat} {v : Value} {xs : List Value} {t : TypeId} (h : w.ownsRow B e size v n xs) (hf : Fr P w w') (hP : ∀ k, P k → ∃ cs, Blk w k cs t) (hne : t ≠ e) : w'.ownsRow B e size v n xs :=
  own_fr h hf (fun k hk hp => by obtain ⟨cs, hb⟩ := hP k hp; exact hb.row h hne k hk rfl)
theorem own_blk {w : World} {B e size n : Nat} {v : Value} {xs : List Value} (h : w.ownsRow B e size v n xs) : ∀ k, v.ownBlock = some k → ∃ cs, Blk w k cs e := by
  intro k hk
  rcases h.2 with ⟨rfl, _⟩ | ⟨g', cap, cur, rfl, hb, hg, _⟩
  · cases hk
  · cases hk
    exact ⟨_, hg⟩
theorem EdR.ty {P : Nat → Prop} {w w' : World} {B : Nat} {x : EdA} {t : TypeId} (h : EdR w B x) (hf : Fr P w w') (hP : ∀ k, P k → ∃ cs, Blk w k cs t) (hne : t ≠ 9) : EdR w' B x :=
  h.fr hf (fun k hk hp => by obtain ⟨cs, hb⟩ := hP k hp; exact h.blk hb hne k hk rfl)

/-- A slice, laid out. -/
abbrev Sl := Option Addr × Nat × Nat
/-- A rule's cells; the last: what was seen. -/
def rrv (x : Rl × Sl) : List Value := [.string ⟨x.1.1.toArray⟩, .string ⟨x.1.2.1.toArray⟩, .bool x.1.2.2.1, .string ⟨x.1.2.2.2.toArray⟩, .slice x.2.1 x.2.2.1 x.2.2.2]
theorem rrv_len (x : Rl × Sl) : (rrv x).length = 5 := rfl
abbrev RowRR (w : World) (ao : Option Addr) (rs : List (Rl × Sl)) : Prop := RowG rrv 5 w ao rs

structure RpA where
  es : List EdA
  eo : Option Addr
  ec : Nat
  po : Option Addr
  pc : Nat
  dd : Option Addr
  dc : Nat
  rs : List (Rl × Sl)
  ro : Option Addr
  rc : Nat
  oo : Option Addr
  oc : Nat

/-- Its rows. -/
structure RpR (B : Nat) (w : World) (s : Sm) (ps : List Pl) (A : RpA) : Prop where
  e : w.ownsRow B 65 7 (.slice A.eo A.es.length A.ec) A.es.length (lay ev A.es)
  em : A.es.map Prod.fst = s.es
  p : OwnPl w B A.po A.pc ps
  d : OwnT w B A.dd A.dc s.ds
  r : w.ownsRow B 92 5 (.slice A.ro A.rs.length A.rc) A.rs.length (lay rrv A.rs)
  o : OwnD w B A.oo A.oc s.bs
  q : ∀ x ∈ A.es, EdR w B x
  nd : ∀ x ∈ A.es, ∀ k ∈ edB x, (Value.slice A.dd s.ds.length A.dc).ownBlock ≠ some k

theorem RpR.ty {P : Nat → Prop} {w w' : World} {B : Nat} {s : Sm} {ps : List Pl} {A : RpA} {t : TypeId} (h : RpR B w s ps A) (hf : Fr P w w') (hP : ∀ k, P k → ∃ cs, Blk w k cs t) (h1 : t ≠ 65) (h2 : t ≠ 73) (h3 : t ≠ 9) (h4 : t ≠ 92) (h5 : t ≠ 169) : RpR B w' s ps A :=
  ⟨own_ty h.e hf hP h1, h.em, own_ty h.p hf hP h2, own_ty h.d hf hP h3, own_ty h.r hf hP h4, own_ty h.o hf hP h5, fun x hx => (h.q x hx).ty hf hP h3, h.nd⟩
theorem RpR.q' {w w' : World} {B : Nat} {s : Sm} {ps : List Pl} {A : RpA} (h : RpR B w s ps A) (hq : Q w w') : RpR B w' s ps A :=
  h.ty (P := fun _ => False) (t := 0) (Fr.of_q hq) (fun _ hk => hk.elim) (by decide) (by decide) (by decide) (by decide) (by decide)
theorem RpR.rowR {w : World} {B : Nat} {s : Sm} {ps : List Pl} {A : RpA} (h : RpR B w s ps A) : RowRR w A.ro A.rs := RowG.own rrv_len (by decide) h.r

/-- The parser's block. -/
def rpC (A : RpA) (s : Sm) (ps : List Pl) (op : Int) (b0 b1 b2 b3 b4 vo : Value) : Array Value :=
  #[.slice A.eo A.es.length A.ec, .slice A.po ps.length A.pc, .slice A.dd s.ds.length A.dc, .slice A.ro A.rs.length A.rc, .slice A.oo s.bs.length A.oc, .int .i64 op, b0, b1, b2, b3, b4, vo]

structure Rp (B : Nat) (w : World) (P : Nat) (s : Sm) (ps : List Pl) (A : RpA) (op : Int) (b0 b1 b2 b3 b4 vo : Value) : Prop where
  blk : Blk w P (rpC A s ps op b0 b1 b2 b3 b4 vo) 60
  lo : B ≤ P
  ro : RpR B w s ps A
theorem Rp.q {B : Nat} {w w' : World} {P : Nat} {s : Sm} {ps : List Pl} {A : RpA} {op : Int} {b0 b1 b2 b3 b4 vo : Value} (h : Rp B w P s ps A op b0 b1 b2 b3 b4 vo) (hq : Q w w') : Rp B w' P s ps A op b0 b1 b2 b3 b4 vo := ⟨h.blk.q hq, h.lo, h.ro.q' hq⟩

/-- Which of a rule's binds were seen. -/
def SeenOk (seen : Ws) (r : Rl) : Prop := (kCommand ∈ seen ↔ r.2.1 ≠ []) ∧ (kDeps ∈ seen ↔ r.2.2.1 = true) ∧ (kPool ∈ seen ↔ r.2.2.2 ≠ []) ∧ (∀ x ∈ seen, x = kCommand ∨ x = kDeps ∨ x = kPool) ∧ seen.length ≤ 3 ∧ seen.Nodup

/-- What is under way. -/
def UnP (B : Nat) (w : World) (s : Sm) (ps : List Pl) (A : RpA) (op : Int) (b0 b1 b2 b3 b4 vo : Value) : Prop := match s.un with
  | none => op = 0 ∧ ps = s.ps ∧ A.rs.map Prod.fst = s.rs
  | some (.inl r) => op = 1 ∧ ps = s.ps ∧ ∃ (R0 : List (Rl × Sl)) (seen : Ws) (so : Option Addr) (sc : Nat), A.rs = R0 ++ [(r, (so, seen.length, sc))] ∧ R0.map Prod.fst = s.rs ∧ OwnT w B so sc seen ∧ SeenOk seen r ∧
      (∀ k, (Value.slice so seen.length sc).ownBlock = some k → (Value.slice A.dd s.ds.length A.dc).ownBlock ≠ some k ∧ ∀ x ∈ A.es, k ∉ edB x)
  | some (.inr (.inl p)) => op = 2 ∧ ps = s.ps ++ [p] ∧ A.rs.map Prod.fst = s.rs
  | some (.inr (.inr x)) => op = 3 ∧ ps = s.ps ∧ A.rs.map Prod.fst = s.rs ∧ ∃ (y : EdA) (no : Option Addr) (nc : Nat), y.1 = x.1 ∧ b0 = y.v1 ∧ b1 = .string ⟨x.2.1.1.toArray⟩ ∧ b2 = y.v2 ∧ b3 = y.v3 ∧ b4 = y.v4 ∧ EdR w B y ∧ (∀ k ∈ edB y, (Value.slice A.dd s.ds.length A.dc).ownBlock ≠ some k) ∧
      vo = .slice no x.2.2.length nc ∧ OwnD w B no nc x.2.2 ∧ rlAt s.rs x.2.1.1 = some x.2.1 ∧ x.1.2.2.2.2 = ([], x.2.1.2.2.1, x.2.1.2.2.2)

/-- The parser under way. -/
def RS (B : Nat) (w : World) (P : Nat) (s : Sm) : Prop := SmOk s ∧ SmMay s ∧ ∃ ps A op b0 b1 b2 b3 b4 vo, Rp B w P s ps A op b0 b1 b2 b3 b4 vo ∧ UnP B w s ps A op b0 b1 b2 b3 b4 vo

structure Rp.Cells (w : World) (P : Nat) (s : Sm) (ps : List Pl) (A : RpA) (op : Int) (b0 b1 b2 b3 b4 vo : Value) : Prop where
  c0 : w.cell? ⟨P, 0, none⟩ = some (.slice A.eo A.es.length A.ec)
  c1 : w.cell? ⟨P, 1, none⟩ = some (.slice A.po ps.length A.pc)
  c2 : w.cell? ⟨P, 2, none⟩ = some (.slice A.dd s.ds.length A.dc)
  c3 : w.cell? ⟨P, 3, none⟩ = some (.slice A.ro A.rs.length A.rc)
  c4 : w.cell? ⟨P, 4, none⟩ = some (.slice A.oo s.bs.length A.oc)
  c5 : w.cell? ⟨P, 5, none⟩ = some (.int .i64 op)
  c6 : w.cell? ⟨P, 6, none⟩ = some b0
  c7 : w.cell? ⟨P, 7, none⟩ = some b1
  c8 : w.cell? ⟨P, 8, none⟩ = some b2
  c9 : w.cell? ⟨P, 9, none⟩ = some b3
  c10 : w.cell? ⟨P, 10, none⟩ = some b4
  c11 : w.cell? ⟨P, 11, none⟩ = some vo
  frz : ∀ i, w.frozen? ⟨P, i, none⟩ = false
theorem Rp.cells {B : Nat} {w : World} {P : Nat} {s : Sm} {ps : List Pl} {A : RpA} {op : Int} {b0 b1 b2 b3 b4 vo : Value} (h : Rp B w P s ps A op b0 b1 b2 b3 b4 vo) : Rp.Cells w P s ps A op b0 b1 b2 b3 b4 vo :=
  ⟨h.blk.cell 0 rfl, h.blk.cell 1 rfl, h.blk.cell 2 rfl, h.blk.cell 3 rfl, h.blk.cell 4 rfl, h.blk.cell 5 rfl, h.blk.cell 6 rfl, h.blk.cell 7 rfl, h.blk.cell 8 rfl, h.blk.cell 9 rfl, h.blk.cell 10 rfl, h.blk.cell 11 rfl, fun i => h.blk.frz i⟩

/-- A cell of the parser's block is written: the rows stay. -/
theorem RpR.set {B : Nat} {w : World} {P : Nat} {s : Sm} {ps : List Pl} {A : RpA} {cs : Array Value} (h : RpR B w s ps A) (hb : Blk w P cs 60) (i : Nat) (v : Value) : RpR B (w.setCell ⟨P, i, none⟩ v) s ps A :=
  h.ty (Fr.set w P i v) (fun k hk => by subst hk; exact ⟨cs, hb⟩) (by decide) (by decide) (by decide) (by decide) (by decide)
theorem own_setP {B : Nat} {w : World} {P e size n : Nat} {v : Value} {xs : List Value} {cs : Array Value} (h : w.ownsRow B e size v n xs) (hb : Blk w P cs 60) (he : 60 ≠ e) (i : Nat) (u : Value) : (w.setCell ⟨P, i, none⟩ u).ownsRow B e size v n xs :=
  own_ty h (Fr.set w P i u) (fun k hk => by subst hk; exact ⟨cs, hb⟩) he
theorem EdR.set {B : Nat} {w : World} {P : Nat} {x : EdA} {cs : Array Value} (h : EdR w B x) (hb : Blk w P cs 60) (i : Nat) (u : Value) : EdR (w.setCell ⟨P, i, none⟩ u) B x :=
  h.ty (Fr.set w P i u) (fun k hk => by subst hk; exact ⟨cs, hb⟩) (by decide)

set_option maxHeartbeats 2000000 in
theorem find_any (P : Nat) (rs : List (Rl × Sl)) (n : ByteArray) (ao : Option Addr) (cap : Nat) (w : World) (hc : w.cell? ⟨P, 3, none⟩ = some (.slice ao rs.length cap)) (hr : RowRR w ao rs) (hs : rs.length ≤ 4096) :
    Calls Tryz.prog 52 #[.pointer (some ⟨P, 0, none⟩), .string n] w
      fun e w' => e = .returned (.int .i64 (ixB (fun r : Rl × Sl => r.1.1 == bl n) rs)) ∧ w' = w := by
  go_enter Tryz.func52, Tryz.ntmps52
  go_wp2_with fail
  go_loop [5] (fun i => ∃ k : Nat, k ≤ rs.length ∧ i = .int .i64 k ∧ Hid ((rs.take k).any (fun r : Rl × Sl => r.1.1 == bl n) = false)) (fun i => rs.length - (intOf i).toNat)
  case atStart => exact ⟨0, Nat.zero_le _, rfl, rfl⟩
  case round =>
    obtain ⟨k, hk, rfl, HA⟩ := hrel
    by_cases hlt : k < rs.length
    · rcases hr with he | ⟨g, o, rfl, hg, hcell⟩
      · rw [he] at hlt; simp at hlt
      obtain ⟨b, hb⟩ : ∃ b, rs[k]? = some b := ⟨rs[k], List.getElem?_eq_getElem hlt⟩
      have c1 : w.cell? ⟨g, o + k * 5, none⟩ = some (.string ⟨b.1.1.toArray⟩) := hcell k 0 b _ hb (by decide) rfl
      have HT := hide (anyt_succ (fun r : Rl × Sl => r.1.1 == bl n) hb)
      have HH := hide (fun h => ixB_at (p := fun r : Rl × Sl => r.1.1 == bl n) hb HA.out h)
      have hx := txt_beq b.1.1 n
      generalize (⟨b.1.1.toArray⟩ : ByteArray) = x1 at c1 hx
      clear hcell hb
      cases hok : (b.1.1 == bl n)
      · have HO : Hid ((rs.take (k + 1)).any (fun r : Rl × Sl => r.1.1 == bl n) = false) := by
          show _ = false
          rw [unhide HT, HA.out]; simpa using hok
        rw [hok] at hx
        clear hok HT HH HA
        go_wp2_with fail
        go_round
        case rel => exact ⟨k + 1, by omega, by go_num, HO⟩
        case measure => simp [intOf]; omega
      · have HO : Hid (ixB (fun r : Rl × Sl => r.1.1 == bl n) rs = k) := unhide HH hok
        rw [hok] at hx
        clear hok HT HH HA
        go_wp2_with fail
        go_ret
        exact ⟨ret_int HO.out.symm, rfl⟩
    · have HO : Hid (ixB (fun r : Rl × Sl => r.1.1 == bl n) rs = -1) := by
        show _ = _
        have := HA.out
        rw [List.take_of_length_le (by omega)] at this
        exact ixB_no this
      clear HA
      go_wp2_with fail
      go_ret
      exact ⟨ret_int HO.out.symm, rfl⟩

end Go.Proofs.YtpddckgkaopnlaaGreatDoor

/- What the statements' own SpoilEdge, SpoilPools, SpoilGraph leave alone; the conditions: the graph lies in memory of its own, its texts are short. -/
namespace Go.Proofs.YtpddckgkaopnlaaGreatDoor
open Go.RowKit

theorem Own1.fr {v : Value} {w w' : World} (h : Own1 v w w') : Fr (fun k => v.ownBlock = some k) w w' := ⟨h.os, h.tape, h.output, h.size, fun k _ hn => h.block k hn⟩
theorem nd_four {o1 o2 o3 o4 : Option Nat} (h : (o1.toList ++ o2.toList ++ o3.toList ++ o4.toList).Nodup) :
    (∀ k, o2 = some k → o1 ≠ some k) ∧ (∀ k, o3 = some k → o1 ≠ some k ∧ o2 ≠ some k) ∧ (∀ k, o4 = some k → o1 ≠ some k ∧ o2 ≠ some k ∧ o3 ≠ some k) := by
  cases o1 <;> cases o2 <;> cases o3 <;> cases o4
  all_goals
    simp at h
    simp
  all_goals omega

/-- Short texts. -/
structure EdT (e : Ed) : Prop where
  a : e.1.length ≤ 4096 ∧ ∀ p ∈ e.1, p.length ≤ 4096
  b : e.2.1.length ≤ 4096 ∧ ∀ p ∈ e.2.1, p.length ≤ 4096
  c : e.2.2.1.length ≤ 4096 ∧ ∀ p ∈ e.2.2.1, p.length ≤ 4096
  d : e.2.2.2.1.length ≤ 4096 ∧ ∀ p ∈ e.2.2.2.1, p.length ≤ 4096
  k : e.2.2.2.2.1.length ≤ 4096

def bxS (w : World) (x : EdA) : World := w.alloc (.cells (ev x).toArray 65)
set_option maxHeartbeats 4000000 in
theorem spoilE_any (x : EdA) (B : Nat) (w : World) (h : EdR w B x) (nd : (edB x).Nodup) (ht : EdT x.1) :
    Calls Tryz.prog 20 #[.agg #[.slice x.2.1.1 x.1.1.length x.2.1.2, .slice x.2.2.1.1 x.1.2.1.length x.2.2.1.2, .slice x.2.2.2.1.1 x.1.2.2.1.length x.2.2.2.1.2, .slice x.2.2.2.2.1 x.1.2.2.2.1.length x.2.2.2.2.2, .string ⟨x.1.2.2.2.2.1.toArray⟩, .bool x.1.2.2.2.2.2.1, .string ⟨x.1.2.2.2.2.2.2.toArray⟩]] w fun e w' => e = .returned (.tuple #[]) ∧ Fr (fun k => k ∈ edB x) w w' := by
  obtain ⟨n2, n3, n4⟩ := nd_four nd
  have b0 : Blk (bxS w x) w.heap.size (ev x).toArray 65 := Blk.new w _ _
  have q0 : Q w (bxS w x) := (Q.refl w).alloc _
  have h0 : EdR (bxS w x) B x := h.fr (P := fun _ => False) (Fr.of_q q0) (fun _ _ h => h)
  have S0 := hide (spoilT_any x.2.1.1 x.2.1.2 B x.1.1 (bxS w x) h0.a ht.a.1 ht.a.2)
  have HH := hide h0
  have HB := hide b0
  have HN2 := hide n2
  have HN3 := hide n3
  have HN4 := hide n4
  have HT := hide ht
  clear h0 b0 n2 n3 n4 nd h ht
  go_enter Tryz.func20, Tryz.ntmps20
  go_wp2_with fail
  change Calls _ _ _ (bxS w x) _
  generalize bxS w x = wb at *
  generalize hX : w.heap.size = X at HB ⊢
  clear hX
  refine (unhide S0).mono ?_
  rintro e w1 ⟨rfl, o1⟩
  have f1 := Own1.fr o1
  have g1 := (unhide HB).fr f1 (fun e => (unhide HB).row (unhide HH).a (by decide) X e rfl)
  have hb1 := own_fr (unhide HH).b f1 (fun k hk e => (unhide HN2) k hk e)
  have hc1 := own_fr (unhide HH).c f1 (fun k hk e => ((unhide HN3) k hk).1 e)
  have hd1 := own_fr (unhide HH).d f1 (fun k hk e => ((unhide HN4) k hk).1 e)
  have S1 := hide (spoilT_any x.2.2.1.1 x.2.2.1.2 B x.1.2.1 w1 hb1 (unhide HT).b.1 (unhide HT).b.2)
  have c1 : w1.cell? ⟨X, 1, none⟩ = some (.slice x.2.2.1.1 x.1.2.1.length x.2.2.1.2) := g1.cell 1 rfl
  have HG1 := hide g1
  have HB1 := hide hb1
  have HC1 := hide hc1
  have HD1 := hide hd1
  clear g1 hb1 hc1 hd1 S0 o1
  go_wp2_with fail
  refine (unhide S1).mono ?_
  rintro e w2 ⟨rfl, o2⟩
  have f2 := Own1.fr o2
  have g2 := (unhide HG1).fr f2 (fun e => (unhide HG1).row (unhide HB1) (by decide) X e rfl)
  have hc2 := own_fr (unhide HC1) f2 (fun k hk e => ((unhide HN3) k hk).2 e)
  have hd2 := own_fr (unhide HD1) f2 (fun k hk e => ((unhide HN4) k hk).2.1 e)
  have S2 := hide (spoilT_any x.2.2.2.1.1 x.2.2.2.1.2 B x.1.2.2.1 w2 hc2 (unhide HT).c.1 (unhide HT).c.2)
  have c2 : w2.cell? ⟨X, 2, none⟩ = some (.slice x.2.2.2.1.1 x.1.2.2.1.length x.2.2.2.1.2) := g2.cell 2 rfl
  have HG2 := hide g2
  have HC2 := hide hc2
  have HD2 := hide hd2
  clear g2 hc2 hd2 S1 o2 c1 HG1 HB1 HC1 HD1
  go_wp2_with fail
  refine (unhide S2).mono ?_
  rintro e w3 ⟨rfl, o3⟩
  have f3 := Own1.fr o3
  have g3 := (unhide HG2).fr f3 (fun e => (unhide HG2).row (unhide HC2) (by decide) X e rfl)
  have hd3 := own_fr (unhide HD2) f3 (fun k hk e => ((unhide HN4) k hk).2.2 e)
  have S3 := hide (spoilT_any x.2.2.2.2.1 x.2.2.2.2.2 B x.1.2.2.2.1 w3 hd3 (unhide HT).d.1 (unhide HT).d.2)
  have c3 : w3.cell? ⟨X, 3, none⟩ = some (.slice x.2.2.2.2.1 x.1.2.2.2.1.length x.2.2.2.2.2) := g3.cell 3 rfl
  clear g3 hd3 S2 o3 c2 HG2 HC2 HD2
  go_wp2_with fail
  refine (unhide S3).mono ?_
  rintro e w4 ⟨rfl, o4⟩
  have f4 := Own1.fr o4
  clear o4 S3 c3
  go_wp2_with fail
  go_end0
  refine ⟨rfl, (Fr.of_q q0).trans (((f1.mono ?_).trans (f2.mono ?_)).trans ((f3.mono ?_).trans (f4.mono ?_)))⟩
  · intro k hk; exact mem_edB.2 (Or.inl hk)
  · intro k hk; exact mem_edB.2 (Or.inr (Or.inl hk))
  · intro k hk; exact mem_edB.2 (Or.inr (Or.inr (Or.inl hk)))
  · intro k hk; exact mem_edB.2 (Or.inr (Or.inr (Or.inr hk)))

set_option maxHeartbeats 4000000 in
theorem spoilP_any (ps : List Pl) (B : Nat) (ao : Option Addr) (cap : Nat) (w : World) (h : OwnPl w B ao cap ps) (hn : ps.length ≤ 4096) :
    Calls Tryz.prog 21 #[.slice ao ps.length cap] w fun e w' => e = .returned (.tuple #[]) ∧ Fr (fun k => (Value.slice ao ps.length cap).ownBlock = some k) w w' := by
  by_cases h0 : ps.length = 0
  · rw [h0]
    go_enter Tryz.func21, Tryz.ntmps21
    go_wp2_with fail
    refine wp_loop_rounds 1 ?_
    rw [rounds_succ]
    go_wp2_with fail
    go_end0
    exact ⟨rfl, Fr.refl _ _⟩
  · obtain ⟨g, rfl, hgB, hg, hfz, hcell⟩ := own_some plv_len (by decide) (by omega) h
    obtain ⟨cs0, hb0⟩ := own_blk h g rfl
    have HC0 : Hid (∀ (j : Nat) p, ps[j]? = some p → cs0[j * 2 + 1]? = some (.int .i64 p.2)) := fun j p hp => by
      have h1 := hcell j 1 p _ hp (by decide) rfl
      rw [cell_of_row w g (j * 2 + 1) cs0 _ _ hb0] at h1
      exact h1
    have HB0 := hide hb0
    clear hcell hfz hb0 h hgB
    go_enter Tryz.func21, Tryz.ntmps21
    go_wp2_with fail
    go_loopw [2] (fun i wr => ∃ (k : Nat) (cs : Array Value), k ≤ ps.length ∧ i = .int .i64 k ∧ Blk wr g cs 73 ∧ Hid (∀ (j : Nat) p, k ≤ j → ps[j]? = some p → cs[j * 2 + 1]? = some (.int .i64 p.2)) ∧ Hid (Fr (fun b => b = g) w wr)) (fun i _ => ps.length - (intOf i).toNat)
    case atStart => exact ⟨0, cs0, Nat.zero_le _, rfl, unhide HB0, fun j p _ hp => (unhide HC0) j p hp, Fr.refl _ _⟩
    case round =>
      obtain ⟨k, cs, hk, rfl, hb, HC, HF⟩ := hrel
      by_cases hlt : k < ps.length
      · obtain ⟨p, hp⟩ : ∃ p, ps[k]? = some p := ⟨_, List.getElem?_eq_getElem hlt⟩
        have c1 : wr.cell? ⟨g, k * 2 + 1, none⟩ = some (.int .i64 p.2) := hb.cell _ (HC.out k p (Nat.le_refl _) hp)
        have f1 := hb.frz (k * 2 + 1)
        have HBB := hide hb
        clear hp hb
        generalize (p.2 : Int) = n at *
        go_wp2_with fail
        go_roundw
        case rel =>
          refine ⟨k + 1, _, by omega, by go_num, (unhide HBB).set _ _, ?_, HF.out.trans (Fr.set _ _ _ _)⟩
          intro j q hj hq
          rw [Array.getElem?_setIfInBounds_ne (by omega)]
          exact HC.out j q (by omega) hq
        case measure => simp [intOf]; omega
      · clear HC hb
        go_wp2_with fail
        go_end0
        exact ⟨rfl, HF.out.mono (fun b hb => by subst hb; rfl)⟩

end Go.Proofs.YtpddckgkaopnlaaGreatDoor
