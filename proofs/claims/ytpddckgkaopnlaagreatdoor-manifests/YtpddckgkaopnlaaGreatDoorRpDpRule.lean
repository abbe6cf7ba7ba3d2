/- The document's own parser: a deep line below a rule's; the conditions: the parser lies in memory. -/
import Derived.Test.YtpddckgkaopnlaaGreatDoorRpDpPool
import Derived.Test.YtpddckgkaopnlaaGreatDoorWk1
import Derived.Test.YtpddckgkaopnlaaGreatDoorBnMfFields
namespace Go.Proofs.YtpddckgkaopnlaaGreatDoor
open Go.RowKit

theorem dp_rule {s : Sm} {l : Tx} {r : Rl} {k v : Tx} (hun : s.un = some (.inl r)) (hb : bnL l = some (k, v)) : dpL s l = match rlT s.ps r k v with | none => .error 800 | some r' => .ok (s.wU (some (.inl r'))) := by
  unfold dpL tkL
  rw [hb]
  simp only
  rw [hun]
  simp only
  cases rlT s.ps r k v <;> rfl

theorem seen_any (seen : Ws) (k : Tx) : (seen.any fun x => x == k) = decide (k ∈ seen) := by
  rw [Bool.eq_iff_iff, decide_eq_true_iff, List.any_eq_true]
  constructor
  · rintro ⟨x, hx, he⟩; rw [← eq_of_beq he]; exact hx
  · intro h; exact ⟨k, h, by simp⟩
theorem rl_seen {ps : List Pl} {seen : Ws} {r : Rl} {k v : Tx} (hs : SeenOk seen r) (h : k ∈ seen) : rlT ps r k v = none := by
  obtain ⟨h1, h2, h3, h4, _⟩ := hs
  unfold rlT
  have e1 : ¬ (k = kCommand ∧ r.2.1 = [] ∧ v ≠ []) := fun e => h1.1 (e.1 ▸ h) e.2.1
  have e2 : ¬ (k = kDeps ∧ r.2.2.1 = false ∧ v = [49]) := fun e => by have := h2.1 (e.1 ▸ h); rw [e.2.1] at this; cases this
  have e3 : ¬ (k = kPool ∧ r.2.2.2 = [] ∧ plHas ps v = true) := fun e => h3.1 (e.1 ▸ h) e.2.1
  rw [if_neg e1, if_neg e2, if_neg e3]
theorem pl_empty {ps : List Pl} (h : PlsM ps) : plHas ps [] = false := by
  cases hb : plHas ps [] with
  | false => rfl
  | true =>
    unfold plHas at hb
    obtain ⟨p, hp, he⟩ := List.any_eq_true.1 hb
    obtain ⟨k, hk, hkp⟩ := List.mem_iff_getElem.1 hp
    have := (h.2 k p (by rw [List.getElem?_eq_getElem hk, hkp])).1
    rw [eq_of_beq he] at this
    exact absurd this (by decide)
theorem rl_blank {ps : List Pl} {r : Rl} {k : Tx} (h : PlsM ps) : rlT ps r k [] = none := by
  unfold rlT
  rw [if_neg (fun e => e.2.2 rfl), if_neg (fun e => by cases e.2.2), if_neg (fun e => by rw [pl_empty h] at e; cases e.2.2)]
theorem nodup_sub {α : Type} [DecidableEq α] : ∀ (m l : List α), l.Nodup → (∀ x ∈ l, x ∈ m) → l.length ≤ m.length
  | [], l, _, h => by
    cases l with
    | nil => simp
    | cons x r => exact absurd (h x (by simp)) (by simp)
  | a :: m, l, hn, h => by
    have h1 := nodup_sub m (l.erase a) (hn.erase a) (fun x hx => by
      have h3 := (hn.mem_erase_iff).1 hx
      rcases List.mem_cons.1 (h x h3.2) with e | e
      · exact absurd e h3.1
      · exact e)
    by_cases hm : a ∈ l
    · rw [List.length_erase_of_mem hm] at h1; simp; omega
    · rw [List.erase_of_not_mem hm] at h1; simp; omega
theorem seen_more {seen : Ws} {r r' : Rl} {k : Tx} (hs : SeenOk seen r) (h : k ∉ seen) (hk : k = kCommand ∨ k = kDeps ∨ k = kPool) (e1 : (k = kCommand ∨ r.2.1 ≠ []) ↔ r'.2.1 ≠ []) (e2 : (k = kDeps ∨ r.2.2.1 = true) ↔ r'.2.2.1 = true) (e3 : (k = kPool ∨ r.2.2.2 ≠ []) ↔ r'.2.2.2 ≠ []) : SeenOk (seen ++ [k]) r' := by
  obtain ⟨h1, h2, h3, h4, h5, h6⟩ := hs
  have hm : ∀ x, x ∈ seen ++ [k] ↔ (k = x ∨ x ∈ seen) := fun x => by
    rw [List.mem_append, List.mem_singleton]
    exact ⟨fun h => h.elim Or.inr (fun e => Or.inl e.symm), fun h => h.elim (fun e => Or.inr e.symm) Or.inl⟩
  have hnd : (seen ++ [k]).Nodup := by
    rw [List.nodup_append]; exact ⟨h6, by simp, by intro a ha b hb; simp at hb; subst hb; exact fun e => h (e ▸ ha)⟩
  have hin : ∀ x ∈ seen ++ [k], x = kCommand ∨ x = kDeps ∨ x = kPool := fun x hx => by
    rcases (hm x).1 hx with e | e
    · exact e ▸ hk
    · exact h4 x e
  refine ⟨?_, ?_, ?_, hin, nodup_sub [kCommand, kDeps, kPool] _ hnd (fun x hx => by simpa using hin x hx), hnd⟩
  · rw [hm, h1, e1]
  · rw [hm, h2, e2]
  · rw [hm, h3, e3]
theorem rl_cmd {ps : List Pl} {seen : Ws} {r : Rl} {v : Tx} (hs : SeenOk seen r) (h : kCommand ∉ seen) (hv : v ≠ []) : rlT ps r kCommand v = some (r.1, v, r.2.2) ∧ SeenOk (seen ++ [kCommand]) (r.1, v, r.2.2) := by
  have h0 : r.2.1 = [] := Decidable.byContradiction fun e => h (hs.1.2 e)
  exact ⟨by unfold rlT; rw [if_pos ⟨rfl, h0, hv⟩], seen_more hs h (Or.inl rfl) ⟨fun _ => hv, fun _ => Or.inl rfl⟩ ⟨fun e => e.elim (fun e => absurd e (by decide)) id, Or.inr⟩ ⟨fun e => e.elim (fun e => absurd e (by decide)) id, Or.inr⟩⟩
theorem rl_deps {ps : List Pl} {seen : Ws} {r : Rl} (hs : SeenOk seen r) (h : kDeps ∉ seen) : rlT ps r kDeps [49] = some (r.1, r.2.1, true, r.2.2.2) ∧ SeenOk (seen ++ [kDeps]) (r.1, r.2.1, true, r.2.2.2) := by
  have h0 : r.2.2.1 = false := by
    cases e : r.2.2.1 with
    | false => rfl
    | true => exact absurd (hs.2.1.2 e) h
  exact ⟨by unfold rlT; rw [if_neg (fun e => absurd e.1 (by decide)), if_pos ⟨rfl, h0, rfl⟩], seen_more hs h (Or.inr (Or.inl rfl)) ⟨fun e => e.elim (fun e => absurd e (by decide)) id, Or.inr⟩ ⟨fun _ => rfl, fun _ => Or.inl rfl⟩ ⟨fun e => e.elim (fun e => absurd e (by decide)) id, Or.inr⟩⟩
theorem rl_pool {ps : List Pl} {seen : Ws} {r : Rl} {v : Tx} (hs : SeenOk seen r) (h : kPool ∉ seen) (hv : v ≠ []) (hp : plHas ps v = true) : rlT ps r kPool v = some (r.1, r.2.1, r.2.2.1, v) ∧ SeenOk (seen ++ [kPool]) (r.1, r.2.1, r.2.2.1, v) := by
  have h0 : r.2.2.2 = [] := Decidable.byContradiction fun e => h (hs.2.2.1.2 e)
  exact ⟨by unfold rlT; rw [if_neg (fun e => absurd e.1 (by decide)), if_neg (fun e => absurd e.1 (by decide)), if_pos ⟨rfl, h0, hp⟩], seen_more hs h (Or.inr (Or.inr rfl)) ⟨fun e => e.elim (fun e => absurd e (by decide)) id, Or.inr⟩ ⟨fun e => e.elim (fun e => absurd e (by decide)) id, Or.inr⟩ ⟨fun _ => hv, fun _ => Or.inl rfl⟩⟩
theorem rl_no {ps : List Pl} {r : Rl} {k v : Tx} (h1 : k ≠ kCommand) (h2 : ¬ (k = kDeps ∧ v = [49])) (h3 : ¬ (k = kPool ∧ plHas ps v = true)) : rlT ps r k v = none := by
  unfold rlT
  rw [if_neg (fun e => h1 e.1), if_neg (fun e => h2 ⟨e.1, e.2.2⟩), if_neg (fun e => h3 ⟨e.1, e.2.2⟩)]

/-- A rule's bind is told. -/
theorem rule_set {B P : Nat} {w3 w5 : World} {s : Sm} {ps : List Pl} {A : RpA} {b0 b1 b2 b3 b4 vo : Value} {R0 : List (Rl × Sl)} {r r' : Rl} {seen : Ws} {so : Option Addr} {sc g : Nat} {ao' : Option Addr} {cap' i : Nat} {v : Value} {k : Tx}
    (h : Rp B w3 P s ps A 1 b0 b1 b2 b3 b4 vo) (hps : ps = s.ps) (hA : A.rs = R0 ++ [(r, (so, seen.length, sc))]) (hR0 : R0.map Prod.fst = s.rs) (hro : A.ro = some ⟨g, 0, none⟩) (hown : OwnT w3 B so sc seen)
    (hnd : ∀ b, (Value.slice so seen.length sc).ownBlock = some b → (Value.slice A.dd s.ds.length A.dc).ownBlock ≠ some b ∧ ∀ x ∈ A.es, b ∉ edB x) (hg : w3.grownBy w5 (Value.slice so seen.length sc).ownBlock) (ho : OwnT w5 B ao' cap' (seen ++ [k]))
    (hn : (Value.slice ao' (seen.length + 1) cap').ownBlock = (Value.slice so seen.length sc).ownBlock ∨ ∀ b, (Value.slice ao' (seen.length + 1) cap').ownBlock = some b → w3.heap.size ≤ b) (hk : SeenOk (seen ++ [k]) r') (hi : i < 4)
    (hv : rrv (r', (ao', (seen.length + 1), cap')) = (rrv (r, (ao', (seen.length + 1), cap'))).set i v) (ok : SmOk (s.wU (some (.inl r')))) (hm : SmMay (s.wU (some (.inl r')))) :
    RS B ((w5.setCell ⟨g, R0.length * 5 + 4, none⟩ (.slice ao' (seen.length + 1) cap')).setCell ⟨g, R0.length * 5 + i, none⟩ v) P (s.wU (some (.inl r'))) := by
  have hF1 := Fr.grown hg
  have hr5 := own_fr h.ro.r hF1 (fun b hb e => own_ne h.ro.r hown (by decide) b hb e)
  have hlA : A.rs.length = R0.length + 1 := by rw [hA]; simp
  have hr5' := hr5
  rw [hro] at hr5'
  obtain ⟨csb, hgb⟩ : ∃ cs, Blk w5 g cs 92 := own_blk hr5' g rfl
  have hx5 : A.rs[R0.length]? = some (r, (so, seen.length, sc)) := by rw [hA]; simp
  have hs1 := own_set rrv_len hr5' R0.length 4 (r, (so, seen.length, sc)) (r, (ao', (seen.length + 1), cap')) (.slice ao' (seen.length + 1) cap') hx5 (by decide) rfl
  have e1 : A.rs.set R0.length (r, (ao', (seen.length + 1), cap')) = R0 ++ [(r, (ao', (seen.length + 1), cap'))] := by rw [hA]; simp
  rw [e1] at hs1
  have hs2 := own_set rrv_len hs1 R0.length i (r, (ao', (seen.length + 1), cap')) (r', (ao', (seen.length + 1), cap')) v (by simp) (by omega) hv
  have e2 : (R0 ++ [(r, (ao', (seen.length + 1), cap'))]).set R0.length (r', (ao', (seen.length + 1), cap')) = R0 ++ [(r', (ao', (seen.length + 1), cap'))] := by simp
  rw [e2] at hs2
  have hf2 : Fr (fun b => b = g) w5 ((w5.setCell ⟨g, R0.length * 5 + 4, none⟩ (.slice ao' (seen.length + 1) cap')).setCell ⟨g, R0.length * 5 + i, none⟩ v) := (Fr.set w5 g _ _).trans (Fr.set _ g _ _)
  have hP2 : ∀ b, b = g → ∃ cs, Blk w5 b cs 92 := fun b hb => by subst hb; exact ⟨csb, hgb⟩
  have hb5 : Blk w5 P (rpC A s ps 1 b0 b1 b2 b3 b4 vo) 60 := h.blk.fr hF1 (fun hk => h.blk.row hown (by decide) P hk rfl)
  have hne : P ≠ g := Blk.ne hb5 hgb (by decide)
  have hb6 := hb5.fr hf2 (fun e => hne e)
  have hlen : (seen ++ [k]).length = seen.length + 1 := by simp
  refine ⟨ok, hm, ps, ⟨A.es, A.eo, A.ec, A.po, A.pc, A.dd, A.dc, R0 ++ [(r', (ao', (seen.length + 1), cap'))], A.ro, A.rc, A.oo, A.oc⟩, 1, b0, b1, b2, b3, b4, vo, ⟨?_, h.lo, ?_⟩, ?_⟩
  · unfold rpC at hb6 ⊢
    rw [hlA] at hb6
    dsimp only
    rw [show (R0 ++ [(r', (ao', (seen.length + 1), cap'))]).length = R0.length + 1 by simp]
    exact hb6
  · refine ⟨own_ty (own_fr h.ro.e hF1 (fun b hb e => own_ne h.ro.e hown (by decide) b hb e)) hf2 hP2 (by decide), h.ro.em, own_ty (own_fr h.ro.p hF1 (fun b hb e => own_ne h.ro.p hown (by decide) b hb e)) hf2 hP2 (by decide), own_ty (own_fr h.ro.d hF1 (fun b hb e => (hnd b e).1 hb)) hf2 hP2 (by decide), ?_,
      own_ty (own_fr h.ro.o hF1 (fun b hb e => own_ne h.ro.o hown (by decide) b hb e)) hf2 hP2 (by decide), fun x hx => ((h.ro.q x hx).fr hF1 (fun b hb e => (hnd b e).2 x hx hb)).ty hf2 hP2 (by decide), h.ro.nd⟩
    dsimp only
    rw [hro, show (R0 ++ [(r', (ao', (seen.length + 1), cap'))]).length = A.rs.length by rw [hA]; simp]
    exact hs2
  · refine ⟨rfl, hps, R0, seen ++ [k], ao', cap', by rw [hlen], hR0, own_ty ho hf2 hP2 (by decide), hk, ?_⟩
    intro b hb
    rw [hlen] at hb
    rcases hn with hn | hn
    · rw [hn] at hb; exact hnd b hb
    · have h1 := hn b hb
      exact ⟨fun e => by have := (h.ro.d.lt b e).2; omega, fun x hx hm => by have := ((h.ro.q x hx).lt b hm).2; omega⟩

set_option maxRecDepth 20000 in
set_option maxHeartbeats 8000000 in
theorem rdeep_rule (B P : Nat) (s : Sm) (r : Rl) (l : ByteArray) (w : World) (h : RS B w P s) (hun : s.un = some (.inl r)) (hB : B ≤ w.heap.size) (hl : l.size ≤ 2049) (hpl : plainL (bl l) = true) :
    Calls Tryz.prog 14 #[.pointer (some ⟨P, 0, none⟩), .string l] w (RL B P (dpL s (bl l)) w) := by
  obtain ⟨i0, hi, hz0, hz1, hz2⟩ := info_parts Tryz.infoS
  obtain ⟨ok, hm, ps, A, op, b0, b1, b2, b3, b4, vo, h, hu⟩ := h
  unfold UnP at hu
  rw [hun] at hu
  obtain ⟨rfl, hps, R0, seen, so, sc, hA, hR0, hown, hseen, hnd⟩ := hu
  have HL := hide (bindLine_any l w (by unfold maxLen; omega))
  have hlr : A.rs.length = R0.length + 1 := by rw [hA]; simp
  have hl9 : R0.length ≤ 8 := by have := congrArg List.length hR0; rw [List.length_map] at this; have := ok.lr; omega
  have hsl : seen.length ≤ 3 := hseen.2.2.2.2.1
  obtain ⟨g, hro, hgB, hg, hfz, hcell⟩ := own_some rrv_len (by decide) (by rw [hA]; simp) h.ro.r
  have hx : A.rs[R0.length]? = some (r, (so, seen.length, sc)) := by rw [hA]; simp
  have hk4 : w.cell? ⟨g, R0.length * 5 + 4, none⟩ = some (.slice so seen.length sc) := hcell R0.length 4 _ _ hx (by decide) rfl
  have HC5 : Hid (∀ w2, Q w w2 → w2.cell? ⟨P, 5, none⟩ = some (.int .i64 1)) := fun w2 q => (h.q q).cells.c5
  have HC3 : Hid (∀ w2, Q w w2 → w2.cell? ⟨P, 3, none⟩ = some (.slice (some ⟨g, 0, none⟩) (R0.length + 1) A.rc)) := fun w2 q => by have := (h.q q).cells.c3; rw [hro, hlr] at this; exact this
  have HCK : Hid (∀ w2, Q w w2 → w2.cell? ⟨g, R0.length * 5 + 4, none⟩ = some (.slice so seen.length sc)) := fun w2 q => (q.cell (p := ⟨g, R0.length * 5 + 4, none⟩) hg).trans hk4
  have HOW : Hid (∀ w2, Q w w2 → OwnT w2 B so sc seen) := fun w2 q => own_q hown q
  have HHAS := hide (fun n w2 (q : Q w w2) => has_any seen n so sc w2 (OwnT.row (own_q hown q)) (by omega))
  have c5 := h.cells.c5
  have HBW : Hid (∀ w', Q w w' → Below B w w') := fun w' q => q.mono hB
  have HPLS := hide hm.p
  have HSEEN := hide hseen
  cases hb : bnL (bl l) with
  | none =>
    have HX := hide (dp_no (s := s) hb)
    rw [bn_none hb] at HL
    clear ok hm hps hA hR0 h hun hx hk4 hcell hb hlr hfz hown hnd
    go_enter Tryz.func14, Tryz.ntmps14
    go_wp2_with fail
    refine (unhide HL).mono ?_
    rintro e w1 ⟨rfl, q1⟩
    go_wp2_with fail
    go_ret
    exact RL.err (unhide HX) (HBW.out _ q1)
  | some y =>
    obtain ⟨kx, vx⟩ := y
    obtain ⟨z1, z2, z3⟩ := bn_some hb
    have HD := hide (dp_rule hun hb)
    have hkl : kx.length ≤ 2049 := by have := (bnL_len hb).1; rw [bl_size] at this; exact Nat.le_trans this hl
    rw [z1, z2, z3] at HL
    have HFIN : Hid (∀ (w3 w5 : World) (ao' : Option Addr) (cap' i : Nat) (v : Value) (r' : Rl), Q w w3 → w3.grownBy w5 (Value.slice so seen.length sc).ownBlock → OwnT w5 B ao' cap' (seen ++ [kx]) → ((Value.slice ao' (seen.length + 1) cap').ownBlock = (Value.slice so seen.length sc).ownBlock ∨ ∀ b, (Value.slice ao' (seen.length + 1) cap').ownBlock = some b → w3.heap.size ≤ b) → SeenOk (seen ++ [kx]) r' → i < 4 →
        rrv (r', (ao', (seen.length + 1), cap')) = (rrv (r, (ao', (seen.length + 1), cap'))).set i v → rlT s.ps r kx vx = some r' → RL B P (dpL s (bl l)) w (.returned (.int .i64 0)) ((w5.setCell ⟨g, R0.length * 5 + 4, none⟩ (.slice ao' (seen.length + 1) cap')).setCell ⟨g, R0.length * 5 + i, none⟩ v)) := by
      intro w3 w5 ao' cap' i v r' q hg5 ho hn hs hi4 hv hrl
      have hd : dpL s (bl l) = .ok (s.wU (some (.inl r'))) := by rw [HD.out, hrl]
      obtain ⟨hok, hmay⟩ := dp_ok hd ok hm (by rw [bl_size]; omega) hpl
      refine RL.ok hd ?_ (rule_set (h.q q) hps hA hR0 hro (own_q hown q) hnd hg5 ho hn hs hi4 hv hok hmay)
      have hf := (((Fr.grown hg5).mono (fun b hb => Or.inr hb : ∀ b, _ → b = g ∨ (Value.slice so seen.length sc).ownBlock = some b)).trans ((Fr.set w5 g (R0.length * 5 + 4) (.slice ao' (seen.length + 1) cap')).mono (fun b hb => Or.inl hb))).trans ((Fr.set _ g (R0.length * 5 + i) v).mono (fun b hb => Or.inl hb))
      exact Below.trans (q.mono hB) (hf.below (Nat.le_trans hB q.size) (fun b hb => hb.elim (fun e => by rw [e]; exact hgB) (fun e => (hown.lt b e).1)))
    have HERR : Hid (∀ (w3 w5 : World) (v : Value), Q w w3 → w3.grownBy w5 (Value.slice so seen.length sc).ownBlock → rlT s.ps r kx vx = none → RL B P (dpL s (bl l)) w (.returned (.int .i64 800)) (w5.setCell ⟨g, R0.length * 5 + 4, none⟩ v)) := by
      intro w3 w5 v q hg5 hrl
      have hd : dpL s (bl l) = .error 800 := by rw [HD.out, hrl]
      refine RL.err hd ?_
      have hf := ((Fr.grown hg5).mono (fun b hb => Or.inr hb : ∀ b, _ → b = g ∨ (Value.slice so seen.length sc).ownBlock = some b)).trans ((Fr.set w5 g (R0.length * 5 + 4) v).mono (fun b hb => Or.inl hb))
      exact Below.trans (q.mono hB) (hf.below (Nat.le_trans hB q.size) (fun b hb => hb.elim (fun e => by rw [e]; exact hgB) (fun e => (hown.lt b e).1)))
    have HFZ : Hid (∀ (w3 w5 : World) (ao' : Option Addr) (cap' : Nat), Q w w3 → w3.grownBy w5 (Value.slice so seen.length sc).ownBlock → (w5.frozen? ⟨g, R0.length * 5 + 4, none⟩ = false ∧ w5.cell? ⟨g, R0.length * 5 + 4, none⟩ = some (.slice so seen.length sc)) ∧
        ∀ w6, w6 = w5.setCell ⟨g, R0.length * 5 + 4, none⟩ (.slice ao' (seen.length + 1) cap') → (∀ i, w6.frozen? ⟨g, i, none⟩ = false) ∧ w6.cell? ⟨g, R0.length * 5 + 1, none⟩ = some (.string ⟨r.2.1.toArray⟩) ∧ w6.cell? ⟨g, R0.length * 5 + 2, none⟩ = some (.bool r.2.2.1) ∧ w6.cell? ⟨g, R0.length * 5 + 3, none⟩ = some (.string ⟨r.2.2.2.toArray⟩) ∧ w6.cell? ⟨P, 1, none⟩ = some (.slice A.po ps.length A.pc) ∧ RowP w6 A.po ps) := by
      intro w3 w5 ao' cap' q hg5
      have h2 := (h.q q).ro.r
      have h5 := own_fr h2 (Fr.grown hg5) (fun b hb e => own_ne h2 (own_q hown q) (by decide) b hb e)
      have hp2 := (h.q q).ro.p
      have hp5 := own_fr hp2 (Fr.grown hg5) (fun b hb e => own_ne hp2 (own_q hown q) (by decide) b hb e)
      have hb5 : Blk w5 P _ 60 := (h.q q).blk.fr (Fr.grown hg5) (fun hk => (h.q q).blk.row (own_q hown q) (by decide) P hk rfl)
      rw [hro] at h5
      obtain ⟨g', hg', _, _, hf', hc'⟩ := own_some rrv_len (by decide) (by rw [hA]; simp) h5
      cases hg'
      obtain ⟨cs, hcs⟩ := own_blk h5 g rfl
      refine ⟨⟨hf' _, hc' R0.length 4 _ _ hx (by decide) rfl⟩, ?_⟩
      intro w6 hw6
      subst hw6
      have h6 := own_set rrv_len h5 R0.length 4 (r, (so, seen.length, sc)) (r, (ao', (seen.length + 1), cap')) (.slice ao' (seen.length + 1) cap') hx (by decide) rfl
      obtain ⟨g', hg', _, _, hf6, hc6⟩ := own_some rrv_len (by decide) (by rw [hA]; simp) h6
      cases hg'
      have hx6 : (A.rs.set R0.length (r, (ao', (seen.length + 1), cap')))[R0.length]? = some (r, (ao', (seen.length + 1), cap')) := by rw [hA]; simp
      have hne : P ≠ g := Blk.ne hb5 hcs (by decide)
      exact ⟨hf6, hc6 R0.length 1 _ _ hx6 (by decide) rfl, hc6 R0.length 2 _ _ hx6 (by decide) rfl, hc6 R0.length 3 _ _ hx6 (by decide) rfl, (hb5.other hne _ _).cell 1 rfl,
        OwnPl.row (own_ty hp5 (Fr.set w5 g _ _) (fun b hb => by subst hb; exact ⟨cs, hcs⟩) (by decide))⟩
    have HRF : Hid (∀ w2, rlT s.ps r kx vx = none → Q w w2 → RL B P (dpL s (bl l)) w (.returned (.int .i64 800)) w2) := fun w2 hn q => RL.err (by rw [HD.out, hn]) (q.mono hB)
    have hps4 : ps.length ≤ 4096 := by rw [hps]; have := ok.lp; omega
    have HPS := hide hps
    clear ok hm hps hA hR0 h hun hx hk4 hcell hb hlr hfz hown hnd z1 z2 z3 HD hseen
    generalize dpL s (bl l) = RES at *
    generalize hmR : R0.length = m at *
    clear hmR
    go_enter Tryz.func14, Tryz.ntmps14
    go_wp2_with fail
    refine (unhide HL).mono ?_
    rintro e w1 ⟨rfl, q1⟩
    have y5 := HC5.out w1 q1
    have y3 := HC3.out w1 q1
    clear c5 HC5 HC3 HL
    go_upto_region 12 with fail
    go_region
    have q1d : Q w w1.drew := q1.drew
    have yk := HCK.out w1.drew q1d
    have HKM := hide (seen_any seen kx)
    by_cases hk : kx ∈ seen
    · have HH := hide (unhide HHAS ⟨kx.toArray⟩ w1.drew q1d)
      rw [show bl ⟨kx.toArray⟩ = kx from rfl, HKM.out, decide_eq_true hk] at HH
      have HX := hide (HRF.out w1.drew (rl_seen HSEEN.out hk) q1d)
      clear hk HKM HHAS HFIN HERR HFZ HRF
      generalize (⟨kx.toArray⟩ : ByteArray) = kB at *
      generalize (⟨vx.toArray⟩ : ByteArray) = vB at *
      go_wp2_with fail
      refine (unhide HH).mono ?_
      rintro e w2 ⟨rfl, rfl⟩
      go_wp2_with fail
      go_ret
      exact unhide HX
    have HH := hide (unhide HHAS ⟨kx.toArray⟩ w1.drew q1d)
    rw [show bl ⟨kx.toArray⟩ = kx from rfl, HKM.out, decide_eq_false hk] at HH
    by_cases hv : vx = []
    · have HX := hide (HRF.out w1.drew (by rw [hv]; exact rl_blank HPLS.out) q1d)
      have g1 : (⟨vx.toArray⟩ : ByteArray).toList.isEmpty = true := is_emp hv
      clear hk hv HKM HHAS HFIN HERR HFZ HRF
      generalize (⟨kx.toArray⟩ : ByteArray) = kB at *
      generalize (⟨vx.toArray⟩ : ByteArray) = vB at *
      go_wp2_with fail
      refine (unhide HH).mono ?_
      rintro e w2 ⟨rfl, rfl⟩
      go_wp2_with fail
      go_ret
      exact unhide HX
    have g1 : (⟨vx.toArray⟩ : ByteArray).toList.isEmpty = false := no_emp hv
    have HKN := hide hk
    have HVN := hide hv
    have HKB := hide (bl_mk kx)
    have HVB := hide (bl_mk vx)
    have HTV : Hid (tv kx = [Value.string ⟨kx.toArray⟩]) := rfl
    clear hk hv HKM HHAS
    generalize (⟨kx.toArray⟩ : ByteArray) = kB at *
    generalize (⟨vx.toArray⟩ : ByteArray) = vB at *
    go_upto_region 17 with (first | (go_at_call 46; refine (unhide HH).mono ?_; rintro e w2 ⟨rfl, rfl⟩) | (at_builtin; refine wpList_append_row2 rfl _ _ 24 rfl B 9 i0 (.string ByteArray.empty) 1 16 Tryz.underlying24 hi hz0 hz1 hz2 rfl (by decide) so seen.length sc (lay tv seen) rfl (HOW.out _ (q1d.alloc _)) (some ⟨w1.heap.size, 0, none⟩) 1 1 [.string kB] rfl (SrcRow.new w1.drew #[.string kB] _ 1 rfl) (one_str _) (by unfold maxLen; omega) (by omega) (Nat.le_trans hB (q1d.alloc _).size) ?_; intro ao' cap' w5 own5 grow5 hn5; have hz5 := HFZ.out _ _ ao' cap' (q1d.alloc _) grow5; have hf5 := hz5.1.1; have hc5 := hz5.1.2; have HZ6 := hide hz5.2; clear hz5))
    have HG5 := hide grow5
    have HN5 := hide hn5
    have HO5 : Hid (OwnT w5 B ao' cap' (seen ++ [kx])) := by
      show World.ownsRow _ _ _ _ (.slice _ (seen ++ [kx]).length _) (seen ++ [kx]).length (lay tv (seen ++ [kx]))
      rw [lay_snoc, List.length_append, HTV.out]; exact own5
    have HW6 := hide (unhide HZ6 _ rfl)
    clear own5 grow5 hn5 hf5 hc5 HZ6 HFZ HOW HH yk
    generalize hw6 : w5.setCell ⟨g, m * 5 + 4, none⟩ (.slice ao' (seen.length + 1) cap') = w6 at *
    obtain ⟨f6, e1, e2, e3, ep, hrp⟩ := unhide HW6
    have fx1 := f6 (m * 5 + 1)
    have fx2 := f6 (m * 5 + 2)
    have fx3 := f6 (m * 5 + 3)
    have HRP := hide hrp
    have HERX : Hid (rlT s.ps r kx vx = none → RL B P RES w (.returned (.int .i64 800)) w6) := fun hn => by
      have := HERR.out _ w5 (.slice ao' (seen.length + 1) cap') (q1d.alloc _) (unhide HG5) hn
      rw [hw6] at this; exact this
    have HW := hide hw6
    clear f6 hrp HW6 hw6 HERR
    by_cases kC : kx = kCommand
    · subst kC
      have tC : (kB.toList == [99, 111, 109, 109, 97, 110, 100]) = true := is_key (show bl kB = kCommand by rw [HKB.out])
      have tD : (kB.toList == [100, 101, 112, 115]) = false := no_key (show bl kB ≠ kDeps by rw [HKB.out]; decide)
      have tP : (kB.toList == [112, 111, 111, 108]) = false := no_key (show bl kB ≠ kPool by rw [HKB.out]; decide)
      obtain ⟨hr1, hr2⟩ := rl_cmd (ps := s.ps) (v := vx) HSEEN.out HKN.out HVN.out
      have HX := hide (HFIN.out _ w5 ao' cap' 1 (.string vB) _ (q1d.alloc _) (unhide HG5) (unhide HO5) (unhide HN5) hr2 (by decide) (by rw [← HVB.out]; rfl) hr1)
      rw [unhide HW] at HX
      clear HERX HFIN
      go_wp2_with fail
      go_ret
      exact unhide HX
    have tC : (kB.toList == [99, 111, 109, 109, 97, 110, 100]) = false := no_key (by rw [HKB.out]; exact kC)
    have HKC := hide kC
    clear kC
    by_cases kD : kx = kDeps
    · subst kD
      have tD : (kB.toList == [100, 101, 112, 115]) = true := is_key (show bl kB = kDeps by rw [HKB.out])
      have tP : (kB.toList == [112, 111, 111, 108]) = false := no_key (show bl kB ≠ kPool by rw [HKB.out]; decide)
      by_cases v1 : vx = [49]
      · have tv1 : (vB.toList == [49]) = true := is_key (by rw [HVB.out]; exact v1)
        obtain ⟨hr1, hr2⟩ := rl_deps (ps := s.ps) HSEEN.out HKN.out
        have HX := hide (HFIN.out _ w5 ao' cap' 2 (.bool true) _ (q1d.alloc _) (unhide HG5) (unhide HO5) (unhide HN5) hr2 (by decide) rfl (by rw [v1]; exact hr1))
        rw [unhide HW] at HX
        clear HERX HFIN v1 hr1 hr2
        go_wp2_with fail
        go_ret
        exact unhide HX
      · have tv1 : (vB.toList == [49]) = false := no_key (by rw [HVB.out]; exact v1)
        have HX := hide (HERX.out (rl_no HKC.out (fun e => v1 e.2) (fun e => absurd e.1 (by decide))))
        clear HERX HFIN v1
        go_wp2_with fail
        go_ret
        exact unhide HX
    have tD : (kB.toList == [100, 101, 112, 115]) = false := no_key (by rw [HKB.out]; exact kD)
    have HKD := hide kD
    clear kD
    by_cases kP : kx = kPool
    · subst kP
      have tP : (kB.toList == [112, 111, 111, 108]) = true := is_key (show bl kB = kPool by rw [HKB.out])
      have HPA := hide (poolAt_any ps vB A.po A.pc w6 (unhide HRP) hps4)
      have HIX := hide (ixB_dec (fun r : Pl => r.1 == vx) ps)
      rw [HVB.out] at HPA
      by_cases hp : plHas s.ps vx = true
      · obtain ⟨hr1, hr2⟩ := rl_pool (ps := s.ps) HSEEN.out HKN.out HVN.out hp
        have HX := hide (HFIN.out _ w5 ao' cap' 3 (.string vB) _ (q1d.alloc _) (unhide HG5) (unhide HO5) (unhide HN5) hr2 (by decide) (by rw [← HVB.out]; rfl) hr1)
        rw [unhide HW] at HX
        have hix : decide (0 ≤ ixB (fun r : Pl => r.1 == vx) ps) = true := by rw [HIX.out, unhide HPS]; exact hp
        have hge : (0 : Int) ≤ ixB (fun r : Pl => r.1 == vx) ps := of_decide_eq_true hix
        clear HERX HFIN hp hr1 hr2 hix HIX
        generalize ixB (fun r : Pl => r.1 == vx) ps = ix at *
        go_wp2_with (go_at_call 47; refine (unhide HPA).mono ?_; rintro e w7 ⟨rfl, rfl⟩)
        go_ret
        exact unhide HX
      · have HX := hide (HERX.out (rl_no HKC.out (fun e => HKD.out e.1) (fun e => hp e.2)))
        have hpf : plHas s.ps vx = false := by
          cases h : plHas s.ps vx with
          | true => exact absurd h hp
          | false => rfl
        have hix : decide (0 ≤ ixB (fun r : Pl => r.1 == vx) ps) = false := by rw [HIX.out, unhide HPS]; exact hpf
        have hge : ¬ ((0 : Int) ≤ ixB (fun r : Pl => r.1 == vx) ps) := of_decide_eq_false hix
        clear HERX HFIN hp hpf hix HIX
        generalize ixB (fun r : Pl => r.1 == vx) ps = ix at *
        go_wp2_with (go_at_call 47; refine (unhide HPA).mono ?_; rintro e w7 ⟨rfl, rfl⟩)
        go_ret
        exact unhide HX
    have tP : (kB.toList == [112, 111, 111, 108]) = false := no_key (by rw [HKB.out]; exact kP)
    have HX := hide (HERX.out (rl_no HKC.out (fun e => HKD.out e.1) (fun e => kP e.1)))
    clear HERX HFIN kP
    go_wp2_with fail
    go_ret
    exact unhide HX

end Go.Proofs.YtpddckgkaopnlaaGreatDoor
