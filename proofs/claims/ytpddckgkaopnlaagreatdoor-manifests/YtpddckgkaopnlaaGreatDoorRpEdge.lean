/- The document's own parser: a build line's edge is over; the conditions: the parser lies in memory. -/
import Derived.Test.YtpddckgkaopnlaaGreatDoorBnRpDeep
import Derived.Test.YtpddckgkaopnlaaGreatDoorBnMfEdge
namespace Go.Proofs.YtpddckgkaopnlaaGreatDoor
open Go.RowKit

theorem cm_in {e : Ed} {r : Rl} {own ou : List Bd} (h : inE e own ≠ 0) : cmL e r own ou = .error (rfE (inE e own)) := by unfold cmL; rw [if_pos h]
theorem cm_out {e : Ed} {r : Rl} {own ou : List Bd} (h : inE e own = 0) (h2 : ouE e own ≠ 0) : cmL e r own ou = .error (rfE (ouE e own)) := by unfold cmL; rw [if_neg (by simpa using h), if_pos h2]
theorem cm_bad {e : Ed} {r : Rl} {own ou : List Bd} (h : inE e own = 0) (h2 : ouE e own = 0) (h3 : evE r.2.1 (ouS e own) ou ≠ 0 ∨ evS r.2.1 (ouS e own) ou = []) : cmL e r own ou = .error 800 := by
  unfold cmL; rw [if_neg (by simpa using h), if_neg (by simpa using h2), if_pos h3]
theorem cm_ok {e : Ed} {r : Rl} {own ou : List Bd} (h : inE e own = 0) (h2 : ouE e own = 0) (h3 : evE r.2.1 (ouS e own) ou = 0) (h4 : evS r.2.1 (ouS e own) ou ≠ []) : cmL e r own ou = .ok (evS r.2.1 (ouS e own) ou) := by
  unfold cmL; rw [if_neg (by simpa using h), if_neg (by simpa using h2), if_neg (by simp [h3, h4])]
theorem ov_edge {s : Sm} {x : Ed × Rl × List Bd} (h : s.un = some (.inr (.inr x))) : ovL s = match cmL x.1 x.2.1 x.2.2 s.bs with | .error n => .error n | .ok c => .ok ⟨s.es ++ [withC x.1 c], s.ps, s.ds, s.rs, s.bs, none⟩ := by
  unfold ovL; rw [h]; rfl

theorem Tryz.infoEd : (Tryz.prog.info? 65).map (fun i => (i.zero, i.size, i.bytes)) = some (some (.agg #[.slice none 0 0, .slice none 0 0, .slice none 0 0, .slice none 0 0, .string ByteArray.empty, .bool false, .string ByteArray.empty]), 7, 136) := by kernel_rfl

/-- One edge more. -/
theorem edge_rs {B P : Nat} {w3 w5 : World} {s : Sm} {ps : List Pl} {A : RpA} {b0 b1 b2 b3 b4 vo : Value} {y : EdA} {ao' : Option Addr} {cap' : Nat} (h : Rp B w3 P s ps A 0 b0 b1 b2 b3 b4 vo) (hps : ps = s.ps) (hrs : A.rs.map Prod.fst = s.rs)
    (hy : EdR w3 B y) (hnd : ∀ k ∈ edB y, (Value.slice A.dd s.ds.length A.dc).ownBlock ≠ some k) (hg : Fr (fun k => (Value.slice A.eo A.es.length A.ec).ownBlock = some k) w3 w5)
    (ho : w5.ownsRow B 65 7 (.slice ao' (A.es.length + 1) cap') (A.es.length + 1) (lay ev A.es ++ ev y)) (ok : SmOk ⟨s.es ++ [y.1], s.ps, s.ds, s.rs, s.bs, none⟩) (hm : SmMay ⟨s.es ++ [y.1], s.ps, s.ds, s.rs, s.bs, none⟩) :
    RS B (w5.setCell ⟨P, 0, none⟩ (.slice ao' (A.es.length + 1) cap')) P ⟨s.es ++ [y.1], s.ps, s.ds, s.rs, s.bs, none⟩ := by
  have hb5 : Blk w5 P (rpC A s ps 0 b0 b1 b2 b3 b4 vo) 60 := h.blk.fr hg (fun hk => h.blk.row h.ro.e (by decide) P hk rfl)
  have hf : Fr (fun k => k = P ∨ (Value.slice A.eo A.es.length A.ec).ownBlock = some k) w3 (w5.setCell ⟨P, 0, none⟩ (.slice ao' (A.es.length + 1) cap')) :=
    (hg.mono (fun k hk => Or.inr hk)).trans ((Fr.set _ P 0 _).mono (fun k hk => Or.inl hk))
  have hb6 := hb5.set 0 (.slice ao' (A.es.length + 1) cap')
  have ho7 := own_setP ho hb5 (by decide) 0 (.slice ao' (A.es.length + 1) cap')
  refine ⟨ok, hm, ps, ⟨A.es ++ [y], ao', cap', A.po, A.pc, A.dd, A.dc, A.rs, A.ro, A.rc, A.oo, A.oc⟩, 0, b0, b1, b2, b3, b4, vo, ⟨?_, h.lo, ?_⟩, ?_⟩
  · unfold rpC
    dsimp only
    rw [List.length_append]
    exact hb6
  · have hyf := hy.fr hf (fr_noE h.blk h.ro.e hy (by decide))
    refine ⟨?_, ?_, own_fr h.ro.p hf (fr_no h.blk h.ro.e h.ro.p (by decide) (by decide)), own_fr h.ro.d hf (fr_no h.blk h.ro.e h.ro.d (by decide) (by decide)), own_fr h.ro.r hf (fr_no h.blk h.ro.e h.ro.r (by decide) (by decide)), own_fr h.ro.o hf (fr_no h.blk h.ro.e h.ro.o (by decide) (by decide)), fun x hx => ?_, fun x hx => ?_⟩
    · dsimp only
      rw [lay_snoc, List.length_append]
      exact ho7
    · show (A.es ++ [y]).map Prod.fst = s.es ++ [y.1]
      rw [List.map_append, h.ro.em]; rfl
    · rcases List.mem_append.1 hx with hx | hx
      · exact (h.ro.q x hx).fr hf (fr_noE h.blk h.ro.e (h.ro.q x hx) (by decide))
      · simp only [List.mem_cons, List.not_mem_nil, or_false] at hx; subst hx; exact hyf
    · rcases List.mem_append.1 hx with hx | hx
      · exact h.ro.nd x hx
      · simp only [List.mem_cons, List.not_mem_nil, or_false] at hx; subst hx; exact hnd
  · exact ⟨rfl, hps, hrs⟩

theorem own_read {w : World} {B : Nat} {ao : Option Addr} {cap : Nat} {bs : List Bd} {n t : ByteArray} (h : OwnD w B ao cap (setB bs n t)) : Read w ao cap (setB bs n t) := ⟨h.row, set_fit.1, (own_le h).1, (own_le h).2.1⟩

theorem ixB_map {α β : Type} (f : α → β) (p : β → Bool) (xs : List α) : ixB p (xs.map f) = ixB (fun a => p (f a)) xs := by
  unfold ixB
  rw [List.findIdx?_map]; rfl
theorem rl_pair {rs : List (Rl × Sl)} {n : Tx} {r : Rl} (h : rlAt (rs.map Prod.fst) n = some r) : ∃ (k : Nat) (sv : Sl), ixB (fun r : Rl × Sl => r.1.1 == n) rs = k ∧ rs[k]? = some (r, sv) ∧ k < rs.length := by
  obtain ⟨k, h1, h2, h3, _⟩ := rl_some h
  rw [ixB_map] at h1
  rw [List.length_map] at h3
  rw [List.getElem?_map] at h2
  cases hx : rs[k]? with
  | none => rw [hx] at h2; cases h2
  | some y =>
    rw [hx] at h2
    obtain ⟨a, b⟩ := y
    cases h2
    exact ⟨k, b, h1, hx, h3⟩
theorem rowS_few {w : World} {ao : Option Addr} {ws : Ws} (h : RowT w ao ws) : RowS w ao (ws.map fun x => (⟨x.toArray⟩ : ByteArray)) := by
  rcases h with rfl | ⟨g, o, rfl, hg, hcell⟩
  · exact Or.inl rfl
  · refine Or.inr ⟨g, o, rfl, hg, fun j y hy => ?_⟩
    rw [List.getElem?_map] at hy
    cases hx : ws[j]? with
    | none => rw [hx] at hy; cases hy
    | some x =>
      rw [hx] at hy
      cases hy
      have := hcell j 0 x _ hx (by decide) rfl
      simpa using this
theorem rjf_any (ws : Ws) (ao : Option Addr) (cap : Nat) (w : World) (hr : RowT w ao ws) (hf : Few ws) :
    Calls Tryz.prog 89 #[.slice ao ws.length cap, .string ⟨#[32]⟩] w fun e w' => e = .returned (.string ⟨(Lib.join ws [32]).toArray⟩) ∧ w' = w := by
  have hl : (ws.map fun x => (⟨x.toArray⟩ : ByteArray)).length = ws.length := by simp
  have hm : (ws.map fun x => (⟨x.toArray⟩ : ByteArray)).map bl = ws := by rw [List.map_map]; exact List.map_id _
  have h := rjoin_any ao cap (ws.map fun x => (⟨x.toArray⟩ : ByteArray)) ⟨#[32]⟩ w (rowS_few hr) (by rw [hl]; have := hf.1; omega) (by decide) (by rw [hm]; have := hf.join 32; show (Lib.join ws [32]).length ≤ _; omega)
  rw [hl, hm] at h
  refine h.mono ?_
  rintro e w' ⟨t, rfl, ht, rfl⟩
  exact ⟨by rw [of_bl ht]; rfl, rfl⟩

theorem rjf_q (ws : Ws) (ao : Option Addr) (cap : Nat) (w : World) (hr : RowT w ao ws) (hf : Few ws) :
    Calls Tryz.prog 89 #[.slice ao ws.length cap, .string ⟨#[32]⟩] w fun e w' => e = .returned (.string ⟨(Lib.join ws [32]).toArray⟩) ∧ Q w w' :=
  (rjf_any ws ao cap w hr hf).mono fun _ _ h => ⟨h.1, h.2 ▸ Q.refl _⟩

/-- What is under way, a build line, laid out. -/
structure EdU (B : Nat) (w : World) (s : Sm) (A : RpA) (y : EdA) (r : Rl) (own : List Bd) (no : Option Addr) (nc : Nat) : Prop where
  er : EdR w B y
  nd : ∀ k ∈ edB y, (Value.slice A.dd s.ds.length A.dc).ownBlock ≠ some k
  o : OwnD w B no nc own
  rl : rlAt s.rs r.1 = some r
  t : y.1.2.2.2.2 = ([], r.2.2.1, r.2.2.2)
theorem EdU.q {B : Nat} {w w' : World} {s : Sm} {A : RpA} {y : EdA} {r : Rl} {own : List Bd} {no : Option Addr} {nc : Nat} (h : EdU B w s A y r own no nc) (q : Q w w') : EdU B w' s A y r own no nc :=
  ⟨h.er.fr (P := fun _ => False) (Fr.of_q q) (fun _ _ h => h), h.nd, own_q h.o q, h.rl, h.t⟩

def rrC (r : Rl) (sv : Sl) : Array Value := #[.string ⟨r.1.toArray⟩, .string ⟨r.2.1.toArray⟩, .bool r.2.2.1, .string ⟨r.2.2.2.toArray⟩, .slice sv.1 sv.2.1 sv.2.2]
def btC (y : EdA) (r : Rl) : Array Value := #[y.v1, .string ⟨r.1.toArray⟩, y.v2, y.v3, y.v4]
set_option maxRecDepth 20000 in
set_option maxHeartbeats 8000000 in
theorem redge_any (B P : Nat) (s : Sm) (ps : List Pl) (A : RpA) (y : EdA) (r : Rl) (own : List Bd) (no : Option Addr) (nc : Nat) (w : World) (hun : s.un = some (.inr (.inr (y.1, r, own))))
    (h : Rp B w P s ps A 0 y.v1 (.string ⟨r.1.toArray⟩) y.v2 y.v3 y.v4 (.slice no own.length nc)) (hps : ps = s.ps) (hrs : A.rs.map Prod.fst = s.rs) (hu : EdU B w s A y r own no nc) (ok : SmOk s) (hm : SmMay s) (hB : B ≤ w.heap.size) :
    Calls Tryz.prog 48 #[.pointer (some ⟨P, 0, none⟩)] w (RL B P (ovL s) w) := by
  have hlr : A.rs.length ≤ 8 := by have := ok.lr; rw [← hrs, List.length_map] at this; exact this
  obtain ⟨k, sv, hix, hrk, hkl⟩ := rl_pair (rs := A.rs) (n := r.1) (r := r) (by rw [hrs]; exact hu.rl)
  have HFD := hide (fun w2 (q : Q w w2) => find_any P A.rs ⟨r.1.toArray⟩ A.ro A.rc w2 (h.q q).cells.c3 (h.q q).ro.rowR (by omega))
  rw [show (fun r' : Rl × Sl => r'.1.1 == bl ⟨r.1.toArray⟩) = (fun r' : Rl × Sl => r'.1.1 == r.1) from rfl, hix] at HFD
  have HPQ := hide (fun w2 (q : Q w w2) => h.q q)
  have HUQ := hide (fun w2 (q : Q w w2) => hu.q q)
  rcases h.ro.rowR with he | ⟨g, o, hro, hg, hcell⟩
  · rw [he] at hkl; simp at hkl
  have HSQ : Hid (∀ w2, Q w w2 → (w2.cell? ⟨P, 3, none⟩ = some (.slice (some ⟨g, o, none⟩) A.rs.length A.rc) ∧ w2.cell? ⟨P, 7, none⟩ = some (.string ⟨r.1.toArray⟩) ∧ w2.cell? ⟨g, o + k * 5, none⟩ = some (.string ⟨r.1.toArray⟩) ∧ w2.cell? ⟨g, o + k * 5 + 1, none⟩ = some (.string ⟨r.2.1.toArray⟩) ∧ w2.cell? ⟨g, o + k * 5 + 2, none⟩ = some (.bool r.2.2.1) ∧ w2.cell? ⟨g, o + k * 5 + 3, none⟩ = some (.string ⟨r.2.2.2.toArray⟩) ∧ w2.cell? ⟨g, o + k * 5 + 4, none⟩ = some (.slice sv.1 sv.2.1 sv.2.2))) := fun w2 q => by
    have hc := (h.q q).cells
    have h3 := hc.c3
    rw [hro] at h3
    refine ⟨h3, hc.c7, ?_, ?_, ?_, ?_, ?_⟩
    · exact (q.cell (p := ⟨g, o + k * 5, none⟩) hg).trans (hcell k 0 _ _ hrk (by decide) rfl)
    · exact (q.cell (p := ⟨g, o + k * 5 + 1, none⟩) hg).trans (hcell k 1 _ _ hrk (by decide) rfl)
    · exact (q.cell (p := ⟨g, o + k * 5 + 2, none⟩) hg).trans (hcell k 2 _ _ hrk (by decide) rfl)
    · exact (q.cell (p := ⟨g, o + k * 5 + 3, none⟩) hg).trans (hcell k 3 _ _ hrk (by decide) rfl)
    · exact (q.cell (p := ⟨g, o + k * 5 + 4, none⟩) hg).trans (hcell k 4 _ _ hrk (by decide) rfl)
  have hok := ok.un
  unfold UnOk at hok
  rw [hun] at hok
  obtain ⟨he16, hfo, hfi, hrc, hso⟩ := hok
  have HOV := hide (ov_edge hun)
  have HOK := hide ok
  have HM := hide hm
  have HPS := hide hps
  have HRS := hide hrs
  have HFO : Hid (Few y.1.1) := hfo
  have HFI : Hid (Few y.1.2.1) := hfi
  have HSO : Hid (scOk own = true) := hso
  have HRC : Hid (r.2.1.length ≤ 4096) := hrc
  have HBW : Hid (∀ w', Q w w' → Below B w w') := fun w' q => q.mono hB
  have hkI : (k : Int) < (A.rs.length : Int) := by omega
  have hkI0 : (0 : Int) ≤ (k : Int) := by omega
  have hS0 := HSQ.out w.drew (Q.refl w).drew
  clear h hu ok hm hps hrs hcell hun hix hrk hlr hkl hfo hfi hso hrc he16
  go_enter Tryz.func48, Tryz.ntmps48
  go_wp2_with fail
  go_cut [3] from 9 (fun v wc => ∃ RB, v = .pointer (some ⟨RB, 0, none⟩) ∧ Hid (Blk wc RB (rrC r sv) 92) ∧ Hid (Q w wc))
  case first =>
    obtain ⟨d3, d7, r0, r1, r2, r3, r4⟩ := HSQ.out w (Q.refl w)
    have a3 : ∀ ob, (w.alloc ob).cell? ⟨P, 3, none⟩ = some (.slice (some ⟨g, o, none⟩) A.rs.length A.rc) := fun ob => (HSQ.out _ ((Q.refl w).alloc ob)).1
    have a7 : ∀ ob, (w.alloc ob).cell? ⟨P, 7, none⟩ = some (.string ⟨r.1.toArray⟩) := fun ob => (HSQ.out _ ((Q.refl w).alloc ob)).2.1
    have s0 : ∀ ob, (w.alloc ob).cell? ⟨g, o + k * 5, none⟩ = some (.string ⟨r.1.toArray⟩) := fun ob => (HSQ.out _ ((Q.refl w).alloc ob)).2.2.1
    have s1 : ∀ ob, (w.alloc ob).cell? ⟨g, o + k * 5 + 1, none⟩ = some (.string ⟨r.2.1.toArray⟩) := fun ob => (HSQ.out _ ((Q.refl w).alloc ob)).2.2.2.1
    have s2 : ∀ ob, (w.alloc ob).cell? ⟨g, o + k * 5 + 2, none⟩ = some (.bool r.2.2.1) := fun ob => (HSQ.out _ ((Q.refl w).alloc ob)).2.2.2.2.1
    have s3 : ∀ ob, (w.alloc ob).cell? ⟨g, o + k * 5 + 3, none⟩ = some (.string ⟨r.2.2.2.toArray⟩) := fun ob => (HSQ.out _ ((Q.refl w).alloc ob)).2.2.2.2.2.1
    have s4 : ∀ ob, (w.alloc ob).cell? ⟨g, o + k * 5 + 4, none⟩ = some (.slice sv.1 sv.2.1 sv.2.2) := fun ob => (HSQ.out _ ((Q.refl w).alloc ob)).2.2.2.2.2.2
    clear hS0
    go_region_with (go_at_call 52; first | (refine (unhide HFD _ (Q.refl w).drew).mono ?_; rintro e w2 ⟨rfl, rfl⟩) | (refine (unhide HFD _ (((Q.refl w).alloc _).drew)).mono ?_; rintro e w2 ⟨rfl, rfl⟩))
    all_goals
      go_wp2_with fail
      go_meet
      case rel => exact ⟨_, rfl, Blk.drew (Blk.new w (rrC r sv) 92), ((Q.refl w).alloc _).drew⟩
  case rest =>
    obtain ⟨RB, rfl, HRB, HQ1⟩ := hcut
    have hp1 := unhide HPQ wc HQ1.out
    have hcc := hp1.cells
    have e6 : wc.cell? ⟨P, 6, none⟩ = some (.slice y.2.1.1 y.1.1.length y.2.1.2) := hcc.c6
    have e7 : wc.cell? ⟨P, 7, none⟩ = some (.string ⟨r.1.toArray⟩) := hcc.c7
    have e8 : wc.cell? ⟨P, 8, none⟩ = some (.slice y.2.2.1.1 y.1.2.1.length y.2.2.1.2) := hcc.c8
    have e9 : wc.cell? ⟨P, 9, none⟩ = some (.slice y.2.2.2.1.1 y.1.2.2.1.length y.2.2.2.1.2) := hcc.c9
    have e10 : wc.cell? ⟨P, 10, none⟩ = some (.slice y.2.2.2.2.1 y.1.2.2.2.1.length y.2.2.2.2.2) := hcc.c10
    have HBB := hide (Blk.new wc (btC y r) 58)
    have qa : Q wc (wc.alloc (.cells (btC y r) 58)) := (Q.refl wc).alloc _
    clear hp1 hS0 hcc
    go_upto_region 3 with fail
    change Code.wp _ _ _ _ (wc.alloc (.cells (btC y r) 58))
    generalize wc.alloc (.cells (btC y r) 58) = w2 at *
    generalize wc.heap.size = BB at HBB ⊢
    have HQ2 := hide (HQ1.out.trans qa)
    have HR2 := hide (HRB.out.q qa)
    clear e6 e7 e8 e9 e10 qa HRB HQ1
    have HJI := hide (fun w3 (q : Q w w3) => rjf_q y.1.2.1 y.2.2.1.1 y.2.2.1.2 w3 (OwnT.row (unhide HUQ w3 q).er.b) HFI.out)
    have HJO := hide (fun w3 (q : Q w w3) => rjf_q y.1.1 y.2.1.1 y.2.1.2 w3 (OwnT.row (unhide HUQ w3 q).er.a) HFO.out)
    have HSI := hide (fun w3 (q : Q w w3) => rSet_any own (mkB kIn) (mkB (Lib.join y.1.2.1 [32])) no nc w3 (unhide HUQ w3 q).o.row (read_own (unhide HUQ w3 q).o HSO.out).2.1 (Nat.le_trans (own_le (unhide HUQ w3 q).o).1 (own_le (unhide HUQ w3 q).o).2.1) (by decide) (by have := HFI.out.join 32; rw [← bl_size]; show (Lib.join y.1.2.1 [32]).length ≤ maxLen; unfold maxLen; omega))
    have HSX : Hid (SetSays own (mkB kIn) (mkB (Lib.join y.1.2.1 [32])) = fun w e w' => ∃ ao cap, e = .returned (.tuple #[.slice ao (inS y.1 own).length cap, .int .i64 (inE y.1 own)]) ∧ OwnD w' w.heap.size ao cap (inS y.1 own) ∧ Q w w') := rfl
    rw [HSX.out] at HSI
    clear HSX
    have HCL : Hid (∀ w3, Q w2 w3 → (w3.cell? ⟨P, 11, none⟩ = some (.slice no own.length nc) ∧ w3.cell? ⟨BB, 2, none⟩ = some (.slice y.2.2.1.1 y.1.2.1.length y.2.2.1.2))) := fun w3 q => ⟨(unhide HPQ w3 (HQ2.out.trans q)).cells.c11, ((unhide HBB).q q).cell 2 rfl⟩
    have hT0 := HCL.out _ (Q.refl w2).drew
    have qd0 : Q w w2.drew := HQ2.out.drew
    generalize hjx : (⟨(Lib.join y.1.2.1 [32]).toArray⟩ : ByteArray) = jI at HJI
    have HJX : Hid (mkB (Lib.join y.1.2.1 [32]) = jI) := hjx
    rw [HJX.out] at HSI
    clear hjx
    (go_region_held3 (fun w' => w'.cell? ⟨P, 11, none⟩ = some (.slice no own.length nc) ∧ w'.cell? ⟨BB, 2, none⟩ = some (.slice y.2.2.1.1 y.1.2.1.length y.2.2.1.2))
      (first | exact hT0 | exact hT1 | exact hT2)
      (first
        | (go_at_call 89; refine (unhide HJI _ qd0).mono ?_; rintro e w3 ⟨rfl, q3⟩; have qe3 : Q w2 w3 := Below.trans (Q.refl w2).drew q3; have hT1 := HCL.out _ qe3)
        | (go_at_call 88; refine (unhide HSI _ (HQ2.out.trans qe3)).mono ?_; rintro e w4 ⟨ai, ci, rfl, own4, q4⟩; have qe4 : Q w2 w4 := qe3.trans q4; have hT2 := HCL.out _ qe4)))
    have hE4 := HQ2.out.trans qe4
    have HOI := hide (own_low own4 (Nat.le_refl _))
    have HO4 : Hid (OwnD w4 0 ai ci (inS y.1 own)) := own_low own4 (Nat.zero_le _)
    have HRDI : Hid (∀ w5, Q w4 w5 → Read w5 ai ci (inS y.1 own)) := fun w5 q => own_read (own_q (unhide HO4) q)
    have HRDO : Hid (∀ w5, Q w w5 → Read w5 A.oo A.oc s.bs) := fun w5 q => read_own (unhide HPQ w5 q).ro.o HOK.out.bs
    have HEVI : Hid (∀ w5, Q w4 w5 → Calls Tryz.prog 87 #[.string ⟨r.2.1.toArray⟩, .slice ai (inS y.1 own).length ci, .slice A.oo s.bs.length A.oc] w5 fun e w' => e = .returned (.tuple #[.string ⟨(evS r.2.1 (inS y.1 own) s.bs).toArray⟩, .int .i64 (evE r.2.1 (inS y.1 own) s.bs)]) ∧ Q w5 w') := fun w5 q =>
      rev_any ⟨r.2.1.toArray⟩ (inS y.1 own) s.bs ai A.oo ci A.oc w5 (by rw [← bl_size]; show r.2.1.length ≤ maxLen; have := HRC.out; unfold maxLen; omega) (HRDI.out w5 q) (HRDO.out w5 (hE4.trans q))
    have HSO2 : Hid (∀ w5, Q w4 w5 → Calls Tryz.prog 88 #[.slice ai (inS y.1 own).length ci, .string ⟨#[111, 117, 116]⟩, .string (mkB (Lib.join y.1.1 [32]))] w5 fun e w' => ∃ ao cap, e = .returned (.tuple #[.slice ao (ouS y.1 own).length cap, .int .i64 (ouE y.1 own)]) ∧ OwnD w' w5.heap.size ao cap (ouS y.1 own) ∧ Q w5 w') := fun w5 q =>
      rSet_any (inS y.1 own) (mkB kOut) (mkB (Lib.join y.1.1 [32])) ai ci w5 (HRDI.out w5 q).1 (HRDI.out w5 q).2.1 (Nat.le_trans (HRDI.out w5 q).2.2.1 (HRDI.out w5 q).2.2.2) (by decide) (by have := HFO.out.join 32; rw [← bl_size]; show (Lib.join y.1.1 [32]).length ≤ maxLen; unfold maxLen; omega)
    have HCE : Hid (∀ w5, Q w4 w5 → (w5.cell? ⟨RB, 1, none⟩ = some (.string ⟨r.2.1.toArray⟩) ∧ w5.cell? ⟨P, 4, none⟩ = some (.slice A.oo s.bs.length A.oc))) := fun w5 q => ⟨((unhide HR2).q (qe4.trans q)).cell 1 rfl, (unhide HPQ w5 (hE4.trans q)).cells.c4⟩
    have HCB : Hid (∀ w5, Q w4 w5 → Blk w5 BB (btC y r) 58 ∧ Blk w5 RB (rrC r sv) 92) := fun w5 q => ⟨(unhide HBB).q (qe4.trans q), (unhide HR2).q (qe4.trans q)⟩
    have HQ4 := hide hE4
    have HERR : Hid (∀ {n : Int} (w5 : World), cmL y.1 r own s.bs = .error n → Q w4 w5 → RL B P (ovL s) w (.returned (.int .i64 n)) w5) := fun {n} w5 hn q => RL.err (by rw [HOV.out, hn]) (HBW.out w5 (hE4.trans q))
    clear own4 HOI HCL hT0 hT1 hT2 HJI HSI qe3 qe4 q3 q4 qd0 HRDI HRDO HO4 HR2 HBB HQ2 hE4 HFD HSQ
    have HC1 := hide (fun h => cm_in (e := y.1) (r := r) (own := own) (ou := s.bs) h)
    have HC2 := hide (fun h h2 => cm_out (e := y.1) (r := r) (own := own) (ou := s.bs) h h2)
    have HC3 := hide (fun h h2 h3 => cm_bad (e := y.1) (r := r) (own := own) (ou := s.bs) h h2 h3)
    have HC4 := hide (fun h h2 h3 h4 => cm_ok (e := y.1) (r := r) (own := own) (ou := s.bs) h h2 h3 h4)
    by_cases hi0 : inE y.1 own = 0
    case neg =>
      by_cases h401 : inE y.1 own = 401
      · have HX := hide (HERR.out w4 (n := 801) (by rw [unhide HC1 hi0, h401]; rfl) (Q.refl _))
        rw [h401]
        clear HC1 HC2 HC3 HC4 hi0 h401 HERR
        go_wp2_with fail
        go_ret
        exact unhide HX
      · have HX := hide (fun w5 q => HERR.out w5 (n := 800) (by rw [unhide HC1 hi0, rf_form hi0 h401]) q)
        have g1 : (inE y.1 own == 0) = false := by simpa using hi0
        have g2 : (inE y.1 own == 401) = false := by simpa using h401
        have g3 : (inE y.1 own != 0) = true := by simpa using hi0
        clear HC1 HC2 HC3 HC4 hi0 h401 HERR HSO2
        generalize inE y.1 own = ie at *
        generalize (⟨(evS r.2.1 (inS y.1 own) s.bs).toArray⟩ : ByteArray) = ev at *
        generalize evE r.2.1 (inS y.1 own) s.bs = ee at *
        generalize inS y.1 own = is at *
        generalize (⟨r.2.1.toArray⟩ : ByteArray) = rc at *
        go_upto_region 8 with fail
        have hT0 := HCE.out w4.drew (Q.refl w4).drew
        (go_region_held3 (fun w' => w'.cell? ⟨RB, 1, none⟩ = some (.string rc) ∧ w'.cell? ⟨P, 4, none⟩ = some (.slice A.oo s.bs.length A.oc))
          (first | exact hT0 | exact hT1)
          (first | (go_at_call 87; refine (unhide HEVI _ (Q.refl w4).drew).mono ?_; rintro e w5 ⟨rfl, q5⟩; have qe5 : Q w4 w5 := Below.trans (Q.refl w4).drew q5; have hT1 := HCE.out _ qe5)))
        clear hT0 hT1 HCE HEVI
        go_wp2_with fail
        go_ret
        exact unhide HX w5 qe5
    case pos =>
      have b0 : w4.cell? ⟨BB, 0, none⟩ = some (.slice y.2.1.1 y.1.1.length y.2.1.2) := ((HCB.out w4 (Q.refl _)).1).cell 0 rfl
      generalize hjo : (⟨(Lib.join y.1.1 [32]).toArray⟩ : ByteArray) = jO at HJO
      have HJY : Hid (mkB (Lib.join y.1.1 [32]) = jO) := hjo
      rw [HJY.out] at HSO2
      have HI0 := hide hi0
      rw [hi0]
      clear hjo hi0 HC1 HEVI
      go_upto_region 6 with (first | (go_at_call 89; refine (unhide HJO _ HQ4.out).mono ?_; rintro e w5 ⟨rfl, q5⟩) | (go_at_call 88; refine (unhide HSO2 _ q5).mono ?_; rintro e w6 ⟨a6, c6, rfl, own6, q6⟩))
      have q46 := q5.trans q6
      have HO6 : Hid (OwnD w6 0 a6 c6 (ouS y.1 own)) := own_low own6 (Nat.zero_le _)
      have HQ6 := hide (HQ4.out.trans q46)
      have HRDO2 : Hid (∀ w5, Q w w5 → Read w5 A.oo A.oc s.bs) := fun w5 q => read_own (unhide HPQ w5 q).ro.o HOK.out.bs
      have HEVO : Hid (∀ w7, Q w6 w7 → Calls Tryz.prog 87 #[.string ⟨r.2.1.toArray⟩, .slice a6 (ouS y.1 own).length c6, .slice A.oo s.bs.length A.oc] w7 fun e w' => e = .returned (.tuple #[.string ⟨(evS r.2.1 (ouS y.1 own) s.bs).toArray⟩, .int .i64 (evE r.2.1 (ouS y.1 own) s.bs)]) ∧ Q w7 w') := fun w7 q =>
        rev_any ⟨r.2.1.toArray⟩ (ouS y.1 own) s.bs a6 A.oo c6 A.oc w7 (by rw [← bl_size]; show r.2.1.length ≤ maxLen; have := HRC.out; unfold maxLen; omega) (own_read (own_q (unhide HO6) q)) (HRDO2.out w7 (HQ6.out.trans q))
      have HCE6 : Hid (∀ w7, Q w6 w7 → (w7.cell? ⟨RB, 1, none⟩ = some (.string ⟨r.2.1.toArray⟩) ∧ w7.cell? ⟨P, 4, none⟩ = some (.slice A.oo s.bs.length A.oc))) := fun w7 q => HCE.out w7 (q46.trans q)
      have HCB6 : Hid (∀ w7, Q w6 w7 → Blk w7 BB (btC y r) 58 ∧ Blk w7 RB (rrC r sv) 92) := fun w7 q => HCB.out w7 (q46.trans q)
      have HERR6 : Hid (∀ {n : Int} (w7 : World), cmL y.1 r own s.bs = .error n → Q w6 w7 → RL B P (ovL s) w (.returned (.int .i64 n)) w7) := fun {n} w7 hn q => HERR.out w7 hn (q46.trans q)
      clear own6 HSO2 HJO HO6 HRDO2 HCE HCB HERR b0 q5 q6 q46 HJY
      by_cases ho0 : ouE y.1 own = 0
      case neg =>
        by_cases h401 : ouE y.1 own = 401
        · have HX := hide (HERR6.out w6 (n := 801) (by rw [unhide HC2 HI0.out ho0, h401]; rfl) (Q.refl _))
          rw [h401]
          clear HC2 HC3 HC4 ho0 h401 HERR6
          go_wp2_with fail
          go_ret
          exact unhide HX
        · have HX := hide (fun w5 q => HERR6.out w5 (n := 800) (by rw [unhide HC2 HI0.out ho0, rf_form ho0 h401]) q)
          have g1 : (ouE y.1 own == 0) = false := by simpa using ho0
          have g2 : (ouE y.1 own == 401) = false := by simpa using h401
          have g3 : (ouE y.1 own != 0) = true := by simpa using ho0
          clear HC2 HC3 HC4 ho0 h401 HERR6
          generalize ouE y.1 own = ie at *
          generalize (⟨(evS r.2.1 (ouS y.1 own) s.bs).toArray⟩ : ByteArray) = ev at *
          generalize evE r.2.1 (ouS y.1 own) s.bs = ee at *
          generalize ouS y.1 own = is at *
          generalize (⟨r.2.1.toArray⟩ : ByteArray) = rc at *
          go_upto_region 8 with fail
          have hT0 := HCE6.out w6.drew (Q.refl w6).drew
          (go_region_held3 (fun w' => w'.cell? ⟨RB, 1, none⟩ = some (.string rc) ∧ w'.cell? ⟨P, 4, none⟩ = some (.slice A.oo s.bs.length A.oc))
            (first | exact hT0 | exact hT1)
            (first | (go_at_call 87; refine (unhide HEVO _ (Q.refl w6).drew).mono ?_; rintro e w7 ⟨rfl, q7⟩; have qe7 : Q w6 w7 := Below.trans (Q.refl w6).drew q7; have hT1 := HCE6.out _ qe7)))
          clear hT0 hT1 HCE6 HEVO
          go_wp2_with fail
          go_ret
          exact unhide HX w7 qe7
      case pos =>
        have HO0 := hide ho0
        rw [ho0]
        clear ho0 HC2
        go_upto_region 8 with fail
        have hT0 := HCE6.out w6.drew (Q.refl w6).drew
        (go_region_held3 (fun w' => w'.cell? ⟨RB, 1, none⟩ = some (.string ⟨r.2.1.toArray⟩) ∧ w'.cell? ⟨P, 4, none⟩ = some (.slice A.oo s.bs.length A.oc))
          (first | exact hT0 | exact hT1)
          (first | (go_at_call 87; refine (unhide HEVO _ (Q.refl w6).drew).mono ?_; rintro e w7 ⟨rfl, q7⟩; have qe7 : Q w6 w7 := Below.trans (Q.refl w6).drew q7; have hT1 := HCE6.out _ qe7)))
        clear hT0 hT1 HCE6 HEVO
        by_cases he0 : evE r.2.1 (ouS y.1 own) s.bs = 0
        case neg =>
          have HX := hide (HERR6.out w7 (n := 800) (unhide HC3 HI0.out HO0.out (Or.inl he0)) qe7)
          have g3 : (evE r.2.1 (ouS y.1 own) s.bs != 0) = true := by simpa using he0
          have g4 : (evE r.2.1 (ouS y.1 own) s.bs == 0) = false := by simpa using he0
          clear HC3 HC4 HERR6 he0
          generalize (⟨(evS r.2.1 (ouS y.1 own) s.bs).toArray⟩ : ByteArray) = ev at *
          generalize evE r.2.1 (ouS y.1 own) s.bs = ee at *
          go_wp2_with fail
          go_ret
          exact unhide HX
        case pos =>
          have HE0 := hide he0
          rw [he0]
          clear he0
          by_cases hv0 : evS r.2.1 (ouS y.1 own) s.bs = []
          · have HX := hide (HERR6.out w7 (n := 800) (unhide HC3 HI0.out HO0.out (Or.inr hv0)) qe7)
            have g1 : (⟨(evS r.2.1 (ouS y.1 own) s.bs).toArray⟩ : ByteArray).toList.isEmpty = true := is_emp hv0
            clear HC3 HC4 HERR6 hv0
            generalize (⟨(evS r.2.1 (ouS y.1 own) s.bs).toArray⟩ : ByteArray) = ev at *
            go_wp2_with fail
            go_ret
            exact unhide HX
          · have g1 : (⟨(evS r.2.1 (ouS y.1 own) s.bs).toArray⟩ : ByteArray).toList.isEmpty = false := no_emp hv0
            have hcm := unhide HC4 HI0.out HO0.out HE0.out hv0
            have hovl : ovL s = .ok ⟨s.es ++ [withC y.1 (evS r.2.1 (ouS y.1 own) s.bs)], s.ps, s.ds, s.rs, s.bs, none⟩ := by rw [HOV.out, hcm]
            have HVL := hide hovl
            have hq7 := HQ6.out.trans qe7
            have hp7 := unhide HPQ w7 hq7
            obtain ⟨i0, hi, hz0, hz1, hz2⟩ := info_parts Tryz.infoEd
            have HP7 := hide hp7
            have HU7 := hide (unhide HUQ w7 hq7)
            have HES : Hid (A.es.length ≤ 16) := by show _ ≤ _; have h1 := hp7.ro.em; have h2 := congrArg List.length h1; rw [List.length_map] at h2; rw [h2]; exact HOK.out.le
            have hes := HES.out
            have hB7 : B ≤ w7.heap.size := Nat.le_trans hB hq7.size
            have HCB7 := hide (fun W (q : Q w7 W) => HCB6.out W (qe7.trans q))
            have HSS : Hid (∀ w', Q w7 w' → (w'.cell? ⟨P, 0, none⟩ = some (.slice A.eo A.es.length A.ec) ∧ w'.cell? ⟨BB, 0, none⟩ = some (.slice y.2.1.1 y.1.1.length y.2.1.2) ∧ w'.cell? ⟨BB, 2, none⟩ = some (.slice y.2.2.1.1 y.1.2.1.length y.2.2.1.2) ∧ w'.cell? ⟨BB, 3, none⟩ = some (.slice y.2.2.2.1.1 y.1.2.2.1.length y.2.2.2.1.2) ∧ w'.cell? ⟨BB, 4, none⟩ = some (.slice y.2.2.2.2.1 y.1.2.2.2.1.length y.2.2.2.2.2) ∧ w'.cell? ⟨RB, 2, none⟩ = some (.bool r.2.2.1) ∧ w'.cell? ⟨RB, 3, none⟩ = some (.string ⟨r.2.2.2.toArray⟩))) := fun w' q => by
              obtain ⟨k1, k2⟩ := unhide HCB7 w' q
              exact ⟨((unhide HP7).q q).cells.c0, k1.cell 0 rfl, k1.cell 2 rfl, k1.cell 3 rfl, k1.cell 4 rfl, k2.cell 2 rfl, k2.cell 3 rfl⟩
            have HEVC : Hid (ev (((withC y.1 (evS r.2.1 (ouS y.1 own) s.bs), y.2) : EdA)) = [.slice y.2.1.1 y.1.1.length y.2.1.2, .slice y.2.2.1.1 y.1.2.1.length y.2.2.1.2, .slice y.2.2.2.1.1 y.1.2.2.1.length y.2.2.2.1.2, .slice y.2.2.2.2.1 y.1.2.2.2.1.length y.2.2.2.2.2, .string ⟨(evS r.2.1 (ouS y.1 own) s.bs).toArray⟩, .bool r.2.2.1, .string ⟨r.2.2.2.toArray⟩]) := by
              show _ = _
              have ht := (unhide HU7).t
              have h5 : y.1.2.2.2.2.2.1 = r.2.2.1 := by rw [ht]
              have h6 : y.1.2.2.2.2.2.2 = r.2.2.2 := by rw [ht]
              unfold ev EdA.v1 EdA.v2 EdA.v3 EdA.v4 withC
              rw [h5, h6]
            have HG8 : Hid (∀ W w8, Q w7 W → W.grownBy w8 (Value.slice A.eo A.es.length A.ec).ownBlock → (w8.cell? ⟨P, 0, none⟩ = some (.slice A.eo A.es.length A.ec) ∧ w8.cell? ⟨BB, 0, none⟩ = some (.slice y.2.1.1 y.1.1.length y.2.1.2) ∧ w8.cell? ⟨BB, 2, none⟩ = some (.slice y.2.2.1.1 y.1.2.1.length y.2.2.1.2) ∧ w8.cell? ⟨BB, 3, none⟩ = some (.slice y.2.2.2.1.1 y.1.2.2.1.length y.2.2.2.1.2) ∧ w8.cell? ⟨BB, 4, none⟩ = some (.slice y.2.2.2.2.1 y.1.2.2.2.1.length y.2.2.2.2.2) ∧ w8.cell? ⟨RB, 2, none⟩ = some (.bool r.2.2.1) ∧ w8.cell? ⟨RB, 3, none⟩ = some (.string ⟨r.2.2.2.toArray⟩)) ∧ w8.frozen? ⟨P, 0, none⟩ = false) := fun W w8 q g8 => by
              obtain ⟨k1, k2⟩ := unhide HCB7 W q
              have hp := (unhide HP7).q q
              have b1 := k1.fr (Fr.grown g8) (fun hk => k1.row hp.ro.e (by decide) BB hk rfl)
              have b2 := k2.fr (Fr.grown g8) (fun hk => k2.row hp.ro.e (by decide) RB hk rfl)
              have bp := hp.blk.fr (Fr.grown g8) (fun hk => hp.blk.row hp.ro.e (by decide) P hk rfl)
              exact ⟨⟨bp.cell 0 rfl, b1.cell 0 rfl, b1.cell 2 rfl, b1.cell 3 rfl, b1.cell 4 rfl, b2.cell 2 rfl, b2.cell 3 rfl⟩, bp.frz 0⟩
            have HFIN : Hid (∀ W w8 ao8 cp8, Q w7 W → W.grownBy w8 (Value.slice A.eo A.es.length A.ec).ownBlock → w8.ownsRow B 65 7 (.slice ao8 (A.es.length + 1) cp8) (A.es.length + 1) (lay ev A.es ++ [.slice y.2.1.1 y.1.1.length y.2.1.2, .slice y.2.2.1.1 y.1.2.1.length y.2.2.1.2, .slice y.2.2.2.1.1 y.1.2.2.1.length y.2.2.2.1.2, .slice y.2.2.2.2.1 y.1.2.2.2.1.length y.2.2.2.2.2, .string ⟨(evS r.2.1 (ouS y.1 own) s.bs).toArray⟩, .bool r.2.2.1, .string ⟨r.2.2.2.toArray⟩]) → RL B P (ovL s) w (.returned (.int .i64 0)) (w8.setCell ⟨P, 0, none⟩ (.slice ao8 (A.es.length + 1) cp8))) := fun W w8 ao8 cp8 q g8 o8 => by
              have hp := (unhide HP7).q q
              have hu := (unhide HU7).q q
              rw [← unhide HEVC] at o8
              refine RL.ok (unhide HVL) ?_ (edge_rs (y := (((withC y.1 (evS r.2.1 (ouS y.1 own) s.bs), y.2) : EdA))) hp HPS.out HRS.out ⟨hu.er.a, hu.er.b, hu.er.c, hu.er.d⟩ (fun k hk => hu.nd k hk) (Fr.grown g8) o8 (ok_ov (unhide HVL) HOK.out) (ov_may (unhide HVL) HM.out).1)
              have hf := ((Fr.grown g8).mono (fun b hb => Or.inr hb : ∀ b, _ → b = P ∨ (Value.slice A.eo A.es.length A.ec).ownBlock = some b)).trans ((Fr.set w8 P 0 (.slice ao8 (A.es.length + 1) cp8)).mono (fun b hb => Or.inl hb))
              have hqW := hq7.trans q
              exact Below.trans (hqW.mono hB) (hf.below (Nat.le_trans hB hqW.size) (fun b hb => hb.elim (fun e => by rw [e]; exact hp.lo) (fun e => (hp.ro.e.lt b e).1)))
            have HONE : Hid (∀ u ∈ ([.slice y.2.1.1 y.1.1.length y.2.1.2, .slice y.2.2.1.1 y.1.2.1.length y.2.2.1.2, .slice y.2.2.2.1.1 y.1.2.2.1.length y.2.2.2.1.2, .slice y.2.2.2.2.1 y.1.2.2.2.1.length y.2.2.2.2.2, .string ⟨(evS r.2.1 (ouS y.1 own) s.bs).toArray⟩, .bool r.2.2.1, .string ⟨r.2.2.2.toArray⟩] : List Value), u.oneCell' = true) := by
              intro u hu
              simp only [List.mem_cons, List.not_mem_nil, or_false] at hu
              rcases hu with rfl | rfl | rfl | rfl | rfl | rfl | rfl <;> rfl
            clear HC3 HC4 HERR6 hv0 hcm hovl hp7 HEVC
            have HS6 : Hid (∀ W, Q w7 W → (fun W' => W'.cell? ⟨BB, 0, none⟩ = some (.slice y.2.1.1 y.1.1.length y.2.1.2) ∧ W'.cell? ⟨BB, 2, none⟩ = some (.slice y.2.2.1.1 y.1.2.1.length y.2.2.1.2) ∧ W'.cell? ⟨BB, 3, none⟩ = some (.slice y.2.2.2.1.1 y.1.2.2.1.length y.2.2.2.1.2) ∧ W'.cell? ⟨BB, 4, none⟩ = some (.slice y.2.2.2.2.1 y.1.2.2.2.1.length y.2.2.2.2.2) ∧ W'.cell? ⟨RB, 2, none⟩ = some (.bool r.2.2.1) ∧ W'.cell? ⟨RB, 3, none⟩ = some (.string ⟨r.2.2.2.toArray⟩)) W) := fun W q => (HSS.out W q).2
            have HS9 : Hid (∀ W w8 v, Q w7 W → W.grownBy w8 (Value.slice A.eo A.es.length A.ec).ownBlock → (fun W' => W'.cell? ⟨BB, 0, none⟩ = some (.slice y.2.1.1 y.1.1.length y.2.1.2) ∧ W'.cell? ⟨BB, 2, none⟩ = some (.slice y.2.2.1.1 y.1.2.1.length y.2.2.1.2) ∧ W'.cell? ⟨BB, 3, none⟩ = some (.slice y.2.2.2.1.1 y.1.2.2.1.length y.2.2.2.1.2) ∧ W'.cell? ⟨BB, 4, none⟩ = some (.slice y.2.2.2.2.1 y.1.2.2.2.1.length y.2.2.2.2.2) ∧ W'.cell? ⟨RB, 2, none⟩ = some (.bool r.2.2.1) ∧ W'.cell? ⟨RB, 3, none⟩ = some (.string ⟨r.2.2.2.toArray⟩)) (w8.setCell ⟨P, 0, none⟩ v)) := fun W w8 v q g8 => by
              obtain ⟨k1, k2⟩ := unhide HCB7 W q
              have hp := (unhide HP7).q q
              have b1 := (k1.fr (Fr.grown g8) (fun hk => k1.row hp.ro.e (by decide) BB hk rfl)).other (k1.ne hp.blk (by decide)) 0 v
              have b2 := (k2.fr (Fr.grown g8) (fun hk => k2.row hp.ro.e (by decide) RB hk rfl)).other (k2.ne hp.blk (by decide)) 0 v
              exact ⟨b1.cell 0 rfl, b1.cell 2 rfl, b1.cell 3 rfl, b1.cell 4 rfl, b2.cell 2 rfl, b2.cell 3 rfl⟩
            generalize hcx : (⟨(evS r.2.1 (ouS y.1 own) s.bs).toArray⟩ : ByteArray) = evB at *
            generalize hpx : (⟨r.2.2.2.toArray⟩ : ByteArray) = px at *
            clear hcx hpx
            have HOE : Hid (∀ W, Q w7 W → W.ownsRow B 65 7 (.slice A.eo A.es.length A.ec) A.es.length (lay ev A.es)) := fun W q => own_q (unhide HP7).ro.e q
            go_upto_region 11 with fail
            clear HPQ HUQ HOV HOK HM HPS HRS HFO HFI HSO HRC HBW hkI hkI0 HQ4 HJX HI0 HQ6 HCB6 HO0 HE0 HVL HU7 HES HCB7 g1 HP7
            have u0 := (HSS.out w7 (Q.refl w7)).1
            have v0 : ∀ ob, (w7.alloc ob).cell? ⟨P, 0, none⟩ = some (.slice A.eo A.es.length A.ec) := fun ob => (HSS.out _ ((Q.refl w7).alloc ob)).1
            have v1 : ∀ ob, (w7.drew.alloc ob).cell? ⟨P, 0, none⟩ = some (.slice A.eo A.es.length A.ec) := fun ob => (HSS.out _ ((Q.refl w7).drew.alloc ob)).1
            refine wp_region_held_drew (S := fun w' => w'.cell? ⟨BB, 0, none⟩ = some (.slice y.2.1.1 y.1.1.length y.2.1.2) ∧ w'.cell? ⟨BB, 2, none⟩ = some (.slice y.2.2.1.1 y.1.2.1.length y.2.2.1.2) ∧ w'.cell? ⟨BB, 3, none⟩ = some (.slice y.2.2.2.1.1 y.1.2.2.1.length y.2.2.2.1.2) ∧ w'.cell? ⟨BB, 4, none⟩ = some (.slice y.2.2.2.2.1 y.1.2.2.2.1.length y.2.2.2.2.2) ∧ w'.cell? ⟨RB, 2, none⟩ = some (.bool r.2.2.1) ∧ w'.cell? ⟨RB, 3, none⟩ = some (.string px)) (by kernel_rfl) (HS6.out _ (Q.refl w7).drew) (fun hHeld => ?_)
            refine wpAnyH_take (i := 0) (v := ?_) rfl (by kernel_rfl) (by kernel_rfl) (by kernel_rfl) (fun _ _ _ h => h) (Or.inl ⟨by rfl, ?_⟩) (by assumption) ?_
            rotate_left
            · (intro w' hSw; (try dsimp only at hSw); go_simp; try with_reducible rfl)
            refine wpAnyH_take (i := 1) (v := ?_) rfl (by kernel_rfl) (by kernel_rfl) (by kernel_rfl) (fun _ _ _ h => h) (Or.inl ⟨by rfl, ?_⟩) (by assumption) ?_
            rotate_left
            · (intro w' hSw; (try dsimp only at hSw); go_simp; try with_reducible rfl)
            refine wpAnyH_take (i := 2) (v := ?_) rfl (by kernel_rfl) (by kernel_rfl) (by kernel_rfl) (fun _ _ _ h => h) (Or.inl ⟨by rfl, ?_⟩) (by assumption) ?_
            rotate_left
            · (intro w' hSw; (try dsimp only at hSw); go_simp; try with_reducible rfl)
            refine wpAnyH_take (i := 3) (v := ?_) rfl (by kernel_rfl) (by kernel_rfl) (by kernel_rfl) (fun _ _ _ h => h) (Or.inl ⟨by rfl, ?_⟩) (by assumption) ?_
            rotate_left
            · (intro w' hSw; (try dsimp only at hSw); go_simp; try with_reducible rfl)
            refine wpAnyH_take (i := 4) (v := ?_) rfl (by kernel_rfl) (by kernel_rfl) (by kernel_rfl) (fun _ _ _ h => h) (Or.inl ⟨by rfl, ?_⟩) (by assumption) ?_
            rotate_left
            · (intro w' hSw; (try dsimp only at hSw); go_simp; try with_reducible rfl)
            refine wpAnyH_take (i := 6) (v := ?_) rfl (by kernel_rfl) (by kernel_rfl) (by kernel_rfl) (fun _ _ _ h => h) (Or.inl ⟨by rfl, ?_⟩) (by assumption) ?_
            rotate_left
            · (intro w' hSw; (try dsimp only at hSw); go_simp; try with_reducible rfl)
            refine wpAnyH_take (i := 7) (v := ?_) rfl (by kernel_rfl) (by kernel_rfl) (by kernel_rfl) (fun _ _ _ h => h) (Or.inl ⟨by rfl, ?_⟩) (by assumption) ?_
            rotate_left
            · (intro w' hSw; (try dsimp only at hSw); go_simp; try with_reducible rfl)
            refine wpAnyH_take (i := 8) (v := ?_) rfl (by kernel_rfl) (by kernel_rfl) (by kernel_rfl) (fun _ _ _ h => h) (Or.inl ⟨by rfl, ?_⟩) (by assumption) ?_
            rotate_left
            · (intro w' hSw; (try dsimp only at hSw); go_simp; try with_reducible rfl)
            refine wpAnyH_take (i := 9) (v := ?_) rfl (by kernel_rfl) (by kernel_rfl) (by kernel_rfl) (fun _ _ _ h => h) (Or.inl ⟨by rfl, ?_⟩) (by assumption) ?_
            rotate_left
            · (intro w' hSw; (try dsimp only at hSw); go_simp; try with_reducible rfl)
            refine wpAnyH_take (i := 10) (v := ?_) rfl (by kernel_rfl) (by kernel_rfl) (by kernel_rfl) (fun _ _ _ h => h) (Or.inl ⟨by rfl, ?_⟩) (by assumption) ?_
            rotate_left
            · (intro w' hSw; (try dsimp only at hSw); go_simp; try with_reducible rfl)
            refine wpAnyH_take (i := 11) (v := ?_) rfl (by kernel_rfl) (by kernel_rfl) (by kernel_rfl) (fun _ _ _ h => h) (Or.inl ⟨by rfl, ?_⟩) (by assumption) ?_
            rotate_left
            · (intro w' hSw; (try dsimp only at hSw); go_simp; try with_reducible rfl)
            refine wpAnyH_take (i := 12) (v := ?_) rfl (by kernel_rfl) (by kernel_rfl) (by kernel_rfl) (fun _ _ _ h => h) (Or.inl ⟨by rfl, ?_⟩) (by assumption) ?_
            rotate_left
            · (intro w' hSw; (try dsimp only at hSw); go_simp; try with_reducible rfl)
            refine wpAnyH_take (i := 13) (v := ?_) rfl (by kernel_rfl) (by kernel_rfl) (by kernel_rfl) (fun _ _ _ h => h) (Or.inl ⟨by rfl, ?_⟩) (by assumption) ?_
            rotate_left
            · (intro w' hSw; (try dsimp only at hSw); go_simp; try with_reducible rfl)
            refine wpAnyH_take (i := 14) (v := ?_) rfl (by kernel_rfl) (by kernel_rfl) (by kernel_rfl) (fun _ _ _ h => h) (Or.inl ⟨by rfl, ?_⟩) (by assumption) ?_
            rotate_left
            · (intro w' hSw; (try dsimp only at hSw); go_simp; try with_reducible rfl)
            refine wpAnyH_take (i := 15) (v := ?_) rfl (by kernel_rfl) (by kernel_rfl) (by kernel_rfl) (fun _ _ _ h => h) (Or.inl ⟨by rfl, ?_⟩) (by assumption) ?_
            rotate_left
            · (intro w' hSw; (try dsimp only at hSw); go_simp; try with_reducible rfl)
            refine wpAnyH_take (i := 16) (v := ?_) rfl (by kernel_rfl) (by kernel_rfl) (by kernel_rfl) (fun _ _ _ h => h) (Or.inl ⟨by rfl, ?_⟩) (by assumption) ?_
            rotate_left
            · (intro w' hSw; (try dsimp only at hSw); go_simp; try with_reducible rfl)
            refine wpAnyH_take (i := 17) (v := ?_) rfl (by kernel_rfl) (by kernel_rfl) (by kernel_rfl) (fun _ _ _ h => h) (Or.inl ⟨by rfl, ?_⟩) (by assumption) ?_
            rotate_left
            · (intro w' hSw; (try dsimp only at hSw); go_simp; try with_reducible rfl)
            refine wpAnyH_take (i := 18) (v := ?_) rfl (by kernel_rfl) (by kernel_rfl) (by kernel_rfl) (fun _ _ _ h => h) (Or.inl ⟨by rfl, ?_⟩) (by assumption) ?_
            rotate_left
            · (intro w' hSw; (try dsimp only at hSw); go_simp; try with_reducible rfl)
            refine wpAnyH_take (i := 19) (v := ?_) rfl (by kernel_rfl) (by kernel_rfl) (by kernel_rfl) (fun _ _ _ h => h) (Or.inl ⟨by rfl, ?_⟩) (by assumption) ?_
            rotate_left
            · (intro w' hSw; (try dsimp only at hSw); go_simp; try with_reducible rfl)
            refine wpAnyH_ready (rs := [5, 20]) (by kernel_rfl) (by simp) ?_
            refine AllReadyH.cons rfl (fun K hK => ?_) (AllReadyH.cons rfl (fun K hK => ?_) AllReadyH.nil)
            · go_simp
              refine hK.out _ _ (HS6.out _ (Q.refl w7).drew) (fun hHeld2 => ?_)
              clear hK
              refine wpAnyH_ready (rs := [20]) (by kernel_rfl) (by simp) ?_
              refine AllReadyH.cons rfl (fun K2 hK2 => ?_) AllReadyH.nil
              go_simp
              refine hK2.out _ _ (HS6.out _ ((Q.refl w7).drew.alloc _)) (fun hHeld3 => ?_)
              clear hK2
              refine wpAnyH_ready (rs := [21]) (by kernel_rfl) (by simp) ?_
              refine AllReadyH.cons rfl (fun K3 hK3 => ?_) AllReadyH.nil
              refine step_row rfl (.tmp 75) (.tmp 90) 22 rfl B 65 i0 _ 7 136 Tryz.underlying22 hi hz0 hz1 hz2 rfl (by decide) A.eo A.es.length A.ec (lay ev A.es) (by simp [Act.eval]) (HOE.out _ ((Q.refl w7).drew.alloc _)) (some ⟨w7.heap.size, 0, none⟩) 1 1 [.slice y.2.1.1 y.1.1.length y.2.1.2, .slice y.2.2.1.1 y.1.2.1.length y.2.2.1.2, .slice y.2.2.2.1.1 y.1.2.2.1.length y.2.2.2.1.2, .slice y.2.2.2.2.1 y.1.2.2.2.1.length y.2.2.2.2.2, .string evB, .bool r.2.2.1, .string px] (by simp [Act.eval]) (SrcRow.new w7.drew (#[.slice y.2.1.1 y.1.1.length y.2.1.2, .slice y.2.2.1.1 y.1.2.1.length y.2.2.1.2, .slice y.2.2.2.1.1 y.1.2.2.1.length y.2.2.2.1.2, .slice y.2.2.2.2.1 y.1.2.2.2.1.length y.2.2.2.2.2, .string evB, .bool r.2.2.1, .string px]) _ 7 rfl) (HONE.out) (by unfold maxLen; omega) (by omega) (Nat.le_trans hB7 ((Q.refl w7).drew.alloc _).size) ?_
              intro ao8 cp8 w8 own8 grow8
              have hT8 := (HG8.out _ w8 ((Q.refl w7).drew.alloc _) grow8).1.1
              have hS8 := (HG8.out _ w8 ((Q.refl w7).drew.alloc _) grow8).1.2
              have hf8 := (HG8.out _ w8 ((Q.refl w7).drew.alloc _) grow8).2
              have HX8 := hide (HFIN.out _ w8 ao8 cp8 ((Q.refl w7).drew.alloc _) grow8 own8)
              have hS9 := HS9.out _ w8 (.slice ao8 (A.es.length + 1) cp8) ((Q.refl w7).drew.alloc _) grow8
              refine hK3.out _ _ hS8 (fun hHeld4 => ?_)
              clear hK3
              refine wpAnyH_take (i := 22) (v := ?_) rfl (by kernel_rfl) (by kernel_rfl) (by kernel_rfl) (fun _ _ _ h => h) (Or.inl ⟨by rfl, ?_⟩) (by assumption) ?_
              rotate_left
              · (intro w' hSw; (try dsimp only at hSw); go_simp; try with_reducible rfl)
              refine wpAnyH_take (i := 23) (v := ?_) rfl (by kernel_rfl) (by kernel_rfl) (by kernel_rfl) (fun _ _ _ h => h) (Or.inl ⟨by rfl, ?_⟩) (by assumption) ?_
              rotate_left
              · (intro w' hSw; (try dsimp only at hSw); go_simp; try with_reducible rfl)
              refine wpAnyH_take (i := 24) (v := ?_) rfl (by kernel_rfl) (by kernel_rfl) (by kernel_rfl) (fun _ _ _ h => h) (Or.inl ⟨by rfl, ?_⟩) (by assumption) ?_
              rotate_left
              · (intro w' hSw; (try dsimp only at hSw); go_simp; try with_reducible rfl)
              refine wpAnyH_ready (rs := [25]) (by kernel_rfl) (by simp) ?_
              refine AllReadyH.cons rfl (fun K4 hK4 => ?_) AllReadyH.nil
              go_simp
              refine hK4.out _ _ hS9 (fun hHeld5 => ?_)
              clear hK4
              refine wpAnyH_done (by kernel_rfl) ?_ _
              clear HSS HG8 HFIN HS9 HS6
              go_wp2_with fail
              go_ret
              exact unhide HX8
            · go_simp
              refine hK.out _ _ (HS6.out _ ((Q.refl w7).drew.alloc _)) (fun hHeld2 => ?_)
              clear hK
              refine wpAnyH_ready (rs := [5]) (by kernel_rfl) (by simp) ?_
              refine AllReadyH.cons rfl (fun K2 hK2 => ?_) AllReadyH.nil
              go_simp
              refine hK2.out _ _ (HS6.out _ ((Q.refl w7).drew.alloc _)) (fun hHeld3 => ?_)
              clear hK2
              refine wpAnyH_ready (rs := [21]) (by kernel_rfl) (by simp) ?_
              refine AllReadyH.cons rfl (fun K3 hK3 => ?_) AllReadyH.nil
              refine step_row rfl (.tmp 75) (.tmp 90) 22 rfl B 65 i0 _ 7 136 Tryz.underlying22 hi hz0 hz1 hz2 rfl (by decide) A.eo A.es.length A.ec (lay ev A.es) (by simp [Act.eval]) (HOE.out _ ((Q.refl w7).drew.alloc _)) (some ⟨w7.heap.size, 0, none⟩) 1 1 [.slice y.2.1.1 y.1.1.length y.2.1.2, .slice y.2.2.1.1 y.1.2.1.length y.2.2.1.2, .slice y.2.2.2.1.1 y.1.2.2.1.length y.2.2.2.1.2, .slice y.2.2.2.2.1 y.1.2.2.2.1.length y.2.2.2.2.2, .string evB, .bool r.2.2.1, .string px] (by simp [Act.eval]) (SrcRow.new w7.drew (#[.slice y.2.1.1 y.1.1.length y.2.1.2, .slice y.2.2.1.1 y.1.2.1.length y.2.2.1.2, .slice y.2.2.2.1.1 y.1.2.2.1.length y.2.2.2.1.2, .slice y.2.2.2.2.1 y.1.2.2.2.1.length y.2.2.2.2.2, .string evB, .bool r.2.2.1, .string px]) _ 7 rfl) (HONE.out) (by unfold maxLen; omega) (by omega) (Nat.le_trans hB7 ((Q.refl w7).drew.alloc _).size) ?_
              intro ao8 cp8 w8 own8 grow8
              have hT8 := (HG8.out _ w8 ((Q.refl w7).drew.alloc _) grow8).1.1
              have hS8 := (HG8.out _ w8 ((Q.refl w7).drew.alloc _) grow8).1.2
              have hf8 := (HG8.out _ w8 ((Q.refl w7).drew.alloc _) grow8).2
              have HX8 := hide (HFIN.out _ w8 ao8 cp8 ((Q.refl w7).drew.alloc _) grow8 own8)
              have hS9 := HS9.out _ w8 (.slice ao8 (A.es.length + 1) cp8) ((Q.refl w7).drew.alloc _) grow8
              refine hK3.out _ _ hS8 (fun hHeld4 => ?_)
              clear hK3
              refine wpAnyH_take (i := 22) (v := ?_) rfl (by kernel_rfl) (by kernel_rfl) (by kernel_rfl) (fun _ _ _ h => h) (Or.inl ⟨by rfl, ?_⟩) (by assumption) ?_
              rotate_left
              · (intro w' hSw; (try dsimp only at hSw); go_simp; try with_reducible rfl)
              refine wpAnyH_take (i := 23) (v := ?_) rfl (by kernel_rfl) (by kernel_rfl) (by kernel_rfl) (fun _ _ _ h => h) (Or.inl ⟨by rfl, ?_⟩) (by assumption) ?_
              rotate_left
              · (intro w' hSw; (try dsimp only at hSw); go_simp; try with_reducible rfl)
              refine wpAnyH_take (i := 24) (v := ?_) rfl (by kernel_rfl) (by kernel_rfl) (by kernel_rfl) (fun _ _ _ h => h) (Or.inl ⟨by rfl, ?_⟩) (by assumption) ?_
              rotate_left
              · (intro w' hSw; (try dsimp only at hSw); go_simp; try with_reducible rfl)
              refine wpAnyH_ready (rs := [25]) (by kernel_rfl) (by simp) ?_
              refine AllReadyH.cons rfl (fun K4 hK4 => ?_) AllReadyH.nil
              go_simp
              refine hK4.out _ _ hS9 (fun hHeld5 => ?_)
              clear hK4
              refine wpAnyH_done (by kernel_rfl) ?_ _
              clear HSS HG8 HFIN HS9 HS6
              go_wp2_with fail
              go_ret
              exact unhide HX8

end Go.Proofs.YtpddckgkaopnlaaGreatDoor
