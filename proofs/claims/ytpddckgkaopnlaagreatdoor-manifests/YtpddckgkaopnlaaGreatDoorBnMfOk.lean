/- Several texts of mine in one: MfOk, RpOk. -/
import Derived.Test.YtpddckgkaopnlaaGreatDoorBnMfEdge
import Derived.Test.YtpddckgkaopnlaaGreatDoorMfPool
import Derived.Test.YtpddckgkaopnlaaGreatDoorMfBuild
import Derived.Laws.EntriesVeiled
import Derived.Test.YtpddckgkaopnlaaGreatDoorPk1
/- What holds of a manifest under way, plain and in memory; no conditions. -/
namespace Go.Proofs.YtpddckgkaopnlaaGreatDoor
open Go.RowKit

def UnOk (s : Sm) : Prop := match s.un with
  | none => True
  | some (.inl r) => r.2.1.length ≤ 4096 ∧ r.2.2.2.length ≤ 4096 ∧ s.rs.length < 8
  | some (.inr (.inl _)) => s.ps.length < 4
  | some (.inr (.inr x)) => s.es.length < 16 ∧ Few x.1.1 ∧ Few x.1.2.1 ∧ x.2.1.2.1.length ≤ 4096 ∧ scOk x.2.2 = true

structure SmOk (s : Sm) : Prop where
  le : s.es.length ≤ 16
  lp : s.ps.length ≤ 4
  ld : s.ds.length ≤ 8
  lr : s.rs.length ≤ 8
  bs : scOk s.bs = true
  rl : ∀ r ∈ s.rs, r.2.1.length ≤ 4096 ∧ r.2.2.2.length ≤ 4096
  un : UnOk s

/-- What is under way is another thing. -/
def Sm.wU (s : Sm) (u : Un) : Sm := ⟨s.es, s.ps, s.ds, s.rs, s.bs, u⟩

theorem SmOk.wU {s : Sm} (h : SmOk s) {u : Un} (hu : UnOk (s.wU u)) : SmOk (s.wU u) := ⟨h.le, h.lp, h.ld, h.lr, h.bs, h.rl, hu⟩
theorem Ro.wU {B : Nat} {w : World} {s : Sm} {A : Ad} (h : Ro B w s A) (u : Un) : Ro B w (s.wU u) A := ⟨h.e, h.em, h.p, h.d, h.r, h.o, h.q, h.nd⟩

/-- A manifest under way, in memory. -/
def MS (B : Nat) (w : World) (R : Nat) (s : Sm) : Prop := SmOk s ∧ ∃ A vT vV, Rd B w R s A vT vV ∧ UnS B w R s A vT vV

/-- What a step says. -/
def LSays (B R : Nat) (x : Except Int Sm) (w : World) (e : Ending) (w' : World) : Prop := Below B w w' ∧ match x with
  | .error n => e = .returned (.int .i64 n)
  | .ok s => e = .returned (.int .i64 0) ∧ MS B w' R s

theorem LSays.err {B R : Nat} {x : Except Int Sm} {w w' : World} {n : Int} (hx : x = .error n) (hb : Below B w w') : LSays B R x w (.returned (.int .i64 n)) w' := by subst hx; exact ⟨hb, rfl⟩
theorem LSays.ok {B R : Nat} {x : Except Int Sm} {w w' : World} {s : Sm} (hx : x = .ok s) (hb : Below B w w') (h : MS B w' R s) : LSays B R x w (.returned (.int .i64 0)) w' := by subst hx; exact ⟨hb, rfl, h⟩

/-- The reader's line under way is written. -/
theorem Rd.under {B : Nat} {w : World} {R : Nat} {s : Sm} {A : Ad} {vT vV : Value} (h : Rd B w R s A vT vV) (u : Un) (xT xV : Value) : Rd B ((w.setCell ⟨R, 5, none⟩ xT).setCell ⟨R, 6, none⟩ xV) R (s.wU u) A xT xV := by
  refine ⟨(h.blk.set 5 xT).set 6 xV, ?_, h.lo⟩
  have h1 := h.ro.blk (Fr.set w R 5 xT) h.blk (fun k hk => hk) (by decide) (Or.inl (by decide)) (Or.inl (by decide)) (Or.inl (by decide)) (by decide)
  have h2 := h1.blk (Fr.set _ R 6 xV) (h.blk.set 5 xT) (fun k hk => hk) (by decide) (Or.inl (by decide)) (Or.inl (by decide)) (Or.inl (by decide)) (by decide)
  exact h2.wU u
theorem set2_below {B R : Nat} {w w' : World} (h : Below B w w') (hR : B ≤ R) (xT xV : Value) : Below B w ((w'.setCell ⟨R, 5, none⟩ xT).setCell ⟨R, 6, none⟩ xV) := (h.setCell hR xT).setCell hR xV
theorem Blk.set2 {w : World} {g R : Nat} {cs : Array Value} {t : TypeId} (h : Blk w g cs t) (hne : g ≠ R) (xT xV : Value) : Blk ((w.setCell ⟨R, 5, none⟩ xT).setCell ⟨R, 6, none⟩ xV) g cs t := (h.other hne 5 xT).other hne 6 xV

structure Rd.Cells (w : World) (R : Nat) (s : Sm) (A : Ad) (vT vV : Value) : Prop where
  c0 : w.cell? ⟨R, 0, none⟩ = some (.slice A.eo A.es.length A.ec)
  c1 : w.cell? ⟨R, 1, none⟩ = some (.slice A.po s.ps.length A.pc)
  c2 : w.cell? ⟨R, 2, none⟩ = some (.slice A.dd s.ds.length A.dc)
  c3 : w.cell? ⟨R, 3, none⟩ = some (.slice A.ro s.rs.length A.rc)
  c4 : w.cell? ⟨R, 4, none⟩ = some (.slice A.oo s.bs.length A.oc)
  c5 : w.cell? ⟨R, 5, none⟩ = some vT
  c6 : w.cell? ⟨R, 6, none⟩ = some vV
  frz : ∀ i, w.frozen? ⟨R, i, none⟩ = false
theorem Rd.cells {B : Nat} {w : World} {R : Nat} {s : Sm} {A : Ad} {vT vV : Value} (h : Rd B w R s A vT vV) : Rd.Cells w R s A vT vV :=
  ⟨h.blk.cell 0 rfl, h.blk.cell 1 rfl, h.blk.cell 2 rfl, h.blk.cell 3 rfl, h.blk.cell 4 rfl, h.blk.cell 5 rfl, h.blk.cell 6 rfl, fun i => h.blk.frz i⟩

theorem mayB_bl (n : ByteArray) : mayB n = mayL (bl n) := mayB_mayL n
theorem Ro.rowR {B : Nat} {w : World} {s : Sm} {A : Ad} (h : Ro B w s A) : RowR w A.ro s.rs := OwnR.row (show OwnR w B A.ro A.rc s.rs from h.r)
theorem Ro.rowP {B : Nat} {w : World} {s : Sm} {A : Ad} (h : Ro B w s A) : RowP w A.po s.ps := OwnPl.row (show OwnPl w B A.po A.pc s.ps from h.p)
theorem Ro.read {B : Nat} {w : World} {s : Sm} {A : Ad} (h : Ro B w s A) (hs : scOk s.bs = true) : Read w A.oo A.oc s.bs := read_own (show OwnD w B A.oo A.oc s.bs from h.o) hs

set_option maxHeartbeats 4000000 in
theorem readRule_any (B R : Nat) (s : Sm) (A : Ad) (vT vV : Value) (n : ByteArray) (w : World) (h : Rd B w R s A vT vV) (hB : B ≤ w.heap.size) (ok : SmOk s) (hn : n.size ≤ 4096) :
    Calls Tryz.prog 32 #[.pointer (some ⟨R, 0, none⟩), .string n] w (LSays B R (ruL s (bl n)) w) := by
  have HM := hide (fun w2 => may_any n w2 (by unfold maxLen; omega))
  have HLR := hide ok.lr
  have HD := hide h
  have hRs := h.blk.hi
  have HRA := hide (fun w2 (q : Q w w2) => ruleAt_any R s.rs n A.ro A.rc w2 (Nat.lt_of_lt_of_le hRs q.size) (h.q q).cells.c3 (h.q q).ro.rowR (by have := ok.lr; omega))
  have HOK := hide ok
  have hRlo := h.lo
  have HQB : Hid (∀ w', Q w w' → Below B w w') := fun w' q => q.mono hB
  clear h ok
  cases hm : mayB n
  · have HX : Hid (ruL s (bl n) = .error 800) := by show _ = _; unfold ruL; rw [if_pos (Or.inl (by rw [← mayB_bl]; exact hm))]
    rw [hm] at HM
    clear hm HRA
    go_enter Tryz.func32, Tryz.ntmps32
    go_wp2_with fail
    refine (unhide HM _).mono ?_
    rintro e w2 ⟨rfl, q2⟩
    go_wp2_with fail
    go_ret
    exact LSays.err HX.out (HQB.out _ (((Q.refl w).alloc _).trans q2))
  · rw [hm] at HM
    cases hr : rlAt s.rs (bl n) with
    | some r =>
      obtain ⟨k, hk, _, _, _⟩ := rl_some hr
      have HX : Hid (ruL s (bl n) = .error 800) := by show _ = _; unfold ruL; rw [if_pos (Or.inr (by rw [hr]; rfl))]
      rw [hk] at HRA
      clear hm hr hk
      go_enter Tryz.func32, Tryz.ntmps32
      go_wp2_with fail
      have hbx := Blk.new w #[.pointer (some ⟨R, 0, none⟩)] 40
      have qbx := (Q.refl w).alloc (.cells #[.pointer (some ⟨R, 0, none⟩)] 40)
      generalize w.alloc (.cells #[.pointer (some ⟨R, 0, none⟩)] 40) = w1 at *
      refine (unhide HM _).mono ?_
      rintro e w2 ⟨rfl, q2⟩
      have b2 : w2.cell? ⟨w.heap.size, 0, none⟩ = some (.pointer (some ⟨R, 0, none⟩)) := (hbx.q q2).cell 0 rfl
      go_wp2_with fail
      refine (unhide HRA _ (qbx.trans q2)).mono ?_
      rintro e w3 ⟨rfl, q3⟩
      have k0 : (0 : Int) ≤ (k : Int) := by omega
      go_wp2_with fail
      go_ret
      exact LSays.err HX.out (HQB.out _ ((qbx.trans q2).trans q3))
    | none =>
      have hk := rl_none hr
      rw [hk] at HRA
      by_cases hl8 : s.rs.length = 8
      · have HX : Hid (ruL s (bl n) = .error 801) := by
          show _ = _; unfold ruL
          rw [if_neg (by rw [← mayB_bl, hm, hr]; simp), if_pos hl8]
        have hl8' : ((s.rs.length : Int) == 8) = true := by simp; omega
        clear hm hr hk hl8
        go_enter Tryz.func32, Tryz.ntmps32
        go_wp2_with fail
        have hbx := Blk.new w #[.pointer (some ⟨R, 0, none⟩)] 40
        have qbx := (Q.refl w).alloc (.cells #[.pointer (some ⟨R, 0, none⟩)] 40)
        generalize w.alloc (.cells #[.pointer (some ⟨R, 0, none⟩)] 40) = w1 at *
        refine (unhide HM _).mono ?_
        rintro e w2 ⟨rfl, q2⟩
        have b2 : w2.cell? ⟨w.heap.size, 0, none⟩ = some (.pointer (some ⟨R, 0, none⟩)) := (hbx.q q2).cell 0 rfl
        go_wp2_with fail
        refine (unhide HRA _ (qbx.trans q2)).mono ?_
        rintro e w3 ⟨rfl, q3⟩
        have b3 : w3.cell? ⟨w.heap.size, 0, none⟩ = some (.pointer (some ⟨R, 0, none⟩)) := ((hbx.q q2).q q3).cell 0 rfl
        have q13 := (qbx.trans q2).trans q3
        have c3 := ((unhide HD).q q13).cells.c3
        clear hbx b2
        go_wp2_with fail
        go_ret
        exact LSays.err HX.out (HQB.out _ q13)
      · have HX : Hid (ruL s (bl n) = .ok (s.wU (some (.inl (bl n, [], false, []))))) := by
          show _ = _; unfold ruL
          rw [if_neg (by rw [← mayB_bl, hm, hr]; simp), if_neg hl8]; rfl
        have hl8' : ((s.rs.length : Int) == 8) = false := by simp; omega
        have HL8 : Hid (s.rs.length < 8) := by show _ < _; have := unhide HLR; omega
        clear hm hr hk hl8
        go_enter Tryz.func32, Tryz.ntmps32
        go_wp2_with fail
        have hbx := Blk.new w #[.pointer (some ⟨R, 0, none⟩)] 40
        have qbx := (Q.refl w).alloc (.cells #[.pointer (some ⟨R, 0, none⟩)] 40)
        generalize w.alloc (.cells #[.pointer (some ⟨R, 0, none⟩)] 40) = w1 at *
        refine (unhide HM _).mono ?_
        rintro e w2 ⟨rfl, q2⟩
        have b2 : w2.cell? ⟨w.heap.size, 0, none⟩ = some (.pointer (some ⟨R, 0, none⟩)) := (hbx.q q2).cell 0 rfl
        go_wp2_with fail
        refine (unhide HRA _ (qbx.trans q2)).mono ?_
        rintro e w3 ⟨rfl, q3⟩
        have hb3 := (hbx.q q2).q q3
        have b3 : w3.cell? ⟨w.heap.size, 0, none⟩ = some (.pointer (some ⟨R, 0, none⟩)) := hb3.cell 0 rfl
        have q13 := (qbx.trans q2).trans q3
        have c3 := ((unhide HD).q q13).cells.c3
        have HB3 := hide hb3
        clear hbx b2 qbx q2 q3 hb3
        go_upto_region 6 with fail
        have hbM := Blk.new w3 #[.string n, .string ⟨#[]⟩, .bool false, .string ⟨#[]⟩] 109
        have q3M := (Q.refl w3).alloc (.cells #[.string n, .string ⟨#[]⟩, .bool false, .string ⟨#[]⟩] 109)
        have hlo : w.heap.size ≤ w3.heap.size := q13.size
        generalize hM : w3.heap.size = M at hbM ⊢
        generalize w3.alloc (.cells #[.string n, .string ⟨#[]⟩, .bool false, .string ⟨#[]⟩] 109) = w4 at *
        have HBB := hide ((unhide HB3).q q3M)
        have b4 : w4.cell? ⟨w.heap.size, 0, none⟩ = some (.pointer (some ⟨R, 0, none⟩)) := (unhide HBB).cell 0 rfl
        have q14 := q13.trans q3M
        have hRd := (unhide HD).q q14
        obtain ⟨c0, c1, c2, c3', c4, c5, c6, frz⟩ := hRd.cells
        have f5 := frz 5
        have f6 := frz 6
        have HRd := hide hRd
        have HbM := hide hbM
        have HRM : Hid (∀ k, (A.vR s).ownBlock = some k → k ≠ M) := fun k hk => by have := (((unhide HD).q q13).ro.r.lt k hk).2; omega
        clear c0 c1 c2 c3 c3' c4 frz hRd hbM b3 q3M
        go_wp2_with fail

        go_ret
        refine LSays.ok HX.out (set2_below (HQB.out _ q14) hRlo _ _) ⟨(unhide HOK).wU ⟨by simp, by simp, HL8.out⟩, A, _, _, (unhide HRd).under _ _ _, ?_⟩
        refine ⟨M, w.heap.size, rfl, rfl, ?_, ?_, by omega, HRM.out⟩
        · have := (unhide HbM).set2 (R := R) (by omega) (.func (.func 65) #[] #[.pointer (some ⟨M, 0, none⟩), .pointer (some ⟨w.heap.size, 0, none⟩)]) (.func (.func 67) #[] #[.pointer (some ⟨M, 0, none⟩), .pointer (some ⟨w.heap.size, 0, none⟩)])
          simpa [rv, mk_bl] using this
        · exact (unhide HBB).set2 (by omega) _ _

end Go.Proofs.YtpddckgkaopnlaaGreatDoor

/- What holds of a manifest under way stays so, line for line: plain facts, no program in them; no conditions. -/
namespace Go.Proofs.YtpddckgkaopnlaaGreatDoor
open Go.RowKit

theorem few_cl {ws ds : Ws} (h : clL ws = some ds) (hl : ws.length ≤ 8) : Few ds := by
  obtain ⟨h1, h2⟩ := cl_facts ws ds h
  refine ⟨by omega, fun p hp => ?_⟩
  have := clean_le (h2 p hp)
  omega

theorem ok_ov {s s' : Sm} (h : ovL s = .ok s') (hs : SmOk s) : SmOk s' := by
  have hu := hs.un
  unfold ovL at h
  unfold UnOk at hu
  split at h
  · cases h; exact hs
  · rename_i r hun
    rw [hun] at hu
    split at h
    · cases h
    · cases h
      refine ⟨hs.le, hs.lp, hs.ld, by show (s.rs ++ [r]).length ≤ 8; rw [List.length_append]; have := hu.2.2; simp; omega, hs.bs, fun x hx => ?_, trivial⟩
      rcases List.mem_append.1 hx with hx | hx
      · exact hs.rl x hx
      · simp at hx; subst hx; exact ⟨hu.1, hu.2.1⟩
  · rename_i p hun
    rw [hun] at hu
    split at h
    · cases h
    · cases h
      exact ⟨hs.le, by show (s.ps ++ [p]).length ≤ 4; rw [List.length_append]; simp at hu ⊢; omega, hs.ld, hs.lr, hs.bs, hs.rl, trivial⟩
  · rename_i x hun
    rw [hun] at hu
    split at h
    · cases h
    · rename_i c hc
      cases h
      exact ⟨by show (s.es ++ [withC x.1 c]).length ≤ 16; rw [List.length_append]; have := hu.1; simp; omega, hs.lp, hs.ld, hs.lr, hs.bs, hs.rl, trivial⟩

theorem ok_st {bs ou bs' : List Bd} {k v : Tx} (h : stL bs ou k v = .ok bs') : scOk bs' = true := by
  unfold stL at h
  split at h
  · cases h
  · split at h
    · cases h
    · rename_i h0
      cases h
      exact set_ok (by simpa using h0)

theorem ok_tk {s s' : Sm} {k v : Tx} (h : tkL s k v = .ok s') (hs : SmOk s) (hv : v.length ≤ 4096) : SmOk s' := by
  have hu := hs.un
  unfold tkL at h
  unfold UnOk at hu
  split at h
  · cases h
  · rename_i r hun
    rw [hun] at hu
    split at h
    · cases h
    · rename_i r' hr
      cases h
      refine ⟨hs.le, hs.lp, hs.ld, hs.lr, hs.bs, hs.rl, ?_⟩
      show r'.2.1.length ≤ 4096 ∧ r'.2.2.2.length ≤ 4096 ∧ s.rs.length < 8
      unfold rlT at hr
      split at hr
      · cases hr; exact ⟨hv, hu.2⟩
      · split at hr
        · cases hr; exact hu
        · split at hr
          · cases hr; exact ⟨hu.1, hv, hu.2.2⟩
          · cases hr
  · rename_i p hun
    rw [hun] at hu
    split at h
    · cases h
      exact ⟨hs.le, hs.lp, hs.ld, hs.lr, hs.bs, hs.rl, hu⟩
    · cases h
  · rename_i x hun
    rw [hun] at hu
    split at h
    · cases h
    · rename_i own ho
      cases h
      exact ⟨hs.le, hs.lp, hs.ld, hs.lr, hs.bs, hs.rl, ⟨hu.1, hu.2.1, hu.2.2.1, hu.2.2.2.1, ok_st ho⟩⟩

theorem ok_ed {rs : List Rl} {l : Tx} {x : Ed × Rl} (h : edL rs l = some x) (hr : ∀ r ∈ rs, r.2.1.length ≤ 4096 ∧ r.2.2.2.length ≤ 4096) : Few x.1.1 ∧ Few x.1.2.1 ∧ x.2.2.1.length ≤ 4096 := by
  unfold edL at h
  split at h
  · cases h
  · rename_i b hb
    split at h
    · cases h
    · rename_i r hrl
      split at h
      · rename_i o i m d ho hi hm hd
        cases h
        obtain ⟨b0, b1, b2, b3, b4⟩ := bdR_len hb
        exact ⟨few_cl ho b1, few_cl hi b2, (hr r (List.mem_of_find?_eq_some hrl)).1⟩
      · cases h

theorem ok_fw {s s' : Sm} {l : Tx} (h : fwL s l = .ok s') (hs : SmOk s) : SmOk s' := by
  unfold fwL at h
  split at h
  · unfold ruL at h
    split at h
    · cases h
    · split at h
      · cases h
      · rename_i h8
        cases h
        exact ⟨hs.le, hs.lp, hs.ld, hs.lr, hs.bs, hs.rl, ⟨Nat.zero_le _, Nat.zero_le _, by have := hs.lr; show s.rs.length < 8; omega⟩⟩
  · split at h
    · unfold poL at h
      split at h
      · cases h
      · split at h
        · cases h
        · rename_i h4
          cases h
          exact ⟨hs.le, hs.lp, hs.ld, hs.lr, hs.bs, hs.rl, by show s.ps.length < 4; have := hs.lp; omega⟩
    · split at h
      · unfold buL at h
        split at h
        · cases h
        · rename_i x hx
          split at h
          · cases h
          · rename_i h16
            cases h
            obtain ⟨f1, f2, f3⟩ := ok_ed hx hs.rl
            exact ⟨hs.le, hs.lp, hs.ld, hs.lr, hs.bs, hs.rl, ⟨by have := hs.le; show s.es.length < 16; omega, f1, f2, f3, rfl⟩⟩
      · split at h
        · unfold deL at h
          split at h
          · cases h
          · split at h
            · cases h
            · split at h
              · cases h
              · rename_i h8
                cases h
                exact ⟨hs.le, hs.lp, by rw [List.length_append]; omega, hs.lr, hs.bs, hs.rl, trivial⟩
        · unfold biL at h
          split at h
          · cases h
          · split at h
            · cases h
            · rename_i bs hb
              cases h
              exact ⟨hs.le, hs.lp, hs.ld, hs.lr, ok_st hb, hs.rl, trivial⟩

end Go.Proofs.YtpddckgkaopnlaaGreatDoor
