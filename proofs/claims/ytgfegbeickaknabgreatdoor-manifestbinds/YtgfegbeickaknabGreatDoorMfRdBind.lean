/- What package manifest's readBind answers; the conditions: the reader lies in memory. -/
import Derived.Test.YtgfegbeickaknabGreatDoorMfOk
namespace Go.Proofs.YtgfegbeickaknabGreatDoor
open Go.RowKit

def Sm.wB (s : Sm) (bs : List Bd) : Sm := ⟨s.es, s.ps, s.ds, s.rs, bs, none⟩
def Ad.wO (A : Ad) (oo : Option Addr) (oc : Nat) : Ad := ⟨A.es, A.eo, A.ec, A.po, A.pc, A.dd, A.dc, A.ro, A.rc, oo, oc⟩

theorem ctL_len {d : UInt8} : ∀ {l : Tx} {x : Tx × Tx}, ctL d l = some x → x.1.length + x.2.length < l.length
  | [], x, h => by cases h
  | c :: r, x, h => by
    unfold ctL at h
    split at h
    · cases h; simp
    · cases hr : ctL d r with
      | none => rw [hr] at h; cases h
      | some y =>
        rw [hr] at h; cases h
        have := ctL_len hr
        simp; omega
theorem bnL_len {l : Tx} {x : Tx × Tx} (h : bnL l = some x) : x.1.length ≤ l.length ∧ x.2.length ≤ l.length ∧ x.1.length ≤ 16 := by
  unfold bnL at h
  cases hc : ctL 61 l with
  | none => rw [hc] at h; cases h
  | some y =>
    rw [hc] at h
    simp only at h
    split at h
    · rename_i hm
      cases h
      have h1 := ctL_len hc
      have h2 := tr_len y.1
      have h3 := tr_len y.2
      unfold mayL at hm
      simp only [Bool.and_eq_true, decide_eq_true_eq] at hm
      exact ⟨by simp only; omega, by simp only; omega, hm.1.2⟩
    · cases h

theorem stL_ok {bs ou bs' : List Bd} {k v : Tx} (h : stL bs ou k v = .ok bs') : scOk bs' = true := by
  unfold stL at h
  split at h
  · cases h
  · split at h
    · cases h
    · cases h
      rename_i h2
      exact set_ok (by simpa using h2)

/-- The outer scope is written anew. -/
theorem Rd.outer {B : Nat} {w : World} {R : Nat} {s : Sm} {A : Ad} {vT vV : Value} (h : Rd B w R s A vT vV) (bs : List Bd) (a : Option Addr) (c : Nat) (ho : OwnD w B a c bs) : Rd B (w.setCell ⟨R, 4, none⟩ (.slice a bs.length c)) R (s.wB bs) (A.wO a c) vT vV := by
  refine ⟨h.blk.set 4 _, ?_, h.lo⟩
  have h1 := h.ro.blk (Fr.set w R 4 (.slice a bs.length c)) h.blk (fun k hk => hk) (by decide) (Or.inl (by decide)) (Or.inl (by decide)) (Or.inl (by decide)) (by decide)
  exact ⟨h1.e, h1.em, h1.p, h1.d, h1.r, own_fr ho (Fr.set w R 4 (.slice a bs.length c)) (own_new_ne ho h.blk), h1.q, h1.nd⟩

set_option maxHeartbeats 4000000 in
theorem readBind_any (B R : Nat) (s : Sm) (A : Ad) (vT vV : Value) (n : ByteArray) (w : World) (h : Rd B w R s A vT vV) (hu : vT = .func (.func 19) #[] #[] ∧ vV = .func (.func 20) #[] #[]) (hB : B ≤ w.heap.size) (ok : SmOk s) (hn : n.size ≤ 4096) :
    Calls Tryz.prog 29 #[.pointer (some ⟨R, 0, none⟩), .string n] w (LSays B R (biL s (bl n)) w) := by
  have HBI := hide (bindOf_any n w (by unfold maxLen; omega))
  have HD := hide h
  have hRs := h.blk.hi
  have hRlo := h.lo
  have HOK := hide ok
  have HU := hide hu
  have HQB : Hid (∀ w', Q w w' → Below B w w') := fun w' q => q.mono hB
  clear h ok hu
  cases hb : bnL (bl n) with
  | none =>
    have HX : Hid (biL s (bl n) = .error 800) := by show _ = _; unfold biL; rw [hb]
    have e1 : bnT (bl n) = ([], [], false) := by unfold bnT; rw [hb]
    rw [e1] at HBI
    clear hb e1
    go_enter Tryz.func29, Tryz.ntmps29
    go_wp2_with fail
    refine (unhide HBI).mono ?_
    rintro e w2 ⟨rfl, q2⟩
    go_wp2_with fail
    go_ret
    exact LSays.err HX.out (HQB.out _ q2)
  | some x =>
    have HX : Hid (biL s (bl n) = (match stL s.bs s.bs x.1 x.2 with | .error n => .error n | .ok bs => .ok (s.wB bs))) := by show _ = _; unfold biL; rw [hb]; rfl
    have e1 : bnT (bl n) = (x.1, x.2, true) := by unfold bnT; rw [hb]
    have hxl := bnL_len hb
    rw [bl_size] at hxl
    rw [e1] at HBI
    have z1 : (⟨x.1.toArray⟩ : ByteArray).size ≤ maxLen := by rw [← bl_size]; show x.1.length ≤ maxLen; unfold maxLen; omega
    have z2 : (⟨x.2.toArray⟩ : ByteArray).size ≤ maxLen := by rw [← bl_size]; show x.2.length ≤ maxLen; unfold maxLen; omega
    have HST := hide (fun w2 (q : Q w w2) => mset_any R s.bs s.bs A.oo A.oo A.oc A.oc ⟨x.1.toArray⟩ ⟨x.2.toArray⟩ w2 (Nat.lt_of_lt_of_le hRs q.size) ((unhide HD).q q).cells.c4 (((unhide HD).q q).ro.read (unhide HOK).bs) (((unhide HD).q q).ro.read (unhide HOK).bs) z1 z2)
    change Hid (∀ w2 (_ : Q w w2), Calls _ _ _ w2 (StSays s.bs s.bs x.1 x.2 w2)) at HST
    clear hb e1 z1 z2 hxl
    generalize (⟨x.1.toArray⟩ : ByteArray) = x1 at *
    generalize (⟨x.2.toArray⟩ : ByteArray) = x2 at *
    unfold StSays at HST
    have HSO := hide (fun bs' h => stL_ok (bs := s.bs) (ou := s.bs) (bs' := bs') (k := x.1) (v := x.2) h)
    generalize stL s.bs s.bs x.1 x.2 = y at *
    go_enter Tryz.func29, Tryz.ntmps29
    go_wp2_with fail
    refine (unhide HBI).mono ?_
    rintro e w2 ⟨rfl, q2⟩
    have c4 := ((unhide HD).q q2).cells.c4
    go_wp2_with fail
    refine (unhide HST w2 q2).mono ?_
    rintro e w3 ⟨a, m, c, rfl, q3, h3⟩
    have q23 := q2.trans q3
    have hD3 := (unhide HD).q q23
    have d4 := hD3.cells.c4
    have f4 := hD3.cells.frz 4
    have H3 := hide h3
    have HD3 := hide hD3
    have hz3 : w.heap.size ≤ w2.heap.size := q2.size
    clear h3 hD3 c4 q2 q3
    go_wp2_with fail
    go_ret
    have hbel : Below B w (w3.setCell ⟨R, 4, none⟩ (.slice a m c)) := (HQB.out _ q23).setCell hRlo _
    cases y with
    | error k => exact LSays.err HX.out hbel
    | ok bs =>
      obtain ⟨rfl, ho⟩ := unhide H3 bs rfl
      have hrd := (unhide HD3).outer bs a c (own_low ho (Nat.le_trans hB hz3))
      have ok := unhide HOK
      refine LSays.ok HX.out hbel ⟨⟨ok.le, ok.lp, ok.ld, ok.lr, unhide HSO bs rfl, ok.rl, trivial⟩, A.wO a c, vT, vV, hrd, ?_⟩
      exact unhide HU

end Go.Proofs.YtgfegbeickaknabGreatDoor
