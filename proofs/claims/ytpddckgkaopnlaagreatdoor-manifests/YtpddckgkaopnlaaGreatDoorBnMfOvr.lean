/- Several texts of mine in one: MfRdBind, MfOvr, MfTk. -/
import Derived.Test.YtpddckgkaopnlaaGreatDoorBnMfOk
import Derived.Test.YtpddckgkaopnlaaGreatDoorBnMfRdBuild
/- What package manifest's readBind answers; the conditions: the reader lies in memory. -/
namespace Go.Proofs.YtpddckgkaopnlaaGreatDoor
open Go.RowKit

def Sm.wB (s : Sm) (bs : List Bd) : Sm := ⟨s.es, s.ps, s.ds, s.rs, bs, none⟩
def Ad.wO (A : Ad) (oo : Option Addr) (oc : Nat) : Ad := ⟨A.es, A.eo, A.ec, A.po, A.pc, A.dd, A.dc, A.ro, A.rc, oo, oc⟩

theorem ctL_len {d : UInt8} : ∀ {l : Tx} {x : Tx × Tx}, ctL d l = some x → x.1.length + x.2.length < l.length
  | [], x, h => by cases h
  | c :: r, x, h => by
    unfold ctL at h
    split at h
    · cases h; simp
    · cases hr : ctL d r with
      | none => rw [hr] at h; cases h
      | some y =>
        rw [hr] at h; cases h
        have := ctL_len hr
        simp; omega
theorem bnL_len {l : Tx} {x : Tx × Tx} (h : bnL l = some x) : x.1.length ≤ l.length ∧ x.2.length ≤ l.length ∧ x.1.length ≤ 16 := by
  unfold bnL at h
  cases hc : ctL 61 l with
  | none => rw [hc] at h; cases h
  | some y =>
    rw [hc] at h
    simp only at h
    split at h
    · rename_i hm
      cases h
      have h1 := ctL_len hc
      have h2 := tr_len y.1
      have h3 := tr_len y.2
      unfold mayL at hm
      simp only [Bool.and_eq_true, decide_eq_true_eq] at hm
      exact ⟨by simp only; omega, by simp only; omega, hm.1.2⟩
    · cases h

theorem stL_ok {bs ou bs' : List Bd} {k v : Tx} (h : stL bs ou k v = .ok bs') : scOk bs' = true := by
  unfold stL at h
  split at h
  · cases h
  · split at h
    · cases h
    · cases h
      rename_i h2
      exact set_ok (by simpa using h2)

/-- The outer scope is written anew. -/
theorem Rd.outer {B : Nat} {w : World} {R : Nat} {s : Sm} {A : Ad} {vT vV : Value} (h : Rd B w R s A vT vV) (bs : List Bd) (a : Option Addr) (c : Nat) (ho : OwnD w B a c bs) : Rd B (w.setCell ⟨R, 4, none⟩ (.slice a bs.length c)) R (s.wB bs) (A.wO a c) vT vV := by
  refine ⟨h.blk.set 4 _, ?_, h.lo⟩
  have h1 := h.ro.blk (Fr.set w R 4 (.slice a bs.length c)) h.blk (fun k hk => hk) (by decide) (Or.inl (by decide)) (Or.inl (by decide)) (Or.inl (by decide)) (by decide)
  exact ⟨h1.e, h1.em, h1.p, h1.d, h1.r, own_fr ho (Fr.set w R 4 (.slice a bs.length c)) (own_new_ne ho h.blk), h1.q, h1.nd⟩

set_option maxHeartbeats 4000000 in
theorem readBind_any (B R : Nat) (s : Sm) (A : Ad) (vT vV : Value) (n : ByteArray) (w : World) (h : Rd B w R s A vT vV) (hu : vT = .func (.func 28) #[] #[] ∧ vV = .func (.func 29) #[] #[]) (hB : B ≤ w.heap.size) (ok : SmOk s) (hn : n.size ≤ 4096) :
    Calls Tryz.prog 38 #[.pointer (some ⟨R, 0, none⟩), .string n] w (LSays B R (biL s (bl n)) w) := by
  have HBI := hide (bindOf_any n w (by unfold maxLen; omega))
  have HD := hide h
  have hRs := h.blk.hi
  have hRlo := h.lo
  have HOK := hide ok
  have HU := hide hu
  have HQB : Hid (∀ w', Q w w' → Below B w w') := fun w' q => q.mono hB
  clear h ok hu
  cases hb : bnL (bl n) with
  | none =>
    have HX : Hid (biL s (bl n) = .error 800) := by show _ = _; unfold biL; rw [hb]
    have e1 : bnT (bl n) = ([], [], false) := by unfold bnT; rw [hb]
    rw [e1] at HBI
    clear hb e1
    go_enter Tryz.func38, Tryz.ntmps38
    go_wp2_with fail
    refine (unhide HBI).mono ?_
    rintro e w2 ⟨rfl, q2⟩
    go_wp2_with fail
    go_ret
    exact LSays.err HX.out (HQB.out _ q2)
  | some x =>
    have HX : Hid (biL s (bl n) = (match stL s.bs s.bs x.1 x.2 with | .error n => .error n | .ok bs => .ok (s.wB bs))) := by show _ = _; unfold biL; rw [hb]; rfl
    have e1 : bnT (bl n) = (x.1, x.2, true) := by unfold bnT; rw [hb]
    have hxl := bnL_len hb
    rw [bl_size] at hxl
    rw [e1] at HBI
    have z1 : (⟨x.1.toArray⟩ : ByteArray).size ≤ maxLen := by rw [← bl_size]; show x.1.length ≤ maxLen; unfold maxLen; omega
    have z2 : (⟨x.2.toArray⟩ : ByteArray).size ≤ maxLen := by rw [← bl_size]; show x.2.length ≤ maxLen; unfold maxLen; omega
    have HST := hide (fun w2 (q : Q w w2) => mset_any R s.bs s.bs A.oo A.oo A.oc A.oc ⟨x.1.toArray⟩ ⟨x.2.toArray⟩ w2 (Nat.lt_of_lt_of_le hRs q.size) ((unhide HD).q q).cells.c4 (((unhide HD).q q).ro.read (unhide HOK).bs) (((unhide HD).q q).ro.read (unhide HOK).bs) z1 z2)
    change Hid (∀ w2 (_ : Q w w2), Calls _ _ _ w2 (StSays s.bs s.bs x.1 x.2 w2)) at HST
    clear hb e1 z1 z2 hxl
    generalize (⟨x.1.toArray⟩ : ByteArray) = x1 at *
    generalize (⟨x.2.toArray⟩ : ByteArray) = x2 at *
    unfold StSays at HST
    have HSO := hide (fun bs' h => stL_ok (bs := s.bs) (ou := s.bs) (bs' := bs') (k := x.1) (v := x.2) h)
    generalize stL s.bs s.bs x.1 x.2 = y at *
    go_enter Tryz.func38, Tryz.ntmps38
    go_wp2_with fail
    refine (unhide HBI).mono ?_
    rintro e w2 ⟨rfl, q2⟩
    have c4 := ((unhide HD).q q2).cells.c4
    go_wp2_with fail
    refine (unhide HST w2 q2).mono ?_
    rintro e w3 ⟨a, m, c, rfl, q3, h3⟩
    have q23 := q2.trans q3
    have hD3 := (unhide HD).q q23
    have d4 := hD3.cells.c4
    have f4 := hD3.cells.frz 4
    have H3 := hide h3
    have HD3 := hide hD3
    have hz3 : w.heap.size ≤ w2.heap.size := q2.size
    clear h3 hD3 c4 q2 q3
    go_wp2_with fail
    go_ret
    have hbel : Below B w (w3.setCell ⟨R, 4, none⟩ (.slice a m c)) := (HQB.out _ q23).setCell hRlo _
    cases y with
    | error k => exact LSays.err HX.out hbel
    | ok bs =>
      obtain ⟨rfl, ho⟩ := unhide H3 bs rfl
      have hrd := (unhide HD3).outer bs a c (own_low ho (Nat.le_trans hB hz3))
      have ok := unhide HOK
      refine LSays.ok HX.out hbel ⟨⟨ok.le, ok.lp, ok.ld, ok.lr, unhide HSO bs rfl, ok.rl, trivial⟩, A.wO a c, vT, vV, hrd, ?_⟩
      exact unhide HU

end Go.Proofs.YtpddckgkaopnlaaGreatDoor

/- What the line under way says when it is over, and what it takes of a bind line, by its kind; the conditions: the reader lies in memory. -/
namespace Go.Proofs.YtpddckgkaopnlaaGreatDoor
open Go.RowKit

/-- What is over says. -/
def OvSays (B R : Nat) (s : Sm) (w : World) (e : Ending) (w' : World) : Prop :=
  e = .returned (.int .i64 (exE (ovL s))) ∧ Below B w w' ∧ (∀ s1, ovL s = .ok s1 → SmOk s1 ∧ ∃ A vT vV, Rd B w' R s1 A vT vV) ∧ ∀ g cs, Blk w g cs 51 → Blk w' g cs 51

theorem rfE_no {e : Int} (h : e ≠ 0) : rfE e = 801 ∨ rfE e = 800 := by unfold rfE; rw [if_neg h]; split <;> simp
theorem cmL_err {e : Ed} {r : Rl} {own ou : List Bd} {n : Int} (h : cmL e r own ou = .error n) : n = 801 ∨ n = 800 := by
  unfold cmL at h
  split at h
  · rename_i h1; cases h; exact rfE_no h1
  · split at h
    · rename_i h1; cases h; exact rfE_no h1
    · split at h
      · cases h; exact Or.inr rfl
      · cases h
theorem stL_err {bs ou : List Bd} {k v : Tx} {n : Int} (h : stL bs ou k v = .error n) : n = 801 ∨ n = 800 := by
  unfold stL at h
  split at h
  · cases h; exact Or.inr rfl
  · split at h
    · rename_i h1; cases h; exact rfE_no h1
    · cases h
theorem ovL_err {s : Sm} {n : Int} (h : ovL s = .error n) : n = 801 ∨ n = 800 := by
  unfold ovL at h
  split at h
  · cases h
  · split at h
    · cases h; exact Or.inr rfl
    · cases h
  · split at h
    · cases h; exact Or.inr rfl
    · cases h
  · split at h
    · rename_i hc; cases h; exact cmL_err hc
    · cases h
theorem cmL_ok {e : Ed} {r : Rl} {own ou : List Bd} {c : Tx} (h : cmL e r own ou = .ok c) : c.length ≤ 256 ∧ c ≠ [] := by
  unfold cmL at h
  split at h
  · cases h
  · split at h
    · cases h
    · split at h
      · cases h
      · rename_i h1; cases h
        exact ⟨evS_len _ _ _, fun e => h1 (Or.inr e)⟩

theorem over_none (B R : Nat) (s : Sm) (A : Ad) (vT vV : Value) (w : World) (h : Rd B w R s A vT vV) (ok : SmOk s) (hu : s.un = none) :
    Calls Tryz.prog 29 #[] w (OvSays B R s w) := by
  have HX : Hid (ovL s = .ok s) := by show _ = _; unfold ovL; rw [hu]
  have HD := hide h
  have HOK := hide ok
  clear h ok hu
  go_enter Tryz.func29, Tryz.ntmps29
  go_wp2_with fail
  go_ret
  refine ⟨by rw [HX.out]; rfl, Below.refl _ _, fun s1 h1 => ?_, fun _ _ hb => hb⟩
  rw [HX.out] at h1; cases h1
  exact ⟨unhide HOK, A, vT, vV, unhide HD⟩

theorem take_none (B R : Nat) (s : Sm) (k v : ByteArray) (w : World) (hu : s.un = none) :
    Calls Tryz.prog 28 #[.string k, .string v] w (LSays B R (tkL s (bl k) (bl v)) w) := by
  have HX : Hid (tkL s (bl k) (bl v) = .error 800) := by show _ = _; unfold tkL; rw [hu]
  clear hu
  go_enter Tryz.func28, Tryz.ntmps28
  go_wp2_with fail
  go_ret
  exact LSays.err HX.out (Below.refl _ _)

def Sm.wR (s : Sm) (rs : List Rl) : Sm := ⟨s.es, s.ps, s.ds, rs, s.bs, none⟩
def Ad.wRr (A : Ad) (ro : Option Addr) (rc : Nat) : Ad := ⟨A.es, A.eo, A.ec, A.po, A.pc, A.dd, A.dc, ro, rc, A.oo, A.oc⟩
def Sm.wP (s : Sm) (ps : List Pl) : Sm := ⟨s.es, ps, s.ds, s.rs, s.bs, none⟩
def Ad.wPp (A : Ad) (po : Option Addr) (pc : Nat) : Ad := ⟨A.es, A.eo, A.ec, po, pc, A.dd, A.dc, A.ro, A.rc, A.oo, A.oc⟩
def Sm.wE (s : Sm) (es : List Ed) : Sm := ⟨es, s.ps, s.ds, s.rs, s.bs, none⟩
def Ad.wEe (A : Ad) (es : List EdA) (eo : Option Addr) (ec : Nat) : Ad := ⟨es, eo, ec, A.po, A.pc, A.dd, A.dc, A.ro, A.rc, A.oo, A.oc⟩

theorem Rd.rules {B : Nat} {w w' : World} {R : Nat} {s : Sm} {A : Ad} {vT vV : Value} (h : Rd B w R s A vT vV) (rs : List Rl) (a : Option Addr) (c : Nat) (hf : Fr (fun k => k = R ∨ (A.vR s).ownBlock = some k) w w') (ho : OwnR w' B a c rs)
    (hb : Blk w' R ((rdC A s vT vV).setIfInBounds 3 (.slice a rs.length c)) 49) : Rd B w' R (s.wR rs) (A.wRr a c) vT vV := by
  refine ⟨hb, ⟨?_, h.ro.em, ?_, ?_, ho, ?_, ?_, h.ro.nd⟩, h.lo⟩
  · exact own_fr h.ro.e hf (fun k hk hp => hp.elim (h.blk.row h.ro.e (by decide) k hk) (own_ne h.ro.e h.ro.r (by decide) k hk))
  · exact own_fr h.ro.p hf (fun k hk hp => hp.elim (h.blk.row h.ro.p (by decide) k hk) (own_ne h.ro.p h.ro.r (by decide) k hk))
  · exact own_fr h.ro.d hf (fun k hk hp => hp.elim (h.blk.row h.ro.d (by decide) k hk) (own_ne h.ro.d h.ro.r (by decide) k hk))
  · exact own_fr h.ro.o hf (fun k hk hp => hp.elim (h.blk.row h.ro.o (by decide) k hk) (own_ne h.ro.o h.ro.r (by decide) k hk))
  · exact fun x hx => (h.ro.q x hx).fr hf (fun k hk hp => hp.elim ((h.ro.q x hx).blk h.blk (by decide) k hk) ((h.ro.q x hx).row h.ro.r (by decide) k hk))

theorem Rd.pools {B : Nat} {w w' : World} {R : Nat} {s : Sm} {A : Ad} {vT vV : Value} (h : Rd B w R s A vT vV) (ps : List Pl) (a : Option Addr) (c : Nat) (hf : Fr (fun k => k = R ∨ (A.vP s).ownBlock = some k) w w') (ho : OwnPl w' B a c ps)
    (hb : Blk w' R ((rdC A s vT vV).setIfInBounds 1 (.slice a ps.length c)) 49) : Rd B w' R (s.wP ps) (A.wPp a c) vT vV := by
  refine ⟨hb, ⟨?_, h.ro.em, ho, ?_, ?_, ?_, ?_, h.ro.nd⟩, h.lo⟩
  · exact own_fr h.ro.e hf (fun k hk hp => hp.elim (h.blk.row h.ro.e (by decide) k hk) (own_ne h.ro.e h.ro.p (by decide) k hk))
  · exact own_fr h.ro.d hf (fun k hk hp => hp.elim (h.blk.row h.ro.d (by decide) k hk) (own_ne h.ro.d h.ro.p (by decide) k hk))
  · exact own_fr h.ro.r hf (fun k hk hp => hp.elim (h.blk.row h.ro.r (by decide) k hk) (own_ne h.ro.r h.ro.p (by decide) k hk))
  · exact own_fr h.ro.o hf (fun k hk hp => hp.elim (h.blk.row h.ro.o (by decide) k hk) (own_ne h.ro.o h.ro.p (by decide) k hk))
  · exact fun x hx => (h.ro.q x hx).fr hf (fun k hk hp => hp.elim ((h.ro.q x hx).blk h.blk (by decide) k hk) ((h.ro.q x hx).row h.ro.p (by decide) k hk))

theorem line_fr {P : Nat → Prop} {w w' : World} (hf : Fr P w w') (hP : ∀ k, P k → ∃ cs t, Blk w k cs t ∧ t ≠ 51) : ∀ g cs, Blk w g cs 51 → Blk w' g cs 51 := by
  intro g cs hb
  refine hb.fr hf (fun hp => ?_)
  obtain ⟨ds, t, h1, h2⟩ := hP g hp
  exact (Blk.ne h1 hb h2) rfl
theorem row_blk {w : World} {B e size n : Nat} {v : Value} {xs : List Value} (h : w.ownsRow B e size v n xs) {k : Nat} (hk : v.ownBlock = some k) : ∃ cs, Blk w k cs e := by
  rcases h.2 with ⟨rfl, _⟩ | ⟨g, cap, cur, rfl, hb, hg, _⟩
  · cases hk
  · cases hk; exact ⟨cur, hg⟩

theorem over_rule (B R : Nat) (s : Sm) (A : Ad) (vT vV : Value) (r : Rl) (M RB : Nat) (w : World) (h : Rd B w R s A vT vV) (hB : B ≤ w.heap.size) (ok : SmOk s) (hu : s.un = some (.inl r)) (hM : Blk w M (rv r).toArray 109) (hRB : Blk w RB #[.pointer (some ⟨R, 0, none⟩)] 40) :
    Calls Tryz.prog 67 #[.pointer (some ⟨M, 0, none⟩), .pointer (some ⟨RB, 0, none⟩)] w (OvSays B R s w) := by
  have hun := ok.un
  unfold UnOk at hun
  rw [hu] at hun
  by_cases h0 : r.2.1 = []
  · have hx : ovL s = .error 800 := by unfold ovL; rw [hu]; simp only; rw [if_pos h0]
    refine (rule2_no M RB r w hM h0).mono ?_
    rintro e w' ⟨rfl, rfl⟩
    exact ⟨by rw [hx]; rfl, Below.refl _ _, (fun s1 h1 => by rw [hx] at h1; cases h1), fun _ _ hb => hb⟩
  · have hx : ovL s = .ok (s.wR (s.rs ++ [r])) := by unfold ovL; rw [hu]; simp only; rw [if_neg h0]; rfl
    refine (rule2_yes B R M RB r s.rs A.ro A.rc (rdC A s vT vV) w hM hRB h.blk rfl h.ro.r hB (by have := ok.lr; omega) h0).mono ?_
    rintro e w' ⟨a, c, rfl, ho, hb, hf⟩
    refine ⟨by rw [hx]; rfl, hf.below hB (fun k hk => hk.elim (fun e => e ▸ h.lo) (fun e => (h.ro.r.lt k e).1)), fun s1 h1 => ?_, line_fr hf (fun k hk => hk.elim (fun e => ⟨_, _, e ▸ h.blk, by decide⟩) (fun e => by obtain ⟨cs, hc⟩ := row_blk h.ro.r e; exact ⟨cs, _, hc, by decide⟩))⟩
    rw [hx] at h1; cases h1
    refine ⟨⟨ok.le, ok.lp, ok.ld, ?_, ok.bs, ?_, trivial⟩, _, vT, vV, h.rules (s.rs ++ [r]) a c hf ho hb⟩
    · show (s.rs ++ [r]).length ≤ 8
      rw [List.length_append]; have := hun.2.2; simp; omega
    · intro x hx
      rcases List.mem_append.1 hx with hx | hx
      · exact ok.rl x hx
      · rw [List.mem_singleton.1 hx]; exact ⟨hun.1, hun.2.1⟩

theorem over_pool (B R : Nat) (s : Sm) (A : Ad) (vT vV : Value) (r : Pl) (M RB : Nat) (w : World) (h : Rd B w R s A vT vV) (hB : B ≤ w.heap.size) (ok : SmOk s) (hu : s.un = some (.inr (.inl r))) (hM : Blk w M (plv r).toArray 73) (hRB : Blk w RB #[.pointer (some ⟨R, 0, none⟩)] 40) :
    Calls Tryz.prog 78 #[.pointer (some ⟨M, 0, none⟩), .pointer (some ⟨RB, 0, none⟩)] w (OvSays B R s w) := by
  have hun := ok.un
  unfold UnOk at hun
  rw [hu] at hun
  by_cases h0 : r.2 = 0
  · have hx : ovL s = .error 800 := by unfold ovL; rw [hu]; simp only; rw [if_pos h0]
    refine (pool2_no M RB r w hM h0).mono ?_
    rintro e w' ⟨rfl, rfl⟩
    exact ⟨by rw [hx]; rfl, Below.refl _ _, (fun s1 h1 => by rw [hx] at h1; cases h1), fun _ _ hb => hb⟩
  · have hx : ovL s = .ok (s.wP (s.ps ++ [r])) := by unfold ovL; rw [hu]; simp only; rw [if_neg h0]; rfl
    refine (pool2_yes B R M RB r s.ps A.po A.pc (rdC A s vT vV) w hM hRB h.blk rfl h.ro.p hB (by have := ok.lp; omega) h0).mono ?_
    rintro e w' ⟨a, c, rfl, ho, hb, hf⟩
    refine ⟨by rw [hx]; rfl, hf.below hB (fun k hk => hk.elim (fun e => e ▸ h.lo) (fun e => (h.ro.p.lt k e).1)), fun s1 h1 => ?_, line_fr hf (fun k hk => hk.elim (fun e => ⟨_, _, e ▸ h.blk, by decide⟩) (fun e => by obtain ⟨cs, hc⟩ := row_blk h.ro.p e; exact ⟨cs, _, hc, by decide⟩))⟩
    rw [hx] at h1; cases h1
    refine ⟨⟨ok.le, ?_, ok.ld, ok.lr, ok.bs, ok.rl, trivial⟩, _, vT, vV, h.pools (s.ps ++ [r]) a c hf ho hb⟩
    show (s.ps ++ [r]).length ≤ 4
    rw [List.length_append]
    have : s.ps.length < 4 := hun
    simp; omega

theorem Rd.edges {B : Nat} {w w' : World} {R G : Nat} {s : Sm} {A : Ad} {vT vV : Value} {gs : Array Value} (h : Rd B w R s A vT vV) (hG : Blk w G gs 65) (y : EdA) (hy : EdR w B y) (hnd : (adB A s ++ edB y).Nodup) (y' : EdA) (hy' : y'.2 = y.2 ∧ edB y' = edB y ∧ (EdR w' B y → EdR w' B y')) (a : Option Addr) (c : Nat)
    (hf : Fr (fun k => k = R ∨ k = G ∨ A.vE.ownBlock = some k) w w') (ho : w'.ownsRow B 65 7 (.slice a (A.es ++ [y']).length c) (A.es ++ [y']).length (lay ev (A.es ++ [y'])))
    (hb : Blk w' R ((rdC A s vT vV).setIfInBounds 0 (.slice a (A.es ++ [y']).length c)) 49) : Rd B w' R (s.wE (s.es ++ [y'.1])) (A.wEe (A.es ++ [y']) a c) vT vV := by
  have f : ∀ {e size n : Nat} {v : Value} {xs : List Value}, w.ownsRow B e size v n xs → e ≠ 65 → e ≠ 49 → w'.ownsRow B e size v n xs := by
    intro e size n v xs hr h1 h2
    refine own_fr hr hf (fun k hk hp => ?_)
    rcases hp with hp | hp | hp
    · exact h.blk.row hr (fun x => h2 x.symm) k hk hp
    · exact hG.row hr (fun x => h1 x.symm) k hk hp
    · exact own_ne hr h.ro.e h1 k hk hp
  have fe : ∀ x, EdR w B x → EdR w' B x := fun x hx => ⟨f hx.a (by decide) (by decide), f hx.b (by decide) (by decide), f hx.c (by decide) (by decide), f hx.d (by decide) (by decide)⟩
  refine ⟨hb, ⟨ho, ?_, f h.ro.p (by decide) (by decide), f h.ro.d (by decide) (by decide), f h.ro.r (by decide) (by decide), f h.ro.o (by decide) (by decide), ?_, ?_⟩, h.lo⟩
  · show (A.es ++ [y']).map Prod.fst = s.es ++ [y'.1]
    rw [List.map_append, h.ro.em]; rfl
  · intro x hx
    rcases List.mem_append.1 hx with hx | hx
    · exact fe x (h.ro.q x hx)
    · rw [List.mem_singleton.1 hx]; exact hy'.2.2 (fe y hy)
  · show ((A.vD s).ownBlock.toList ++ (A.es ++ [y']).flatMap edB).Nodup
    rw [List.flatMap_append, ← List.append_assoc]
    show (adB A s ++ ([y'].flatMap edB)).Nodup
    rw [show [y'].flatMap edB = edB y' by simp, hy'.2.1]; exact hnd

theorem over_build (B R : Nat) (s : Sm) (A : Ad) (vT vV : Value) (x : Ed × Rl × List Bd) (G BY O RB : Nat) (y : EdA) (oo : Option Addr) (oc : Nat) (w : World) (h : Rd B w R s A vT vV) (hB : B ≤ w.heap.size) (ok : SmOk s) (hu : s.un = some (.inr (.inr x)))
    (hy : y.1 = x.1) (hG : Blk w G (ev y).toArray 65) (hBY : Blk w BY (rv x.2.1).toArray 109) (hO : Blk w O #[.slice oo x.2.2.length oc] 47) (hRB : Blk w RB #[.pointer (some ⟨R, 0, none⟩)] 40)
    (hown : OwnD w B oo oc x.2.2) (her : EdR w B y) (hnd : (adB A s ++ edB y).Nodup) (hGlo : B ≤ G) (hGE : ∀ k, A.vE.ownBlock = some k → k ≠ G) :
    Calls Tryz.prog 82 #[.pointer (some ⟨RB, 0, none⟩), .pointer (some ⟨G, 0, none⟩), .pointer (some ⟨BY, 0, none⟩), .pointer (some ⟨O, 0, none⟩)] w (OvSays B R s w) := by
  have hun := ok.un
  unfold UnOk at hun
  rw [hu] at hun
  obtain ⟨h16, fa, fb, fl, fs⟩ := hun
  have hb2 : B2 B R G BY O RB y x.2.1 x.2.2 s.bs oo A.oo oc A.oc (rdC A s vT vV) w := ⟨hG, hBY, hO, hRB, h.blk, rfl, h.ro.read ok.bs, read_own hown fs, her, by rw [hy]; exact fa, by rw [hy]; exact fb, fl⟩
  have hel : A.es.length = s.es.length := by rw [← h.ro.em, List.length_map]
  cases hc : cmL y.1 x.2.1 x.2.2 s.bs with
  | error z =>
    have hx : ovL s = .error z := by unfold ovL; rw [hu]; simp only; rw [← hy, hc]
    refine (build2_no B R G BY O RB y x.2.1 x.2.2 s.bs oo A.oo oc A.oc _ w hb2 z hc (by rcases cmL_err hc with e | e <;> omega)).mono ?_
    rintro e w' ⟨rfl, q⟩
    exact ⟨by rw [hx]; rfl, q.mono hB, (fun s1 h1 => by rw [hx] at h1; cases h1), fun _ _ hb => hb.q q⟩
  | ok c =>
    have hx : ovL s = .ok (s.wE (s.es ++ [withC y.1 c])) := by unfold ovL; rw [hu]; simp only; rw [← hy, hc]; rfl
    refine (build2_yes B R G BY O RB y x.2.1 x.2.2 s.bs oo A.oo oc A.oc _ w hb2 c hc A.es A.eo A.ec rfl h.ro.e hB (by omega) hGE).mono ?_
    rintro e w' ⟨a, cap, rfl, ho, hb, hf⟩
    refine ⟨by rw [hx]; rfl, hf.below hB (fun k hk => ?_), fun s1 h1 => ?_, line_fr hf (fun k hk => ?_)⟩
    · rcases hk with rfl | rfl | e
      · exact h.lo
      · exact hGlo
      · exact (h.ro.e.lt k e).1
    · rw [hx] at h1; cases h1
      refine ⟨⟨?_, ok.lp, ok.ld, ok.lr, ok.bs, ok.rl, trivial⟩, _, vT, vV, h.edges hG y her hnd ((withC y.1 c, y.2) : EdA) ⟨rfl, rfl, fun h => ⟨h.a, h.b, h.c, h.d⟩⟩ a cap hf ho hb⟩
      show (s.es ++ [withC y.1 c]).length ≤ 16
      rw [List.length_append]; simp; omega
    · rcases hk with rfl | rfl | e
      · exact ⟨_, _, h.blk, by decide⟩
      · exact ⟨_, _, hG, by decide⟩
      · obtain ⟨cs, hc⟩ := row_blk h.ro.e e
        exact ⟨cs, _, hc, by decide⟩

end Go.Proofs.YtpddckgkaopnlaaGreatDoor

/- What the line under way takes of a bind line, by its kind; the conditions: the reader lies in memory. -/
namespace Go.Proofs.YtpddckgkaopnlaaGreatDoor
open Go.RowKit

theorem rlT_len {ps : List Pl} {r r' : Rl} {k v : Tx} (h : rlT ps r k v = some r') (h1 : r.2.1.length ≤ 4096) (h2 : r.2.2.2.length ≤ 4096) (hv : v.length ≤ 4096) : r'.2.1.length ≤ 4096 ∧ r'.2.2.2.length ≤ 4096 := by
  unfold rlT at h
  split at h
  · cases h; exact ⟨hv, h2⟩
  · split at h
    · cases h; exact ⟨h1, h2⟩
    · split at h
      · cases h; exact ⟨h1, hv⟩
      · cases h

theorem take_rule (B R : Nat) (s : Sm) (A : Ad) (vT vV : Value) (r : Rl) (M RB : Nat) (k v : ByteArray) (w : World) (h : Rd B w R s A vT vV) (hB : B ≤ w.heap.size) (ok : SmOk s) (hu : s.un = some (.inl r))
    (hvT : vT = .func (.func 65) #[] #[.pointer (some ⟨M, 0, none⟩), .pointer (some ⟨RB, 0, none⟩)]) (hvV : vV = .func (.func 67) #[] #[.pointer (some ⟨M, 0, none⟩), .pointer (some ⟨RB, 0, none⟩)])
    (hM : Blk w M (rv r).toArray 109) (hRB : Blk w RB #[.pointer (some ⟨R, 0, none⟩)] 40) (hlo : B ≤ M) (hne : ∀ k, (A.vR s).ownBlock = some k → k ≠ M) (hv : v.size ≤ 4096) :
    Calls Tryz.prog 65 #[.string k, .string v, .pointer (some ⟨M, 0, none⟩), .pointer (some ⟨RB, 0, none⟩)] w (LSays B R (tkL s (bl k) (bl v)) w) := by
  have hun := ok.un
  unfold UnOk at hun
  rw [hu] at hun
  refine (rule1_any R M RB r k v s.ps A.po A.pc (rdC A s vT vV) w hM hRB h.blk rfl h.ro.rowP (by have := ok.lp; omega)).mono ?_
  rintro e w' ⟨rfl, h1, hf⟩
  have hbel : Below B w w' := hf.below hB (fun k hk => hk ▸ hlo)
  cases hx : rlT s.ps r (bl k) (bl v) with
  | none =>
    have hy : tkL s (bl k) (bl v) = .error 800 := by unfold tkL; rw [hu]; simp only; rw [hx]
    exact LSays.err hy hbel
  | some r' =>
    have hy : tkL s (bl k) (bl v) = .ok (s.wU (some (.inl r'))) := by unfold tkL; rw [hu]; simp only; rw [hx]; rfl
    have hrl := rlT_len hx hun.1 hun.2.1 (by rw [bl_size]; exact hv)
    refine LSays.ok hy hbel ⟨ok.wU ⟨hrl.1, hrl.2, hun.2.2⟩, A, vT, vV, ⟨h.blk.fr hf (fun e => (Blk.ne h.blk hM (by decide)) e), ?_, h.lo⟩, ?_⟩
    · exact (h.ro.blk hf hM (fun k hk => hk) (by decide) (Or.inl (by decide)) (Or.inl (by decide)) (Or.inr hne) (by decide)).wU _
    · exact ⟨M, RB, hvT, hvV, h1 r' hx, hRB.fr hf (fun e => (Blk.ne hRB hM (by decide)) e), hlo, hne⟩

theorem take_pool (B R : Nat) (s : Sm) (A : Ad) (vT vV : Value) (r : Pl) (M RB : Nat) (k v : ByteArray) (w : World) (h : Rd B w R s A vT vV) (hB : B ≤ w.heap.size) (ok : SmOk s) (hu : s.un = some (.inr (.inl r)))
    (hvT : vT = .func (.func 76) #[] #[.pointer (some ⟨M, 0, none⟩)]) (hvV : vV = .func (.func 78) #[] #[.pointer (some ⟨M, 0, none⟩), .pointer (some ⟨RB, 0, none⟩)])
    (hM : Blk w M (plv r).toArray 73) (hRB : Blk w RB #[.pointer (some ⟨R, 0, none⟩)] 40) (hlo : B ≤ M) (hne : ∀ k, (A.vP s).ownBlock = some k → k ≠ M) :
    Calls Tryz.prog 76 #[.string k, .string v, .pointer (some ⟨M, 0, none⟩)] w (LSays B R (tkL s (bl k) (bl v)) w) := by
  have hun := ok.un
  unfold UnOk at hun
  rw [hu] at hun
  refine (pool1_any M r k v w hM).mono ?_
  rintro e w' ⟨rfl, h1, hf⟩
  have hbel : Below B w w' := hf.below hB (fun k hk => hk ▸ hlo)
  have hz : tkL s (bl k) (bl v) = match poT r (bl k) (bl v) with | none => .error 800 | some p => .ok (s.wU (some (.inr (.inl p)))) := by
    unfold tkL poT; rw [hu]; simp only
    split <;> rfl
  cases hx : poT r (bl k) (bl v) with
  | none => rw [hx] at hz; exact LSays.err hz hbel
  | some r' =>
    rw [hx] at hz
    refine LSays.ok hz hbel ⟨ok.wU hun, A, vT, vV, ⟨h.blk.fr hf (fun e => (Blk.ne h.blk hM (by decide)) e), ?_, h.lo⟩, ?_⟩
    · exact (h.ro.blk hf hM (fun k hk => hk) (by decide) (Or.inl (by decide)) (Or.inr hne) (Or.inl (by decide)) (by decide)).wU _
    · exact ⟨M, RB, hvT, hvV, h1 r' hx, hRB.fr hf (fun e => (Blk.ne hRB hM (by decide)) e), hlo, hne⟩

theorem take_build (B R : Nat) (s : Sm) (A : Ad) (vT vV : Value) (x : Ed × Rl × List Bd) (k v : ByteArray) (w : World) (h : Rd B w R s A vT vV) (hB : B ≤ w.heap.size) (ok : SmOk s) (hu : s.un = some (.inr (.inr x)))
    (G BY O RB : Nat) (y : EdA) (oo : Option Addr) (oc : Nat) (hvT : vT = .func (.func 80) #[] #[.pointer (some ⟨RB, 0, none⟩), .pointer (some ⟨O, 0, none⟩)]) (hvV : vV = .func (.func 82) #[] #[.pointer (some ⟨RB, 0, none⟩), .pointer (some ⟨G, 0, none⟩), .pointer (some ⟨BY, 0, none⟩), .pointer (some ⟨O, 0, none⟩)])
    (hy : y.1 = x.1) (hG : Blk w G (ev y).toArray 65) (hBY : Blk w BY (rv x.2.1).toArray 109) (hO : Blk w O #[.slice oo x.2.2.length oc] 47) (hRB : Blk w RB #[.pointer (some ⟨R, 0, none⟩)] 40)
    (hown : OwnD w B oo oc x.2.2) (her : EdR w B y) (hnd : (adB A s ++ edB y).Nodup) (hGlo : B ≤ G) (hOlo : B ≤ O) (hGE : ∀ k, A.vE.ownBlock = some k → k ≠ G) (hk : k.size ≤ 4096) (hv : v.size ≤ 4096) :
    Calls Tryz.prog 80 #[.string k, .string v, .pointer (some ⟨RB, 0, none⟩), .pointer (some ⟨O, 0, none⟩)] w (LSays B R (tkL s (bl k) (bl v)) w) := by
  have hun := ok.un
  unfold UnOk at hun
  rw [hu] at hun
  obtain ⟨h16, fa, fb, fl, fs⟩ := hun
  refine (build1_any R RB O k v x.2.2 s.bs oo A.oo oc A.oc (rdC A s vT vV) w hO hRB h.blk rfl (h.ro.read ok.bs) (read_own hown fs) (by unfold maxLen; omega) (by unfold maxLen; omega)).mono ?_
  rintro e w' ⟨rfl, h1, hf⟩
  have hbel : Below B w w' := hf.below hB (fun k hk => hk ▸ hOlo)
  have hz : tkL s (bl k) (bl v) = match stL x.2.2 s.bs (bl k) (bl v) with | .error n => .error n | .ok own => .ok (s.wU (some (.inr (.inr (x.1, x.2.1, own))))) := by
    unfold tkL; rw [hu]; simp only
    cases stL x.2.2 s.bs (bl k) (bl v) <;> rfl
  cases hx : stL x.2.2 s.bs (bl k) (bl v) with
  | error n => rw [hx] at hz; exact LSays.err hz hbel
  | ok own =>
    rw [hx] at hz
    obtain ⟨a, c, hO', hown'⟩ := h1 own hx
    refine LSays.ok hz hbel ⟨ok.wU ⟨h16, fa, fb, fl, stL_ok hx⟩, A, vT, vV, ⟨h.blk.fr hf (fun e => (Blk.ne h.blk hO (by decide)) e), ?_, h.lo⟩, ?_⟩
    · exact (h.ro.blk hf hO (fun k hk => hk) (by decide) (Or.inl (by decide)) (Or.inl (by decide)) (Or.inl (by decide)) (by decide)).wU _
    · exact ⟨G, BY, O, RB, y, a, c, hvT, hvV, hy, hG.fr hf (fun e => (Blk.ne hG hO (by decide)) e), hBY.fr hf (fun e => (Blk.ne hBY hO (by decide)) e), hO', hRB.fr hf (fun e => (Blk.ne hRB hO (by decide)) e), own_low hown' hB, her.fr hf (fun k hk e => her.blk hO (by decide) k hk e), hnd, hGlo, hOlo, hGE⟩

end Go.Proofs.YtpddckgkaopnlaaGreatDoor
