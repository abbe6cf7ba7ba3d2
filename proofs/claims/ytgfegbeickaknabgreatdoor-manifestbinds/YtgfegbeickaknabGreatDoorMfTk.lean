/- What the line under way takes of a bind line, by its kind; the conditions: the reader lies in memory. -/
import Derived.Test.YtgfegbeickaknabGreatDoorMfOvr
namespace Go.Proofs.YtgfegbeickaknabGreatDoor
open Go.RowKit

theorem rlT_len {ps : List Pl} {r r' : Rl} {k v : Tx} (h : rlT ps r k v = some r') (h1 : r.2.1.length ≤ 4096) (h2 : r.2.2.2.length ≤ 4096) (hv : v.length ≤ 4096) : r'.2.1.length ≤ 4096 ∧ r'.2.2.2.length ≤ 4096 := by
  unfold rlT at h
  split at h
  · cases h; exact ⟨hv, h2⟩
  · split at h
    · cases h; exact ⟨h1, h2⟩
    · split at h
      · cases h; exact ⟨h1, hv⟩
      · cases h

theorem take_rule (B R : Nat) (s : Sm) (A : Ad) (vT vV : Value) (r : Rl) (M RB : Nat) (k v : ByteArray) (w : World) (h : Rd B w R s A vT vV) (hB : B ≤ w.heap.size) (ok : SmOk s) (hu : s.un = some (.inl r))
    (hvT : vT = .func (.func 39) #[] #[.pointer (some ⟨M, 0, none⟩), .pointer (some ⟨RB, 0, none⟩)]) (hvV : vV = .func (.func 41) #[] #[.pointer (some ⟨M, 0, none⟩), .pointer (some ⟨RB, 0, none⟩)])
    (hM : Blk w M (rv r).toArray 80) (hRB : Blk w RB #[.pointer (some ⟨R, 0, none⟩)] 45) (hlo : B ≤ M) (hne : ∀ k, (A.vR s).ownBlock = some k → k ≠ M) (hv : v.size ≤ 4096) :
    Calls Tryz.prog 39 #[.string k, .string v, .pointer (some ⟨M, 0, none⟩), .pointer (some ⟨RB, 0, none⟩)] w (LSays B R (tkL s (bl k) (bl v)) w) := by
  have hun := ok.un
  unfold UnOk at hun
  rw [hu] at hun
  refine (rule1_any R M RB r k v s.ps A.po A.pc (rdC A s vT vV) w hM hRB h.blk rfl h.ro.rowP (by have := ok.lp; omega)).mono ?_
  rintro e w' ⟨rfl, h1, hf⟩
  have hbel : Below B w w' := hf.below hB (fun k hk => hk ▸ hlo)
  cases hx : rlT s.ps r (bl k) (bl v) with
  | none =>
    have hy : tkL s (bl k) (bl v) = .error 800 := by unfold tkL; rw [hu]; simp only; rw [hx]
    exact LSays.err hy hbel
  | some r' =>
    have hy : tkL s (bl k) (bl v) = .ok (s.wU (some (.inl r'))) := by unfold tkL; rw [hu]; simp only; rw [hx]; rfl
    have hrl := rlT_len hx hun.1 hun.2.1 (by rw [bl_size]; exact hv)
    refine LSays.ok hy hbel ⟨ok.wU ⟨hrl.1, hrl.2, hun.2.2⟩, A, vT, vV, ⟨h.blk.fr hf (fun e => (Blk.ne h.blk hM (by decide)) e), ?_, h.lo⟩, ?_⟩
    · exact (h.ro.blk hf hM (fun k hk => hk) (by decide) (Or.inl (by decide)) (Or.inl (by decide)) (Or.inr hne) (by decide)).wU _
    · exact ⟨M, RB, hvT, hvV, h1 r' hx, hRB.fr hf (fun e => (Blk.ne hRB hM (by decide)) e), hlo, hne⟩

theorem take_pool (B R : Nat) (s : Sm) (A : Ad) (vT vV : Value) (r : Pl) (M RB : Nat) (k v : ByteArray) (w : World) (h : Rd B w R s A vT vV) (hB : B ≤ w.heap.size) (ok : SmOk s) (hu : s.un = some (.inr (.inl r)))
    (hvT : vT = .func (.func 50) #[] #[.pointer (some ⟨M, 0, none⟩)]) (hvV : vV = .func (.func 52) #[] #[.pointer (some ⟨M, 0, none⟩), .pointer (some ⟨RB, 0, none⟩)])
    (hM : Blk w M (plv r).toArray 40) (hRB : Blk w RB #[.pointer (some ⟨R, 0, none⟩)] 45) (hlo : B ≤ M) (hne : ∀ k, (A.vP s).ownBlock = some k → k ≠ M) :
    Calls Tryz.prog 50 #[.string k, .string v, .pointer (some ⟨M, 0, none⟩)] w (LSays B R (tkL s (bl k) (bl v)) w) := by
  have hun := ok.un
  unfold UnOk at hun
  rw [hu] at hun
  refine (pool1_any M r k v w hM).mono ?_
  rintro e w' ⟨rfl, h1, hf⟩
  have hbel : Below B w w' := hf.below hB (fun k hk => hk ▸ hlo)
  have hz : tkL s (bl k) (bl v) = match poT r (bl k) (bl v) with | none => .error 800 | some p => .ok (s.wU (some (.inr (.inl p)))) := by
    unfold tkL poT; rw [hu]; simp only
    split <;> rfl
  cases hx : poT r (bl k) (bl v) with
  | none => rw [hx] at hz; exact LSays.err hz hbel
  | some r' =>
    rw [hx] at hz
    refine LSays.ok hz hbel ⟨ok.wU hun, A, vT, vV, ⟨h.blk.fr hf (fun e => (Blk.ne h.blk hM (by decide)) e), ?_, h.lo⟩, ?_⟩
    · exact (h.ro.blk hf hM (fun k hk => hk) (by decide) (Or.inl (by decide)) (Or.inr hne) (Or.inl (by decide)) (by decide)).wU _
    · exact ⟨M, RB, hvT, hvV, h1 r' hx, hRB.fr hf (fun e => (Blk.ne hRB hM (by decide)) e), hlo, hne⟩

theorem take_build (B R : Nat) (s : Sm) (A : Ad) (vT vV : Value) (x : Ed × Rl × List Bd) (k v : ByteArray) (w : World) (h : Rd B w R s A vT vV) (hB : B ≤ w.heap.size) (ok : SmOk s) (hu : s.un = some (.inr (.inr x)))
    (G BY O RB : Nat) (y : EdA) (oo : Option Addr) (oc : Nat) (hvT : vT = .func (.func 54) #[] #[.pointer (some ⟨RB, 0, none⟩), .pointer (some ⟨O, 0, none⟩)]) (hvV : vV = .func (.func 56) #[] #[.pointer (some ⟨RB, 0, none⟩), .pointer (some ⟨G, 0, none⟩), .pointer (some ⟨BY, 0, none⟩), .pointer (some ⟨O, 0, none⟩)])
    (hy : y.1 = x.1) (hG : Blk w G (ev y).toArray 36) (hBY : Blk w BY (rv x.2.1).toArray 80) (hO : Blk w O #[.slice oo x.2.2.length oc] 52) (hRB : Blk w RB #[.pointer (some ⟨R, 0, none⟩)] 45)
    (hown : OwnD w B oo oc x.2.2) (her : EdR w B y) (hnd : (adB A s ++ edB y).Nodup) (hGlo : B ≤ G) (hOlo : B ≤ O) (hGE : ∀ k, A.vE.ownBlock = some k → k ≠ G) (hk : k.size ≤ 4096) (hv : v.size ≤ 4096) :
    Calls Tryz.prog 54 #[.string k, .string v, .pointer (some ⟨RB, 0, none⟩), .pointer (some ⟨O, 0, none⟩)] w (LSays B R (tkL s (bl k) (bl v)) w) := by
  have hun := ok.un
  unfold UnOk at hun
  rw [hu] at hun
  obtain ⟨h16, fa, fb, fl, fs⟩ := hun
  refine (build1_any R RB O k v x.2.2 s.bs oo A.oo oc A.oc (rdC A s vT vV) w hO hRB h.blk rfl (h.ro.read ok.bs) (read_own hown fs) (by unfold maxLen; omega) (by unfold maxLen; omega)).mono ?_
  rintro e w' ⟨rfl, h1, hf⟩
  have hbel : Below B w w' := hf.below hB (fun k hk => hk ▸ hOlo)
  have hz : tkL s (bl k) (bl v) = match stL x.2.2 s.bs (bl k) (bl v) with | .error n => .error n | .ok own => .ok (s.wU (some (.inr (.inr (x.1, x.2.1, own))))) := by
    unfold tkL; rw [hu]; simp only
    cases stL x.2.2 s.bs (bl k) (bl v) <;> rfl
  cases hx : stL x.2.2 s.bs (bl k) (bl v) with
  | error n => rw [hx] at hz; exact LSays.err hz hbel
  | ok own =>
    rw [hx] at hz
    obtain ⟨a, c, hO', hown'⟩ := h1 own hx
    refine LSays.ok hz hbel ⟨ok.wU ⟨h16, fa, fb, fl, stL_ok hx⟩, A, vT, vV, ⟨h.blk.fr hf (fun e => (Blk.ne h.blk hO (by decide)) e), ?_, h.lo⟩, ?_⟩
    · exact (h.ro.blk hf hO (fun k hk => hk) (by decide) (Or.inl (by decide)) (Or.inl (by decide)) (Or.inl (by decide)) (by decide)).wU _
    · exact ⟨G, BY, O, RB, y, a, c, hvT, hvV, hy, hG.fr hf (fun e => (Blk.ne hG hO (by decide)) e), hBY.fr hf (fun e => (Blk.ne hBY hO (by decide)) e), hO', hRB.fr hf (fun e => (Blk.ne hRB hO (by decide)) e), own_low hown' hB, her.fr hf (fun k hk e => her.blk hO (by decide) k hk e), hnd, hGlo, hOlo, hGE⟩

end Go.Proofs.YtgfegbeickaknabGreatDoor
