/- What package manifest's readLine answers for a deep line; the conditions: the reader lies in memory. -/
import Derived.Test.YtpddckgkaopnlaaGreatDoorBnMfOvr
namespace Go.Proofs.YtpddckgkaopnlaaGreatDoor
open Go.RowKit

theorem MS.q {B : Nat} {w w' : World} {R : Nat} {s : Sm} (h : MS B w R s) (hq : Q w w') : MS B w' R s := by
  obtain ⟨ok, A, vT, vV, hr, hu⟩ := h
  refine ⟨ok, A, vT, vV, hr.q hq, ?_⟩
  unfold UnS at hu ⊢
  split
  · rename_i e; rw [e] at hu; exact hu
  · rename_i r e
    rw [e] at hu
    obtain ⟨M, RB, h1, h2, h3, h4, h5, h6⟩ := hu
    exact ⟨M, RB, h1, h2, h3.q hq, h4.q hq, h5, h6⟩
  · rename_i r e
    rw [e] at hu
    obtain ⟨M, RB, h1, h2, h3, h4, h5, h6⟩ := hu
    exact ⟨M, RB, h1, h2, h3.q hq, h4.q hq, h5, h6⟩
  · rename_i x e
    rw [e] at hu
    obtain ⟨G, BY, O, RB, y, oo, oc, h1, h2, h3, h4, h5, h6, h7, h8, h9, h10, h11, h12, h13⟩ := hu
    exact ⟨G, BY, O, RB, y, oo, oc, h1, h2, h3, h4.q hq, h5.q hq, h6.q hq, h7.q hq, own_q h8 hq, h9.fr (P := fun _ => False) (Fr.of_q hq) (fun _ _ h => h), h10, h11, h12, h13⟩

theorem LSays.after {B R : Nat} {x : Except Int Sm} {w w1 w' : World} {e : Ending} (hb : Below B w w1) (h : LSays B R x w1 e w') : LSays B R x w e w' := ⟨Below.trans hb h.1, h.2⟩
theorem LSays.num {B R : Nat} {x : Except Int Sm} {w w' : World} {e : Ending} (h : LSays B R x w e w') : ∃ n : Int, e = .returned (.int .i64 n) := by
  obtain ⟨_, h2⟩ := h
  cases x with
  | error n => exact ⟨n, h2⟩
  | ok s => exact ⟨0, h2.1⟩

set_option maxHeartbeats 4000000 in
theorem deep_any (B R : Nat) (s : Sm) (t : ByteArray) (w : World) (h : MS B w R s) (hB : B ≤ w.heap.size) (ht : t.size ≤ 4096) :
    Calls Tryz.prog 12 #[.pointer (some ⟨R, 0, none⟩), .agg #[.bool true, .string t]] w (LSays B R (dpL s (bl t)) w) := by
  have HBI := hide (fun w2 => bindOf_any t w2 (by unfold maxLen; omega))
  have HMS := hide h
  have HQB : Hid (∀ w', Q w w' → Below B w w') := fun w' q => q.mono hB
  clear h
  cases hb : bnL (bl t) with
  | none =>
    have HX : Hid (dpL s (bl t) = .error 800) := by show _ = _; unfold dpL; rw [hb]
    have e1 : bnT (bl t) = ([], [], false) := by unfold bnT; rw [hb]
    rw [e1] at HBI
    clear hb e1
    go_enter Tryz.func12, Tryz.ntmps12
    go_wp2_with fail
    refine (unhide HBI _).mono ?_
    rintro e w2 ⟨rfl, q2⟩
    go_wp2_with fail
    go_ret
    exact LSays.err HX.out (HQB.out _ (((Q.refl w).alloc _).trans q2))
  | some x =>
    have HX : Hid (dpL s (bl t) = tkL s x.1 x.2) := by show _ = _; unfold dpL; rw [hb]
    have e1 : bnT (bl t) = (x.1, x.2, true) := by unfold bnT; rw [hb]
    have hxl := bnL_len hb
    rw [bl_size] at hxl
    rw [e1] at HBI
    have z1 : (⟨x.1.toArray⟩ : ByteArray).size ≤ 4096 := by rw [← bl_size]; show x.1.length ≤ 4096; omega
    have z2 : (⟨x.2.toArray⟩ : ByteArray).size ≤ 4096 := by rw [← bl_size]; show x.2.length ≤ 4096; omega
    have HXX : Hid (tkL s x.1 x.2 = tkL s (bl ⟨x.1.toArray⟩) (bl ⟨x.2.toArray⟩)) := rfl
    clear hb e1 hxl
    rw [HX.out, HXX.out]
    clear HX HXX
    dsimp only at HBI
    generalize (⟨x.1.toArray⟩ : ByteArray) = x1 at *
    generalize (⟨x.2.toArray⟩ : ByteArray) = x2 at *
    go_enter Tryz.func12, Tryz.ntmps12
    go_wp2_with fail
    refine (unhide HBI _).mono ?_
    rintro e w2 ⟨rfl, q2⟩
    have q12 := ((Q.refl w).alloc (.cells #[.bool true, .string t] 51)).trans q2
    obtain ⟨ok, A, vT, vV, hr, hu⟩ := (unhide HMS).q q12
    have c5 := hr.cells.c5
    have hB2 : B ≤ w2.heap.size := Nat.le_trans hB q12.size
    have HB12 := hide (HQB.out _ q12)
    have HR := hide hr
    have HOK := hide ok
    have HU := hide hu
    clear hr ok hu HMS HBI q2 q12
    unfold UnS at HU
    cases hun : s.un with
    | none =>
      rw [hun] at HU
      obtain ⟨rfl, rfl⟩ := unhide HU
      have HC := hide (take_none B R s x1 x2 w2 hun)
      clear hun HU
      go_wp2_with fail
      refine (unhide HC).mono ?_
      intro e w3 h3s
      obtain ⟨en, rfl⟩ := h3s.num
      have H3 := hide h3s
      clear h3s
      go_wp2_with fail
      go_ret
      exact LSays.after (unhide HB12) (unhide H3)
    | some u =>
      cases u with
      | inl r =>
        rw [hun] at HU
        obtain ⟨M, RB, h1, h2, h3, h4, h5, h6⟩ := unhide HU
        have HC := hide (take_rule B R s A vT vV r M RB x1 x2 w2 (unhide HR) hB2 (unhide HOK) hun h1 h2 h3 h4 h5 h6 z2)
        subst h1
        clear hun HU h2 h3 h4 h6
        go_wp2_with fail
        refine (unhide HC).mono ?_
        intro e w3 h3s
        obtain ⟨en, rfl⟩ := h3s.num
        have H3 := hide h3s
        clear h3s
        go_wp2_with fail
        go_ret
        exact LSays.after (unhide HB12) (unhide H3)
      | inr u =>
        cases u with
        | inl r =>
          rw [hun] at HU
          obtain ⟨M, RB, h1, h2, h3, h4, h5, h6⟩ := unhide HU
          have HC := hide (take_pool B R s A vT vV r M RB x1 x2 w2 (unhide HR) hB2 (unhide HOK) hun h1 h2 h3 h4 h5 h6)
          subst h1
          clear hun HU h2 h3 h4 h6
          go_wp2_with fail
          refine (unhide HC).mono ?_
          intro e w3 h3s
          obtain ⟨en, rfl⟩ := h3s.num
          have H3 := hide h3s
          clear h3s
          go_wp2_with fail
          go_ret
          exact LSays.after (unhide HB12) (unhide H3)
        | inr x =>
          rw [hun] at HU
          obtain ⟨G, BY, O, RB, y, oo, oc, h1, h2, h3, h4, h5, h6, h7, h8, h9, h10, h11, h12, h13⟩ := unhide HU
          have HC := hide (take_build B R s A vT vV x x1 x2 w2 (unhide HR) hB2 (unhide HOK) hun G BY O RB y oo oc h1 h2 h3 h4 h5 h6 h7 h8 h9 h10 h11 h12 h13 z1 z2)
          subst h1
          clear hun HU h2 h3 h4 h5 h6 h7 h8 h9 h10 h13
          go_wp2_with fail
          refine (unhide HC).mono ?_
          intro e w3 h3s
          obtain ⟨en, rfl⟩ := h3s.num
          have H3 := hide h3s
          clear h3s
          go_wp2_with fail
          go_ret
          exact LSays.after (unhide HB12) (unhide H3)

end Go.Proofs.YtpddckgkaopnlaaGreatDoor
