/- What package manifest's set answers; the conditions: the reader's block and the scopes lie in memory. -/
import Derived.Test.YtgfegbeickaknabGreatDoorMfState
import Derived.Test.YtgfegbeickaknabGreatDoorEvOf
import Derived.Test.YtgfegbeickaknabGreatDoorSc1
import Derived.RegionTactic
import Derived.BigRegion
namespace Go.Proofs.YtgfegbeickaknabGreatDoor
open Go.RowKit

theorem is_key {k : ByteArray} {l : Tx} (h : bl k = l) : (k.toList == l) = true := by rw [bl_toList, h]; simp
theorem no_key {k : ByteArray} {l : Tx} (h : bl k ≠ l) : (k.toList == l) = false := by rw [bl_toList]; simpa using h
theorem is_keyn {k : ByteArray} {l : Tx} (h : bl k = l) : (k.toList != l) = false := by unfold bne; rw [is_key h]; rfl
theorem no_keyn {k : ByteArray} {l : Tx} (h : bl k ≠ l) : (k.toList != l) = true := by unfold bne; rw [no_key h]; rfl
theorem is_emp {k : ByteArray} (h : bl k = []) : k.toList.isEmpty = true := by rw [bl_toList, h]; rfl
theorem no_emp {k : ByteArray} (h : bl k ≠ []) : k.toList.isEmpty = false := by
  rw [bl_toList]
  cases hb : bl k with
  | nil => exact absurd hb h
  | cons a b => rfl

def exE {α : Type} : Except Int α → Int | .ok _ => 0 | .error n => n

theorem evS_len (l : Tx) (ins outs : List Bd) : (evS l ins outs).length ≤ 256 := by
  unfold evS
  split
  · rename_i h
    have := (Bool.and_eq_true_iff.1 h).2
    simpa using this
  · simp

/-- What set answers. -/
def StSays (bs ou : List Bd) (k v : Tx) (w : World) (e : Ending) (w' : World) : Prop :=
  ∃ (a : Option Addr) (n c : Nat), e = .returned (.tuple #[.slice a n c, .int .i64 (exE (stL bs ou k v))]) ∧ Q w w' ∧ ∀ bs', stL bs ou k v = .ok bs' → n = bs'.length ∧ OwnD w' w.heap.size a c bs'

set_option maxHeartbeats 4000000 in
theorem mset_any (R : Nat) (bs ou : List Bd) (ao oo : Option Addr) (ac oc : Nat) (k v : ByteArray) (w : World) (hR : R < w.heap.size) (hc : w.cell? ⟨R, 4, none⟩ = some (.slice oo ou.length oc)) (ho : Read w oo oc ou) (hb : Read w ao ac bs) (hk : k.size ≤ maxLen) (hv : v.size ≤ maxLen) :
    Calls Tryz.prog 55 #[.pointer (some ⟨R, 0, none⟩), .slice ao bs.length ac, .string k, .string v] w (StSays bs ou (bl k) (bl v) w) := by
  have HO := hide (fun w2 (q : Q w w2) => of_any v ou ou oo oo oc oc w2 hv (ho.q q) (ho.q q))
  have hne := Aft.ne w
  have hac : ∀ u : Aft w, u.to.cell? ⟨R, 4, none⟩ = some (.slice oo ou.length oc) := Aft.cell hc hR
  have HB := hide hb
  clear ho hb
  have HVL : Hid ((⟨(evS (bl v) ou ou).toArray⟩ : ByteArray).size ≤ maxLen) := by
    show _ ≤ _
    rw [← bl_size]; show (evS (bl v) ou ou).length ≤ maxLen
    have := evS_len (bl v) ou ou
    unfold maxLen; omega
  by_cases he : evE (bl v) ou ou = 0
  · have HX := hide (fun w2 (q : Q w w2) => scSet_any bs k ⟨(evS (bl v) ou ou).toArray⟩ ao ac w2 (unhide HB |>.q q).1 (unhide HB).2.1 (unhide HB).2.2.1 (unhide HB).2.2.2 hk HVL.out)
    have HS : Hid (stL bs ou (bl k) (bl v) = if setE bs k ⟨(evS (bl v) ou ou).toArray⟩ ≠ 0 then .error (rfE (setE bs k ⟨(evS (bl v) ou ou).toArray⟩)) else .ok (setB bs k ⟨(evS (bl v) ou ou).toArray⟩)) := by
      show _ = _; unfold stL; rw [if_neg (by simpa using he)]; unfold mkB; rw [show (⟨(bl k).toArray⟩ : ByteArray) = k from mk_bl k]
    unfold EvSays at HO
    rw [he] at HO
    generalize (⟨(evS (bl v) ou ou).toArray⟩ : ByteArray) = et at *
    clear he
    unfold SetSays at HX
    go_enter Tryz.func55, Tryz.ntmps55
    go_wp2_with fail
    refine wp_region_aft (by kernel_rfl) (by kernel_rfl) ?_
    repeat (go_big_quiet_step ((go_at_call 82; exact Calls.aft (unhide HO _ (Aft.q _)))))
    refine wpQuiet_nil ?_
    intro _ hw'
    obtain ⟨u, hw''⟩ := hw'
    subst hw''
    have qu := u.q
    generalize u.to = w1 at qu ⊢
    clear hac hne
    go_wp2_with fail
    refine (unhide HX w1 qu).mono ?_
    rintro e w2 ⟨a, c, rfl, ho2, q2⟩
    have HO2 := hide ho2
    clear ho2
    have HR := hide (fun w => refusal_any (setE bs k et) w)
    generalize hz : setE bs k et = z at HR HS ⊢
    clear hz
    go_wp2_with fail
    refine (unhide HR _).mono ?_
    rintro e w3 ⟨rfl, rfl⟩
    go_wp2_with fail
    go_ret2
    refine ⟨a, (setB bs k et).length, c, ?_, qu.trans q2, ?_⟩
    · rw [HS.out]
      by_cases h0 : z = 0
      · subst h0; rfl
      · rw [if_pos h0]; rfl
    · intro bs' hbs
      rw [HS.out] at hbs
      by_cases h0 : z = 0
      · subst h0
        rw [if_neg (by simp)] at hbs
        cases hbs
        exact ⟨rfl, own_low (unhide HO2) qu.size⟩
      · rw [if_pos h0] at hbs; cases hbs
  · have HS : Hid (stL bs ou (bl k) (bl v) = .error 800) := by show _ = _; unfold stL; rw [if_pos he]
    have g1 : (evE (bl v) ou ou == 0) = false := by simpa using he
    have g2 : (evE (bl v) ou ou != 0) = true := by simpa using he
    unfold EvSays at HO
    generalize evE (bl v) ou ou = en at *
    generalize (⟨(evS (bl v) ou ou).toArray⟩ : ByteArray) = et at *
    clear he
    go_enter Tryz.func55, Tryz.ntmps55
    go_wp2_with fail
    refine wp_region_aft (by kernel_rfl) (by kernel_rfl) ?_
    repeat (go_big_quiet_step ((go_at_call 82; exact Calls.aft (unhide HO _ (Aft.q _)))))
    refine wpQuiet_nil ?_
    intro _ hw'
    obtain ⟨u, hw''⟩ := hw'
    subst hw''
    have qu := u.q
    generalize u.to = w1 at qu ⊢
    clear hac hne
    go_wp2_with fail
    go_ret2
    exact ⟨none, 0, 0, by rw [HS.out]; rfl, qu, fun bs' h => by rw [HS.out] at h; cases h⟩

end Go.Proofs.YtgfegbeickaknabGreatDoor
