/- May the binds be a scope, as package scope's May answers; the conditions: the binds lie in memory, each text is no longer than a string can be. -/
import Derived.Test.YtdkbjbcchpenaaaScAt
import Derived.Test.YtdkbjbcchpenaaaAfQuiet
namespace Go.Proofs.Ytdkbjbcchpenaaa
open Go.RowKit

theorem at_take (bs : List Bd) (n : ByteArray) (k : Nat) (hk : k ≤ bs.length) (ao : Option Addr) (cap : Nat) (w : World) (hr : RowD w ao bs) (hs : bs.length ≤ maxLen) :
    Calls Try.prog 33 #[.slice ao k cap, .string n] w
      fun e w' => e = .returned (.int .i64 (hitI (bs.take k) n)) ∧ Q w w' := by
  have hl : (bs.take k).length = k := by rw [List.length_take]; omega
  have h := at_any (bs.take k) n ao cap w ?_ (by omega)
  · rw [hl] at h; exact h
  · rcases hr with h | ⟨g, o, e, hg, hc⟩
    · left; rw [h]; simp
    · refine Or.inr ⟨g, o, e, hg, ?_⟩
      intro j i x v hx hi hv
      refine hc j i x v ?_ hi hv
      rw [List.getElem?_take] at hx
      split at hx
      · exact hx
      · cases hx

theorem hitI_take {bs : List Bd} {n : ByteArray} {k : Nat} : decide (0 ≤ hitI (bs.take k) n) = (bs.take k).any (named n) := by
  unfold hitI
  cases h : hit (bs.take k) n with
  | none => rw [hit_none' h]; simp
  | some j =>
    obtain ⟨b, hb, hn, _⟩ := hit_some h
    have : (bs.take k).any (named n) = true := List.any_eq_true.2 ⟨b, List.mem_of_getElem? hb, hn⟩
    rw [this]; simp

theorem aft_box (w : World) (x y : ByteArray) (t : TypeId) : (∀ u : Aft (w.alloc (.cells #[.string x, .string y] t)), u.to.cell? ⟨w.heap.size, 0, none⟩ = some (.string x)) ∧ ∀ u : Aft (w.alloc (.cells #[.string x, .string y] t)), u.to.cell? ⟨w.heap.size, 1, none⟩ = some (.string y) :=
  ⟨Aft.cell (by simp) (by simp), Aft.cell (by simp) (by simp)⟩

set_option maxRecDepth 20000 in
set_option maxHeartbeats 4000000 in
theorem scMay_any (bs : List Bd) (ao : Option Addr) (cap : Nat) (w : World) (hr : RowD w ao bs) (hf : Fit bs) (hs : bs.length ≤ cap) (hcap : cap ≤ maxLen) :
    Calls Try.prog 19 #[.slice ao bs.length cap] w fun e w' => e = .returned (.bool (scOk bs)) ∧ Q w w' := by
  have hsm : bs.length ≤ maxLen := Nat.le_trans hs hcap
  by_cases h16 : 16 < bs.length
  · have HO : Hid (scOk bs = false) := scOk_long h16
    have h16' : (16 : Int) < (bs.length : Int) := by omega
    go_enter Try.func19, Try.ntmps19
    go_wp2_with fail
    go_ret
    exact ⟨ret_bool HO.out.symm, Q.refl _⟩
  have h16' : (bs.length : Int) ≤ 16 := by omega
  go_enter Try.func19, Try.ntmps19
  go_wp2_with fail
  go_loopw [10] (fun i wr => ∃ k : Nat, k ≤ bs.length ∧ i = .int .i64 k ∧ Hid (okK bs k = true) ∧ Q w wr) (fun i _ => bs.length - (intOf i).toNat)
  case atStart => exact ⟨0, Nat.zero_le _, rfl, rfl, Q.refl _⟩
  case round =>
    obtain ⟨k, hk, rfl, HA, hq⟩ := hrel
    by_cases hlt : k < bs.length
    · rcases hr.q hq with he | ⟨g, o, rfl, hg, hcell⟩
      · rw [he] at hlt; simp at hlt
      obtain ⟨b, hb⟩ : ∃ b, bs[k]? = some b := ⟨bs[k], List.getElem?_eq_getElem hlt⟩
      have c1 : wr.cell? ⟨g, o + k * 2, none⟩ = some (.string b.1) := hcell k 0 b _ hb (by decide) rfl
      have c2 : wr.cell? ⟨g, o + k * 2 + 1, none⟩ = some (.string b.2) := hcell k 1 b _ hb (by decide) rfl
      have hfb := hf.at hb
      have HM := hide (fun w' => mayBind_any b.1 b.2 w' hfb.1 hfb.2)
      have HAT := hide (fun w' (h : Q w w') => at_take bs b.1 k hk (some ⟨g, o, none⟩) cap w' (hr.q h) hsm)
      have HB := hide hb
      have k0 : (0 : Int) ≤ (k : Int) := Int.natCast_nonneg _
      have k1 : (k : Int) < (bs.length : Int) := by omega
      have k2 : (k : Int) ≤ (cap : Int) := by omega
      clear hcell hr hb hf hfb
      cases hok : mayBd b
      · have HO : Hid (scOk bs = false) := scOk_bad (unhide HB) (by unfold okAt; rw [hok]; rfl)
        unfold mayBd at hok
        rw [hok] at HM
        clear hok HA HB HAT
        obtain ⟨a1, a2⟩ := aft_box wr b.1 b.2 34
        go_wp2_with fail
        have hne := Aft.ne (wr.alloc (.cells #[.string b.1, .string b.2] 34))
        refine wp_region_aft (by kernel_rfl) (by kernel_rfl) ?_
        repeat (go_big_quiet_step ((go_at_call 32; exact Calls.aft (unhide HM _))))
        refine wpQuiet_nil ?_
        intro _ hw'
        obtain ⟨u, hw''⟩ := hw'
        subst hw''
        have qu := u.q
        generalize u.to = w1 at qu ⊢
        clear a1 a2 hne
        go_wp2_with fail
        go_ret
        exact ⟨ret_bool HO.out.symm, (hq.alloc _).trans qu⟩
      · unfold mayBd at hok
        have hmb : mayBd b = true := hok
        rw [hok] at HM
        have HZ := hide (hitI_take (bs := bs) (n := b.1) (k := k))
        have HKS := hide (okK_succ (unhide HB))
        revert HAT HZ
        generalize hitI (bs.take k) b.1 = z
        intro HAT HZ
        obtain ⟨a1, a2⟩ := aft_box wr b.1 b.2 34
        have hne := Aft.ne (wr.alloc (.cells #[.string b.1, .string b.2] 34))
        have HQ := hide (hq.alloc (.cells #[.string b.1, .string b.2] 34))
        by_cases hz : 0 ≤ z
        · have HO : Hid (scOk bs = false) := scOk_bad (unhide HB) (by unfold okAt; rw [hmb, ← unhide HZ, decide_eq_true hz]; rfl)
          clear hok hmb HA HB HZ HKS
          go_wp2_with fail
          refine wp_region_aft (by kernel_rfl) (by kernel_rfl) ?_
          repeat (go_big_quiet_step (first | (go_at_call 32; exact Calls.aft (unhide HM _)) | (go_at_call 33; exact Calls.aft (unhide HAT _ ((unhide HQ).trans (Aft.q _))))))
          refine wpQuiet_nil ?_
          intro _ hw'
          obtain ⟨u, hw''⟩ := hw'
          subst hw''
          have qu := u.q
          generalize u.to = w1 at qu ⊢
          clear a1 a2 hne
          go_wp2_with fail
          go_ret
          exact ⟨ret_bool HO.out.symm, (unhide HQ).trans qu⟩
        · have HO : Hid (okK bs (k + 1) = true) := by
            show _ = true
            rw [unhide HKS, HA.out]
            unfold okAt
            rw [hmb, ← unhide HZ, decide_eq_false hz]; rfl
          have hz2 : z < 0 := by omega
          have hz3 : decide (0 ≤ z) = false := decide_eq_false hz
          clear hok hmb HA HB HZ HKS hz
          go_wp2_with fail
          refine wp_region_aft (by kernel_rfl) (by kernel_rfl) ?_
          repeat (go_big_quiet_step (first | (go_at_call 32; exact Calls.aft (unhide HM _)) | (go_at_call 33; exact Calls.aft (unhide HAT _ ((unhide HQ).trans (Aft.q _))))))
          refine wpQuiet_nil ?_
          intro _ hw'
          obtain ⟨u, hw''⟩ := hw'
          subst hw''
          have qu := u.q
          generalize u.to = w1 at qu ⊢
          clear a1 a2 hne
          go_wp2_with fail
          go_roundw
          case rel => exact ⟨k + 1, by omega, by go_num, HO, (unhide HQ).trans qu⟩
          case measure => simp [intOf]; omega
    · have HO : Hid (scOk bs = true) := by
        show _ = _
        have hkl : k = bs.length := by omega
        have h1 := HA.out
        rw [hkl] at h1
        rw [scOk_end h1]; exact decide_eq_true (by omega)
      clear HA
      go_wp2_with fail
      go_ret
      exact ⟨ret_bool HO.out.symm, hq⟩

end Go.Proofs.Ytdkbjbcchpenaaa
