/- Several texts of mine in one: ScSmall, ScAt, AfQuiet, ScMay, ScGet, ScOwn, ScCopy, ScSet. -/
import Derived.Test.YtpddckgkaopnlaaGreatDoorWk1
import Derived.Test.YtpddckgkaopnlaaGreatDoorPk1
import Derived.Deep.QuietTactic
import Derived.BigQuiet
import Derived.Deep.RegionHeld3
/- What the small functions of package scope answer: may a bind be, where does a name stand; the conditions: the binds lie in memory, each text is no longer than a string can be. -/
namespace Go.Proofs.YtpddckgkaopnlaaGreatDoor
open Go.RowKit

set_option maxHeartbeats 1000000 in
theorem mayBind_any (n t : ByteArray) (w : World) (hn : n.size ≤ maxLen) (ht : t.size ≤ maxLen) :
    Calls Tryz.prog 148 #[.string n, .string t] w fun e w' => e = .returned (.bool (mayB n && txB t)) ∧ Q w w' := by
  have H1 := hide (may_any n · hn)
  have H2 := hide (pmay_any t 256 · ht)
  have HT : Hid ((decide ((t.size : Int) ≤ 256) && plainL (bl t)) = txB t) := rfl
  cases hm : mayB n
  · rw [hm] at H1
    clear hm
    go_enter Tryz.func148, Tryz.ntmps148
    go_wp2_with fail
    refine ((unhide H1) _).mono ?_
    rintro e w1 ⟨rfl, q1⟩
    go_wp2_with fail
    go_ret
    exact ⟨rfl, q1⟩
  · rw [hm] at H1
    clear hm
    go_enter Tryz.func148, Tryz.ntmps148
    go_wp2_with fail
    refine ((unhide H1) _).mono ?_
    rintro e w1 ⟨rfl, q1⟩
    go_wp2_with fail
    refine ((unhide H2) _).mono ?_
    rintro e w2 ⟨rfl, q2⟩
    rw [HT.out]
    go_wp2_with fail
    go_ret
    exact ⟨rfl, q1.trans q2⟩

set_option maxHeartbeats 1000000 in
theorem at1_any (b : Bd) (n : ByteArray) (p : Addr) (w : World) (hc : w.cell? p = some (.string n)) (hp : p.block < w.heap.size) :
    Calls Tryz.prog 166 #[.agg #[.string b.1, .string b.2], .pointer (some p)] w fun e w' => e = .returned (.bool (named n b)) ∧ Q w w' := by
  have HN := hide (named_toList n b)
  have hc2 : ∀ o, (w.alloc o).cell? p = some (.string n) := fun o => by
    rw [← hc]; exact ((Q.refl w).alloc o).cell hp
  go_enter Tryz.func166, Tryz.ntmps166
  go_wp2_with fail
  go_ret
  exact ⟨ret_bool (unhide HN), (Q.refl _).alloc _⟩

end Go.Proofs.YtpddckgkaopnlaaGreatDoor

/- Where a name stands among binds, as package scope's at and the library's IndexFunc answer; the conditions: the binds lie in memory. -/
namespace Go.Proofs.YtpddckgkaopnlaaGreatDoor
open Go.RowKit

abbrev RowD (w : World) (ao : Option Addr) (bs : List Bd) : Prop := RowG dv 2 w ao bs

set_option maxHeartbeats 2000000 in
theorem ixb_any (bs : List Bd) (n : ByteArray) (ao : Option Addr) (cap : Nat) (p : Addr) (w : World) (hr : RowD w ao bs) (hc : w.cell? p = some (.string n)) (hp : p.block < w.heap.size) (hs : bs.length ≤ maxLen) :
    Calls Tryz.prog 165 #[.slice ao bs.length cap, .func (.func 166) #[] #[.pointer (some p)]] w
      fun e w' => e = .returned (.int .i64 (hitI bs n)) ∧ Q w w' := by
  unfold maxLen at hs
  go_enter Tryz.func165, Tryz.ntmps165
  go_wp2_with fail
  go_loopw [8] (fun i wr => ∃ k : Nat, k ≤ bs.length ∧ i = .int .i64 k ∧ Hid ((bs.take k).any (named n) = false) ∧ Q w wr) (fun i _ => bs.length - (intOf i).toNat)
  case atStart => exact ⟨0, Nat.zero_le _, rfl, rfl, Q.refl _⟩
  case round =>
    obtain ⟨k, hk, rfl, HA, hq⟩ := hrel
    by_cases hlt : k < bs.length
    · rcases hr.q hq with he | ⟨g, o, rfl, hg, hcell⟩
      · rw [he] at hlt; simp at hlt
      obtain ⟨b, hb⟩ : ∃ b, bs[k]? = some b := ⟨bs[k], List.getElem?_eq_getElem hlt⟩
      have c1 : wr.cell? ⟨g, o + k * 2, none⟩ = some (.string b.1) := hcell k 0 b _ hb (by decide) rfl
      have c2 : wr.cell? ⟨g, o + k * 2 + 1, none⟩ = some (.string b.2) := hcell k 1 b _ hb (by decide) rfl
      have hcon := hide (at1_any b n p wr ((hq.cell hp).trans hc) (Nat.lt_of_lt_of_le hp hq.size))
      have HT := hide (any_take_succ (named n) hb)
      have HH := hide (fun h => hit_at (n := n) hb HA.out h)
      clear hcell hc hr hb
      cases hok : named n b
      · have HO : Hid ((bs.take (k + 1)).any (named n) = false) := by
          show _ = false
          rw [unhide HT, hok, HA.out]; rfl
        rw [hok] at hcon
        clear hok HT HH HA
        go_wp2_with (go_at_call 166; refine (unhide hcon).mono ?_; rintro e w2 ⟨rfl, q2⟩)
        go_roundw
        case rel => exact ⟨k + 1, by omega, by go_num, HO, hq.trans q2⟩
        case measure => simp [intOf]; omega
      · have HO : Hid (hitI bs n = k) := by
          show _ = _
          unfold hitI
          rw [unhide HH hok]
        rw [hok] at hcon
        clear hok HT HH HA
        go_wp2_with (go_at_call 166; refine (unhide hcon).mono ?_; rintro e w2 ⟨rfl, q2⟩)
        go_ret
        exact ⟨ret_int HO.out.symm, hq.trans q2⟩
    · have HO : Hid (hitI bs n = -1) := by
        show _ = _
        have := HA.out
        rw [List.take_of_length_le (by omega)] at this
        unfold hitI
        rw [hit_none this]
      clear HA
      go_wp2_with fail
      go_ret
      exact ⟨ret_int HO.out.symm, hq⟩

set_option maxHeartbeats 1000000 in
theorem at_any (bs : List Bd) (n : ByteArray) (ao : Option Addr) (cap : Nat) (w : World) (hr : RowD w ao bs) (hs : bs.length ≤ maxLen) :
    Calls Tryz.prog 149 #[.slice ao bs.length cap, .string n] w
      fun e w' => e = .returned (.int .i64 (hitI bs n)) ∧ Q w w' := by
  go_enter Tryz.func149, Tryz.ntmps149
  go_wp2_with fail
  refine (ixb_any bs n ao cap _ _ (hr.q ((Q.refl w).alloc _)) (by simp) (by simp) hs).mono ?_
  rintro e w1 ⟨rfl, q1⟩
  go_wp2_with fail
  go_ret
  exact ⟨rfl, ((Q.refl w).alloc _).trans q1⟩

end Go.Proofs.YtpddckgkaopnlaaGreatDoor

/- A region that draws its order, and whose callees make memory but turn nothing that was there: one walk in the order of the text serves every order; no conditions. -/
namespace Go.Proofs.YtpddckgkaopnlaaGreatDoor
open Go.RowKit

/-- A world behind w in which all that w held is as it was. -/
def Aft (w : World) : Type := {w' : World // Q w w'}
def Aft.to {w : World} (u : Aft w) : World := u.1
def Aft.of {w w' : World} (h : Q w w') : Aft w := ⟨w', h⟩
theorem Aft.ne (w : World) : Nonempty (Aft w) := ⟨.of (Q.refl w)⟩
theorem Aft.q {w : World} (u : Aft w) : Q w u.to := u.2

theorem wp_region_aft {P : Program} {id : Nat} {R : Exit → Act → World → Prop} {a : Act} {w : World} {l : List Oper} (hm : P.follows .mixedOrders = true) (hB : Region.lexB .any l.toArray = true)
    (h : wpQuiet P l.toArray (fun w' => ∃ u : Aft w, w' = u.to) (fun a' => ∀ w', (∃ u : Aft w, w' = u.to) → R .normal a' w') l a) : (Code.region id l.toArray true).wp P R a w :=
  wp_region_quiet (C := fun w' => ∃ u : Aft w, w' = u.to) hm hB ⟨.of (Q.refl w).drew, rfl⟩ (by simpa using h)

theorem Calls.aft {P : Program} {f : FuncId} {args : Array Value} {w : World} {u : Aft w} {v : Value}
    (h : Calls P f args u.to fun e w' => e = .returned v ∧ Q u.to w') : Calls P f args u.to fun e w'' => e = .returned v ∧ ∃ m : Aft w, w'' = m.to :=
  h.mono fun _ _ ⟨he, q⟩ => ⟨he, .of (u.q.trans q), rfl⟩

theorem Aft.cell {w : World} {p : Addr} {v : Value} (h : w.cell? p = some v) (hp : p.block < w.heap.size) (u : Aft w) : u.to.cell? p = some v := (u.q.cell hp).trans h

end Go.Proofs.YtpddckgkaopnlaaGreatDoor

/- May the binds be a scope, as package scope's May answers; the conditions: the binds lie in memory, each text is no longer than a string can be. -/
namespace Go.Proofs.YtpddckgkaopnlaaGreatDoor
open Go.RowKit

theorem at_take (bs : List Bd) (n : ByteArray) (k : Nat) (hk : k ≤ bs.length) (ao : Option Addr) (cap : Nat) (w : World) (hr : RowD w ao bs) (hs : bs.length ≤ maxLen) :
    Calls Tryz.prog 149 #[.slice ao k cap, .string n] w
      fun e w' => e = .returned (.int .i64 (hitI (bs.take k) n)) ∧ Q w w' := by
  have hl : (bs.take k).length = k := by rw [List.length_take]; omega
  have h := at_any (bs.take k) n ao cap w ?_ (by omega)
  · rw [hl] at h; exact h
  · rcases hr with h | ⟨g, o, e, hg, hc⟩
    · left; rw [h]; simp
    · refine Or.inr ⟨g, o, e, hg, ?_⟩
      intro j i x v hx hi hv
      refine hc j i x v ?_ hi hv
      rw [List.getElem?_take] at hx
      split at hx
      · exact hx
      · cases hx

theorem hitI_take {bs : List Bd} {n : ByteArray} {k : Nat} : decide (0 ≤ hitI (bs.take k) n) = (bs.take k).any (named n) := by
  unfold hitI
  cases h : hit (bs.take k) n with
  | none => rw [hit_none' h]; simp
  | some j =>
    obtain ⟨b, hb, hn, _⟩ := hit_some h
    have : (bs.take k).any (named n) = true := List.any_eq_true.2 ⟨b, List.mem_of_getElem? hb, hn⟩
    rw [this]; simp

theorem aft_box (w : World) (x y : ByteArray) (t : TypeId) : (∀ u : Aft (w.alloc (.cells #[.string x, .string y] t)), u.to.cell? ⟨w.heap.size, 0, none⟩ = some (.string x)) ∧ ∀ u : Aft (w.alloc (.cells #[.string x, .string y] t)), u.to.cell? ⟨w.heap.size, 1, none⟩ = some (.string y) :=
  ⟨Aft.cell (by simp) (by simp), Aft.cell (by simp) (by simp)⟩

set_option maxRecDepth 20000 in
set_option maxHeartbeats 4000000 in
theorem scMay_any (bs : List Bd) (ao : Option Addr) (cap : Nat) (w : World) (hr : RowD w ao bs) (hf : Fit bs) (hs : bs.length ≤ cap) (hcap : cap ≤ maxLen) :
    Calls Tryz.prog 145 #[.slice ao bs.length cap] w fun e w' => e = .returned (.bool (scOk bs)) ∧ Q w w' := by
  have hsm : bs.length ≤ maxLen := Nat.le_trans hs hcap
  by_cases h16 : 16 < bs.length
  · have HO : Hid (scOk bs = false) := scOk_long h16
    have h16' : (16 : Int) < (bs.length : Int) := by omega
    go_enter Tryz.func145, Tryz.ntmps145
    go_wp2_with fail
    go_ret
    exact ⟨ret_bool HO.out.symm, Q.refl _⟩
  have h16' : (bs.length : Int) ≤ 16 := by omega
  go_enter Tryz.func145, Tryz.ntmps145
  go_wp2_with fail
  go_loopw [10] (fun i wr => ∃ k : Nat, k ≤ bs.length ∧ i = .int .i64 k ∧ Hid (okK bs k = true) ∧ Q w wr) (fun i _ => bs.length - (intOf i).toNat)
  case atStart => exact ⟨0, Nat.zero_le _, rfl, rfl, Q.refl _⟩
  case round =>
    obtain ⟨k, hk, rfl, HA, hq⟩ := hrel
    by_cases hlt : k < bs.length
    · rcases hr.q hq with he | ⟨g, o, rfl, hg, hcell⟩
      · rw [he] at hlt; simp at hlt
      obtain ⟨b, hb⟩ : ∃ b, bs[k]? = some b := ⟨bs[k], List.getElem?_eq_getElem hlt⟩
      have c1 : wr.cell? ⟨g, o + k * 2, none⟩ = some (.string b.1) := hcell k 0 b _ hb (by decide) rfl
      have c2 : wr.cell? ⟨g, o + k * 2 + 1, none⟩ = some (.string b.2) := hcell k 1 b _ hb (by decide) rfl
      have hfb := hf.at hb
      have HM := hide (fun w' => mayBind_any b.1 b.2 w' hfb.1 hfb.2)
      have HAT := hide (fun w' (h : Q w w') => at_take bs b.1 k hk (some ⟨g, o, none⟩) cap w' (hr.q h) hsm)
      have HB := hide hb
      have k0 : (0 : Int) ≤ (k : Int) := Int.natCast_nonneg _
      have k1 : (k : Int) < (bs.length : Int) := by omega
      have k2 : (k : Int) ≤ (cap : Int) := by omega
      clear hcell hr hb hf hfb
      cases hok : mayBd b
      · have HO : Hid (scOk bs = false) := scOk_bad (unhide HB) (by unfold okAt; rw [hok]; rfl)
        unfold mayBd at hok
        rw [hok] at HM
        clear hok HA HB HAT
        obtain ⟨a1, a2⟩ := aft_box wr b.1 b.2 169
        go_wp2_with fail
        have hne := Aft.ne (wr.alloc (.cells #[.string b.1, .string b.2] 169))
        refine wp_region_aft (by kernel_rfl) (by kernel_rfl) ?_
        repeat (go_big_quiet_step ((go_at_call 148; exact Calls.aft (unhide HM _))))
        refine wpQuiet_nil ?_
        intro _ hw'
        obtain ⟨u, hw''⟩ := hw'
        subst hw''
        have qu := u.q
        generalize u.to = w1 at qu ⊢
        clear a1 a2 hne
        go_wp2_with fail
        go_ret
        exact ⟨ret_bool HO.out.symm, (hq.alloc _).trans qu⟩
      · unfold mayBd at hok
        have hmb : mayBd b = true := hok
        rw [hok] at HM
        have HZ := hide (hitI_take (bs := bs) (n := b.1) (k := k))
        have HKS := hide (okK_succ (unhide HB))
        revert HAT HZ
        generalize hitI (bs.take k) b.1 = z
        intro HAT HZ
        obtain ⟨a1, a2⟩ := aft_box wr b.1 b.2 169
        have hne := Aft.ne (wr.alloc (.cells #[.string b.1, .string b.2] 169))
        have HQ := hide (hq.alloc (.cells #[.string b.1, .string b.2] 169))
        by_cases hz : 0 ≤ z
        · have HO : Hid (scOk bs = false) := scOk_bad (unhide HB) (by unfold okAt; rw [hmb, ← unhide HZ, decide_eq_true hz]; rfl)
          clear hok hmb HA HB HZ HKS
          go_wp2_with fail
          refine wp_region_aft (by kernel_rfl) (by kernel_rfl) ?_
          repeat (go_big_quiet_step (first | (go_at_call 148; exact Calls.aft (unhide HM _)) | (go_at_call 149; exact Calls.aft (unhide HAT _ ((unhide HQ).trans (Aft.q _))))))
          refine wpQuiet_nil ?_
          intro _ hw'
          obtain ⟨u, hw''⟩ := hw'
          subst hw''
          have qu := u.q
          generalize u.to = w1 at qu ⊢
          clear a1 a2 hne
          go_wp2_with fail
          go_ret
          exact ⟨ret_bool HO.out.symm, (unhide HQ).trans qu⟩
        · have HO : Hid (okK bs (k + 1) = true) := by
            show _ = true
            rw [unhide HKS, HA.out]
            unfold okAt
            rw [hmb, ← unhide HZ, decide_eq_false hz]; rfl
          have hz2 : z < 0 := by omega
          have hz3 : decide (0 ≤ z) = false := decide_eq_false hz
          clear hok hmb HA HB HZ HKS hz
          go_wp2_with fail
          refine wp_region_aft (by kernel_rfl) (by kernel_rfl) ?_
          repeat (go_big_quiet_step (first | (go_at_call 148; exact Calls.aft (unhide HM _)) | (go_at_call 149; exact Calls.aft (unhide HAT _ ((unhide HQ).trans (Aft.q _))))))
          refine wpQuiet_nil ?_
          intro _ hw'
          obtain ⟨u, hw''⟩ := hw'
          subst hw''
          have qu := u.q
          generalize u.to = w1 at qu ⊢
          clear a1 a2 hne
          go_wp2_with fail
          go_roundw
          case rel => exact ⟨k + 1, by omega, by go_num, HO, (unhide HQ).trans qu⟩
          case measure => simp [intOf]; omega
    · have HO : Hid (scOk bs = true) := by
        show _ = _
        have hkl : k = bs.length := by omega
        have h1 := HA.out
        rw [hkl] at h1
        rw [scOk_end h1]; exact decide_eq_true (by omega)
      clear HA
      go_wp2_with fail
      go_ret
      exact ⟨ret_bool HO.out.symm, hq⟩

end Go.Proofs.YtpddckgkaopnlaaGreatDoor

/- What package scope's Get answers, and the document's own ScopeMay and GetVar; the conditions: the binds lie in memory, each text is no longer than a string can be. -/
namespace Go.Proofs.YtpddckgkaopnlaaGreatDoor
open Go.RowKit

theorem hitI_neg {bs : List Bd} {n : ByteArray} (h : hit bs n = none) : hitI bs n = -1 := by unfold hitI; rw [h]
theorem hitI_at {bs : List Bd} {n : ByteArray} {k : Nat} (h : hit bs n = some k) : hitI bs n = (k : Int) := by unfold hitI; rw [h]

set_option maxHeartbeats 2000000 in
theorem scGet_any (bs : List Bd) (n : ByteArray) (ao : Option Addr) (cap : Nat) (w : World) (hr : RowD w ao bs) (hf : Fit bs) (hs : bs.length ≤ cap) (hcap : cap ≤ maxLen) :
    Calls Tryz.prog 164 #[.slice ao bs.length cap, .string n] w fun e w' => e = .returned (.string (getB bs n)) ∧ Q w w' := by
  have HM := hide (fun w' (h : Q w w') => scMay_any bs ao cap w' (hr.q h) hf hs hcap)
  have HAT := hide (fun w' (h : Q w w') => at_any bs n ao cap w' (hr.q h) (Nat.le_trans hs hcap))
  cases hm : scOk bs
  · have HG := hide (get_no (n := n) hm)
    rw [hm] at HM
    clear hm
    go_enter Tryz.func164, Tryz.ntmps164
    go_wp2_with fail
    refine (unhide HM _ (Q.refl _)).mono ?_
    rintro e w1 ⟨rfl, q1⟩
    go_wp2_with fail
    go_ret
    exact ⟨by rw [unhide HG]; rfl, q1⟩
  cases hh : hit bs n with
  | none =>
    have HG := hide (get_none hh)
    have HI := hide (hitI_neg hh)
    rw [hm] at HM
    rw [hitI_neg hh] at HAT
    clear hm hh
    go_enter Tryz.func164, Tryz.ntmps164
    go_wp2_with fail
    refine (unhide HM _ (Q.refl _)).mono ?_
    rintro e w1 ⟨rfl, q1⟩
    go_wp2_with fail
    refine (unhide HAT _ q1).mono ?_
    rintro e w2 ⟨rfl, q2⟩
    go_wp2_with fail
    go_ret
    exact ⟨by rw [unhide HG]; rfl, q1.trans q2⟩
  | some k =>
    obtain ⟨b, hb, _, _⟩ := hit_some hh
    have HG := hide (get_hit hm hh hb)
    have hlt := (List.getElem?_eq_some_iff.1 hb).1
    have hsz := (mayBd_size ((scOk_parts hm).2 k b hb).1).2
    have HC := hide (clone_any b.2 · (by omega))
    rw [hm] at HM
    rw [hitI_at hh] at HAT
    rcases hr with he | ⟨g, o, rfl, hg, hcell⟩
    · rw [he] at hlt; simp at hlt
    have c2 : w.cell? ⟨g, o + k * 2 + 1, none⟩ = some (.string b.2) := hcell k 1 b _ hb (by decide) rfl
    have k0 : (0 : Int) ≤ (k : Int) := Int.natCast_nonneg _
    have k1 : (k : Int) < (bs.length : Int) := by omega
    clear hm hh hb hcell hf
    go_enter Tryz.func164, Tryz.ntmps164
    go_wp2_with fail
    refine (unhide HM _ (Q.refl _)).mono ?_
    rintro e w1 ⟨rfl, q1⟩
    go_wp2_with fail
    refine (unhide HAT _ q1).mono ?_
    rintro e w2 ⟨rfl, q2⟩
    have d2 : w2.cell? ⟨g, o + k * 2 + 1, none⟩ = some (.string b.2) := ((q1.trans q2).cell (p := ⟨g, o + k * 2 + 1, none⟩) hg).trans c2
    clear c2
    go_wp2_with fail
    refine (unhide HC _).mono ?_
    rintro e w3 ⟨rfl, q3⟩
    go_wp2_with fail
    go_ret
    exact ⟨by rw [unhide HG]; rfl, (q1.trans q2).trans q3⟩

theorem any_no {bs : List Bd} {n : ByteArray} {i : Nat} (h : ∀ j c, j < i → bs[j]? = some c → named n c = false) : (bs.take i).any (named n) = false := by
  rw [List.any_eq_false]
  intro x hx
  rw [List.mem_take_iff_getElem] at hx
  obtain ⟨j, hj, rfl⟩ := hx
  have := h j bs[j] (by omega) (List.getElem?_eq_getElem (by omega))
  simp [this]

set_option maxRecDepth 20000 in
set_option maxHeartbeats 4000000 in
theorem rMay_any (bs : List Bd) (ao : Option Addr) (cap : Nat) (w : World) (hr : RowD w ao bs) (hf : Fit bs) (hs : bs.length ≤ maxLen) :
    Calls Tryz.prog 121 #[.slice ao bs.length cap] w fun e w' => e = .returned (.bool (scOk bs)) ∧ Q w w' := by
  unfold maxLen at hs
  go_enter Tryz.func121, Tryz.ntmps121
  go_wp2_with fail
  go_loopw [3] (fun i wr => ∃ k : Nat, k ≤ bs.length ∧ i = .int .i64 k ∧ Hid (okK bs k = true) ∧ Q w wr) (fun i _ => bs.length - (intOf i).toNat)
  case atStart => exact ⟨0, Nat.zero_le _, rfl, rfl, Q.refl _⟩
  case round =>
    obtain ⟨k, hk, rfl, HA, hq⟩ := hrel
    by_cases hlt : k < bs.length
    · have hr2 := hr.q hq
      rcases hr.q hq with he | ⟨g, o, rfl, hg, hcell⟩
      · rw [he] at hlt; simp at hlt
      obtain ⟨b, hb⟩ : ∃ b, bs[k]? = some b := ⟨bs[k], List.getElem?_eq_getElem hlt⟩
      have c1 : wr.cell? ⟨g, o + k * 2, none⟩ = some (.string b.1) := hcell k 0 b _ hb (by decide) rfl
      have c2 : wr.cell? ⟨g, o + k * 2 + 1, none⟩ = some (.string b.2) := hcell k 1 b _ hb (by decide) rfl
      have hfb := hf.at hb
      have HN := hide (nameMay_any b.1 · hfb.1)
      have HP := hide (rplain_any b.2 0 256 · hfb.2)
      have HPE : Hid ((plainL (bl b.2) && decide ((0 : Int) ≤ (b.2.size : Int)) && decide ((b.2.size : Int) ≤ 256)) = txB b.2) := by
        show _ = _
        unfold txB
        rw [decide_eq_true (show (0 : Int) ≤ (b.2.size : Int) by omega), Bool.and_true, Bool.and_comm]
      rw [HPE.out] at HP
      have HB := hide hb
      have k0 : (0 : Int) ≤ (k : Int) := Int.natCast_nonneg _
      have k1 : (k : Int) < (bs.length : Int) := by omega
      clear hb hfb HPE
      cases hn : mayB b.1
      · have HO : Hid (scOk bs = false) := scOk_bad (unhide HB) (by unfold okAt mayBd; rw [hn]; rfl)
        rw [hn] at HN
        clear hn HA HB HP hcell hr hr2 hf
        go_wp2_with (go_at_call 51; refine (unhide HN _).mono ?_; rintro e w2 ⟨rfl, rfl⟩)
        go_ret
        exact ⟨ret_bool HO.out.symm, hq⟩
      cases ht : txB b.2
      · have HO : Hid (scOk bs = false) := scOk_bad (unhide HB) (by unfold okAt mayBd; rw [ht, Bool.and_false]; rfl)
        rw [hn] at HN
        rw [ht] at HP
        clear hn ht HA HB hcell hr hr2 hf
        go_wp2_with (first | (go_at_call 51; refine (unhide HN _).mono ?_; rintro e w2 ⟨rfl, rfl⟩) | (go_at_call 40; refine (unhide HP _).mono ?_; rintro e w2 ⟨rfl, rfl⟩))
        go_ret
        exact ⟨ret_bool HO.out.symm, hq⟩
      have hmb : Hid (mayBd b = true) := by show _ = true; unfold mayBd; rw [hn, ht]; rfl
      rw [hn] at HN
      rw [ht] at HP
      have HR := hide hr
      have hgw := hg
      clear hn ht hcell hr hf hr2 c1 c2
      have c1 : wr.cell? ⟨g, o + k * 2, none⟩ = some (.string b.1) := by
        rcases (unhide HR).q hq with he | ⟨g', o', e, _, hc⟩
        · rw [he] at hlt; simp at hlt
        · cases e; exact hc k 0 b _ (unhide HB) (by decide) rfl
      have c2 : wr.cell? ⟨g, o + k * 2 + 1, none⟩ = some (.string b.2) := by
        rcases (unhide HR).q hq with he | ⟨g', o', e, _, hc⟩
        · rw [he] at hlt; simp at hlt
        · cases e; exact hc k 1 b _ (unhide HB) (by decide) rfl
      go_wp2_with (first | (go_at_call 51; refine (unhide HN _).mono ?_; rintro e w2 ⟨rfl, rfl⟩) | (go_at_call 40; refine (unhide HP _).mono ?_; rintro e w2 ⟨rfl, rfl⟩))
      go_loopw [4] (fun i wr => ∃ j : Nat, j ≤ k ∧ i = .int .i64 j ∧ Hid ((bs.take j).any (named b.1) = false) ∧ Q w wr) (fun i _ => k - (intOf i).toNat)
      case atStart => exact ⟨0, Nat.zero_le _, rfl, rfl, hq⟩
      case round =>
        obtain ⟨j, hj, rfl, HJ, hq2⟩ := hrel
        by_cases hjk : j < k
        · rcases (unhide HR).q hq2 with he | ⟨g', o', e, hg', hc⟩
          · rw [he] at hlt; simp at hlt
          cases e
          obtain ⟨c, hcj⟩ : ∃ c, bs[j]? = some c := ⟨bs[j], List.getElem?_eq_getElem (by omega)⟩
          have d1 : wr.cell? ⟨g, o + k * 2, none⟩ = some (.string b.1) := hc k 0 b _ (unhide HB) (by decide) rfl
          have d2 : wr.cell? ⟨g, o + j * 2, none⟩ = some (.string c.1) := hc j 0 c _ hcj (by decide) rfl
          have HT := hide (any_take_succ (named b.1) hcj)
          have HM := hide (show named b.1 c = true → (bs.take k).any (named b.1) = true from fun h => List.any_eq_true.2 ⟨c, List.mem_of_getElem? (i := j) (by rw [List.getElem?_take, if_pos hjk]; exact hcj), h⟩)
          have htl := named_toList b.1 c
          have j0 : (0 : Int) ≤ (j : Int) := Int.natCast_nonneg _
          have j1 : (j : Int) < (bs.length : Int) := by omega
          have hqq : ∀ n, Q w (wr.drewN n) := fun n => hq2.drewN n
          clear hc hcj c1 c2
          cases hnc : named b.1 c
          · rw [hnc] at htl
            have HO : Hid ((bs.take (j + 1)).any (named b.1) = false) := by
              show _ = false
              rw [unhide HT, hnc, HJ.out]; rfl
            clear hnc HT HM HJ
            go_wp2_with fail
            go_quiet (fail)
            go_wp2_with fail
            go_roundw
            case rel => exact ⟨j + 1, by omega, by go_num, HO, hqq _⟩
            case measure => simp [intOf]; omega
          · rw [hnc] at htl
            have HO : Hid (scOk bs = false) := scOk_bad (unhide HB) (by unfold okAt; rw [unhide HM hnc, hmb.out]; rfl)
            clear hnc HT HM HJ
            go_wp2_with fail
            go_quiet (fail)
            go_wp2_with fail
            go_ret
            exact ⟨ret_bool HO.out.symm, hqq _⟩
        · have hjk2 : j = k := by omega
          have HO : Hid (okK bs (k + 1) = true) := by
            show _ = true
            rw [okK_succ (unhide HB), HA.out]
            unfold okAt
            have := HJ.out
            rw [hjk2] at this
            rw [hmb.out, this]; rfl
          clear HJ hjk2 c1 c2
          go_wp2_with fail
          go_roundw
          case rel => exact ⟨k + 1, by omega, by go_num, HO, hq2⟩
          case measure => simp [intOf]; omega
    · have HO : Hid (scOk bs = decide (bs.length ≤ 16)) := by
        show _ = _
        have hkl : k = bs.length := by omega
        have h1 := HA.out
        rw [hkl] at h1
        exact scOk_end h1
      clear HA
      by_cases h16 : bs.length ≤ 16
      · have h16' : (bs.length : Int) ≤ 16 := by omega
        go_wp2_with fail
        go_ret
        exact ⟨ret_bool (by rw [HO.out]; simp [h16] <;> omega), hq⟩
      · have h16' : (16 : Int) < (bs.length : Int) := by omega
        go_wp2_with fail
        go_ret
        exact ⟨ret_bool (by rw [HO.out]; simp [h16] <;> omega), hq⟩

set_option maxHeartbeats 2000000 in
theorem rGet_any (bs : List Bd) (n : ByteArray) (ao : Option Addr) (cap : Nat) (w : World) (hr : RowD w ao bs) (hf : Fit bs) (hs : bs.length ≤ maxLen) :
    Calls Tryz.prog 122 #[.slice ao bs.length cap, .string n] w fun e w' => e = .returned (.string (getB bs n)) ∧ Q w w' := by
  have HM := hide (fun w' (h : Q w w') => rMay_any bs ao cap w' (hr.q h) hf hs)
  unfold maxLen at hs
  cases hm : scOk bs
  · have HG := hide (get_no (n := n) hm)
    rw [hm] at HM
    clear hm
    by_cases h0 : bs.length = 0
    · go_enter Tryz.func122, Tryz.ntmps122
      go_wp2_with fail
      go_loopw [5] (fun i wr => i = .int .i64 0 ∧ wr = w) (fun _ _ => 0)
      case atStart => exact ⟨rfl, rfl⟩
      case round =>
        obtain ⟨rfl, rfl⟩ := hrel
        go_wp2_with fail
        go_ret
        exact ⟨by rw [unhide HG]; rfl, Q.refl _⟩
    · have h1 : (0 : Int) < (bs.length : Int) := by omega
      go_enter Tryz.func122, Tryz.ntmps122
      go_wp2_with fail
      go_loopw [5] (fun i wr => i = .int .i64 0 ∧ wr = w) (fun _ _ => 0)
      case atStart => exact ⟨rfl, rfl⟩
      case round =>
        obtain ⟨rfl, rfl⟩ := hrel
        go_wp2_with fail
        refine (unhide HM _ (Q.refl _)).mono ?_
        rintro e w1 ⟨rfl, q1⟩
        go_wp2_with fail
        go_ret
        exact ⟨by rw [unhide HG]; rfl, q1⟩
  rw [hm] at HM
  have HOK := hide hm
  clear hm
  go_enter Tryz.func122, Tryz.ntmps122
  go_wp2_with fail
  go_loopw [5] (fun i wr => ∃ k : Nat, k ≤ bs.length ∧ i = .int .i64 k ∧ Hid ((bs.take k).any (named n) = false) ∧ Q w wr) (fun i _ => bs.length - (intOf i).toNat)
  case atStart => exact ⟨0, Nat.zero_le _, rfl, rfl, Q.refl _⟩
  case round =>
    obtain ⟨k, hk, rfl, HA, hq⟩ := hrel
    by_cases hlt : k < bs.length
    · rcases hr with he | ⟨g, o, rfl, hg, hcell⟩
      · rw [he] at hlt; simp at hlt
      obtain ⟨b, hb⟩ : ∃ b, bs[k]? = some b := ⟨bs[k], List.getElem?_eq_getElem hlt⟩
      have c1 : w.cell? ⟨g, o + k * 2, none⟩ = some (.string b.1) := hcell k 0 b _ hb (by decide) rfl
      have c2 : w.cell? ⟨g, o + k * 2 + 1, none⟩ = some (.string b.2) := hcell k 1 b _ hb (by decide) rfl
      have k0 : (0 : Int) ≤ (k : Int) := Int.natCast_nonneg _
      have k1 : (k : Int) < (bs.length : Int) := by omega
      have htl := named_toList n b
      have HT := hide (any_take_succ (named n) hb)
      have HG := hide (fun h => get_hit (unhide HOK) (hit_at (n := n) hb HA.out h) hb)
      clear hb hcell hf
      cases hnb : named n b
      · rw [hnb] at htl
        have HO : Hid ((bs.take (k + 1)).any (named n) = false) := by
          show _ = false
          rw [unhide HT, hnb, HA.out]; rfl
        clear hnb HT HG HA
        go_wp2_with fail
        refine (unhide HM _ hq).mono ?_
        rintro e w1 ⟨rfl, q1⟩
        have d1 := ((hq.trans q1).cell (p := ⟨g, o + k * 2, none⟩) hg).trans c1
        have hq1 := hq.trans q1
        clear c1 c2 hq q1
        go_wp2_with fail
        go_roundw
        case rel => exact ⟨k + 1, by omega, by go_num, HO, hq1⟩
        case measure => simp [intOf]; omega
      · rw [hnb] at htl
        have HO := hide (unhide HG hnb)
        clear hnb HT HG HA
        go_wp2_with fail
        refine (unhide HM _ hq).mono ?_
        rintro e w1 ⟨rfl, q1⟩
        have d1 := ((hq.trans q1).cell (p := ⟨g, o + k * 2, none⟩) hg).trans c1
        have d2 := ((hq.trans q1).cell (p := ⟨g, o + k * 2 + 1, none⟩) hg).trans c2
        have hq1 := hq.trans q1
        clear c1 c2 hq q1
        go_wp2_with fail
        go_ret
        exact ⟨by rw [unhide HO]; rfl, hq1⟩
    · have HO := hide (get_none (hit_none (n := n) (by have := HA.out; rw [List.take_of_length_le (by omega)] at this; exact this)))
      clear HA
      go_wp2_with fail
      go_ret
      exact ⟨by rw [unhide HO]; rfl, hq⟩

end Go.Proofs.YtpddckgkaopnlaaGreatDoor

/- Rows of binds that a call owns, and package scope's May and Get at binds whose answer is told; the conditions: the binds lie in memory; lengths. -/
namespace Go.Proofs.YtpddckgkaopnlaaGreatDoor
open Go.RowKit

theorem Tryz.infoD : (Tryz.prog.info? 169).map (fun i => (i.zero, i.size, i.bytes)) = some (some (.agg #[.string ByteArray.empty, .string ByteArray.empty]), 2, 32) := by kernel_rfl

abbrev OwnD (w : World) (B : Nat) (ao : Option Addr) (cap : Nat) (bs : List Bd) : Prop := w.ownsRow B 169 2 (.slice ao bs.length cap) bs.length (lay dv bs)

theorem OwnD.snoc {w : World} {B cap : Nat} {ao : Option Addr} {bs : List Bd} {b : Bd} (h : w.ownsRow B 169 2 (.slice ao (bs.length + 1) cap) (bs.length + 1) (lay dv bs ++ [.string b.1, .string b.2])) : OwnD w B ao cap (bs ++ [b]) := by
  show w.ownsRow B _ 2 (.slice ao (bs ++ [b]).length cap) (bs ++ [b]).length (lay dv (bs ++ [b]))
  rw [lay_snoc, List.length_append]; exact h
theorem OwnD.row {w : World} {B : Nat} {ao : Option Addr} {cap : Nat} {bs : List Bd} (h : OwnD w B ao cap bs) : RowD w ao bs := RowG.own dv_len (by decide) h
theorem one_ss (x y : ByteArray) : ∀ u ∈ [Value.string x, .string y], u.oneCell' = true := by intro u hu; simp at hu; rcases hu with rfl | rfl <;> rfl

theorem box_s (wr : World) (x y : ByteArray) (t : TypeId) : (wr.alloc (.cells #[.string x, .string y] t)).drew.cell? ⟨wr.heap.size, 0, none⟩ = some (.string x) ∧ (wr.alloc (.cells #[.string x, .string y] t)).drew.cell? ⟨wr.heap.size, 1, none⟩ = some (.string y) :=
  ⟨by simp, by simp⟩
theorem box_t {u u' : World} {g : Nat} {x y : ByteArray} (h : u.cell? ⟨g, 0, none⟩ = some (.string x) ∧ u.cell? ⟨g, 1, none⟩ = some (.string y)) (q : Q u u') : u'.cell? ⟨g, 0, none⟩ = some (.string x) ∧ u'.cell? ⟨g, 1, none⟩ = some (.string y) :=
  have hg := World.block_lt_of_cell? u _ h.1
  ⟨(q.cell (p := ⟨g, 0, none⟩) hg).trans h.1, (q.cell (p := ⟨g, 1, none⟩) hg).trans h.2⟩
theorem box_g {u u' : World} {g : Nat} {x y : ByteArray} {row : Option Nat} (h : u.cell? ⟨g, 0, none⟩ = some (.string x) ∧ u.cell? ⟨g, 1, none⟩ = some (.string y)) (hgrow : u.grownBy u' row) (hne : row ≠ some g) : u'.cell? ⟨g, 0, none⟩ = some (.string x) ∧ u'.cell? ⟨g, 1, none⟩ = some (.string y) :=
  have hg := World.block_lt_of_cell? u _ h.1
  ⟨(hgrow.cell_far ⟨g, 0, none⟩ hg (Ne.symm hne)).trans h.1, (hgrow.cell_far ⟨g, 1, none⟩ hg (Ne.symm hne)).trans h.2⟩

theorem one_layD (bs : List Bd) : ∀ u ∈ lay dv bs, u.oneCell' = true := by
  intro u hu
  unfold lay at hu
  obtain ⟨p, _, hp⟩ := List.mem_flatMap.1 hu
  simp [dv] at hp
  rcases hp with rfl | rfl <;> rfl

theorem get_lit {v : ByteArray} (bs : List Bd) (n : ByteArray) (ao : Option Addr) (cap : Nat) (w : World) (h : getB bs n = v) (hr : RowD w ao bs) (hf : Fit bs) (hs : bs.length ≤ cap) (hcap : cap ≤ maxLen) :
    Calls Tryz.prog 164 #[.slice ao bs.length cap, .string n] w fun e w' => e = .returned (.string v) ∧ Q w w' := by
  have := scGet_any bs n ao cap w hr hf hs hcap
  rw [h] at this; exact this
theorem may_lit {v : Bool} (bs : List Bd) (ao : Option Addr) (cap : Nat) (w : World) (h : scOk bs = v) (hr : RowD w ao bs) (hf : Fit bs) (hs : bs.length ≤ cap) (hcap : cap ≤ maxLen) :
    Calls Tryz.prog 145 #[.slice ao bs.length cap] w fun e w' => e = .returned (.bool v) ∧ Q w w' := by
  have := scMay_any bs ao cap w hr hf hs hcap
  rw [h] at this; exact this

theorem fit_of {bs : List Bd} (h : bs.all (fun b => decide (b.1.size ≤ 4096) && decide (b.2.size ≤ 4096)) = true) : Fit bs := by
  intro b hb
  have := List.all_eq_true.1 h b hb
  simp at this
  unfold maxLen; omega

end Go.Proofs.YtpddckgkaopnlaaGreatDoor

/- Rows of binds that a call owns: one more appended; package scope's copied; the conditions: at most 16 binds, each of short texts. -/
namespace Go.Proofs.YtpddckgkaopnlaaGreatDoor
open Go.RowKit

set_option maxRecDepth 20000 in
set_option maxHeartbeats 4000000 in
theorem copied_any (bs : List Bd) (ao : Option Addr) (cap : Nat) (w : World) (hr : RowD w ao bs) (hl : bs.length ≤ 16) (hm : ∀ b ∈ bs, b.1.size ≤ 16 ∧ b.2.size ≤ 256) :
    Calls Tryz.prog 150 #[.slice ao bs.length cap] w fun e w' => ∃ ao' cap', e = .returned (.slice ao' bs.length cap') ∧ OwnD w' w.heap.size ao' cap' bs ∧ Q w w' := by
  obtain ⟨i0, hi, hz0, hz1, hz2⟩ := info_parts Tryz.infoD
  go_enter Tryz.func150, Tryz.ntmps150
  go_wp2_with fail
  go_loopw [3, 8] (fun v i wr => ∃ (k : Nat) (bo : Option Addr) (bcap : Nat), k ≤ bs.length ∧ i = .int .i64 k ∧ v = .slice bo k bcap ∧ Hid (wr.ownsRow w.heap.size 169 2 (.slice bo k bcap) k (lay dv (bs.take k))) ∧ Q w wr) (fun _ i _ => bs.length - (intOf i).toNat)
  case atStart => exact ⟨0, none, 0, Nat.zero_le _, rfl, rfl, World.ownsRow_nil _ _ _ _, Q.refl _⟩
  case round =>
    obtain ⟨k, bo, bcap, hk, rfl, rfl, HO, hq⟩ := hrel
    by_cases hlt : k < bs.length
    · rcases hr.q hq with he | ⟨g, o, rfl, hg, hcell⟩
      · rw [he] at hlt; simp at hlt
      obtain ⟨b, hb⟩ : ∃ b, bs[k]? = some b := ⟨bs[k], List.getElem?_eq_getElem hlt⟩
      have c1 : wr.cell? ⟨g, o + k * 2, none⟩ = some (.string b.1) := hcell k 0 b _ hb (by decide) rfl
      have c2 : wr.cell? ⟨g, o + k * 2 + 1, none⟩ = some (.string b.2) := hcell k 1 b _ hb (by decide) rfl
      have hbm := hm b (List.mem_of_getElem? hb)
      have HC1 := hide (clone_any b.1 · (by omega))
      have HC2 := hide (clone_any b.2 · (by omega))
      have HT : Hid (lay dv (bs.take (k + 1)) = lay dv (bs.take k) ++ [.string b.1, .string b.2]) := by
        show _ = _
        rw [List.take_add_one, hb]
        exact lay_snoc dv _ b
      have hS0 := box_s wr b.1 b.2 169
      have HW := hide ((Q.refl wr).alloc (.cells #[.string b.1, .string b.2] 169)).drew
      have HNE : Hid ((Value.slice bo k bcap).ownBlock ≠ some wr.heap.size) := fun h => by have := (HO.out.lt _ h).2; omega
      have hBw := hq.size
      clear hcell hb hbm hm
      go_wp2_with fail
      first
        | (go_region_held3 (fun w' => w'.cell? ⟨wr.heap.size, 0, none⟩ = some (.string b.1) ∧ w'.cell? ⟨wr.heap.size, 1, none⟩ = some (.string b.2))
            (first | exact hS0 | exact hS1 | exact hS2 | exact box_t hS2 ((Q.refl _).alloc _) | exact hS3)
            (first
              | (go_at_call_of 113 b.1; refine (unhide HC1 _).mono ?_; rintro e w1 ⟨rfl, q1⟩; have hS1 := box_t hS0 q1)
              | (go_at_call_of 113 b.2; refine (unhide HC2 _).mono ?_; rintro e w2 ⟨rfl, q2⟩; have hS2 := box_t hS1 q2)
              | (refine step_append_lies _ (by rfl) _ _ _ (by rfl) w.heap.size 169 i0 _ 2 32 Tryz.underlying47 hi hz0 hz1 hz2 rfl (by decide) (.slice bo k bcap) k (lay dv (bs.take k)) (by rfl) ((own_q HO.out ((unhide HW).trans (q1.trans q2))).alloc _) ⟨w2.heap.size, 0, none⟩ 1 1 [.string b.1, .string b.2] (by rfl) (by rfl) (news_new w2 #[.string b.1, .string b.2] _) (one_ss _ _) (by decide) (by unfold maxLen; omega) (by omega) (le_alloc (Nat.le_trans hBw (Nat.le_trans (unhide HW).size (Nat.le_trans q1.size q2.size))) _) (w2.heap.size + 1) (by simp) ?_
                 intro g3 cp3 w3 hown3 hgrow3 hor3 hlt3
                 have hS3 := box_g (box_t hS2 ((Q.refl _).alloc _)) hgrow3 HNE.out)))
        | fail
      have hq2 : Q w w2 := hq.trans ((unhide HW).trans (q1.trans q2))
      have hq3 : Q w w3 := Below.grown (hq2.alloc _) hgrow3 (le_alloc hq2.size _) (fun r hr => (HO.out.lt r hr).1)
      have HO3 : Hid (w3.ownsRow w.heap.size 169 2 (.slice (some ⟨g3, 0, none⟩) (k + 1) cp3) (k + 1) (lay dv (bs.take (k + 1)))) := by
        show World.ownsRow _ _ _ _ _ _ _
        rw [HT.out]; exact hown3
      clear hown3 hgrow3 hor3 hS0 hS1 hS2 hS3 q1 q2 HT HO c1 c2
      go_wp2_with fail
      go_roundw
      case rel => exact ⟨k + 1, some ⟨g3, 0, none⟩, cp3, by omega, by go_num, rfl, HO3, hq3⟩
      case measure => simp [intOf]; omega
    · have hkl : k = bs.length := by omega
      have HF : Hid (OwnD wr w.heap.size bo bcap bs) := by
        have h := HO.out
        rw [List.take_of_length_le (by omega), hkl] at h
        exact h
      clear HO
      subst hkl
      go_wp2_with fail
      go_ret
      exact ⟨bo, bcap, rfl, HF.out, hq⟩

end Go.Proofs.YtpddckgkaopnlaaGreatDoor

/- What package scope's Set answers, and the document's own Set; the conditions: the binds lie in memory, each text is no longer than a string can be. -/
namespace Go.Proofs.YtpddckgkaopnlaaGreatDoor
open Go.RowKit

theorem set_nil (w : World) (B : Nat) {bs : List Bd} {n t : ByteArray} {m : Int} (h : setB bs n t = [] ∧ setE bs n t = m) : ∃ ao cap, Ending.returned (.tuple #[.slice none 0 0, .int .i64 m]) = .returned (.tuple #[.slice ao (setB bs n t).length cap, .int .i64 (setE bs n t)]) ∧ OwnD w B ao cap (setB bs n t) :=
  ⟨none, 0, by rw [h.1, h.2]; rfl, by rw [h.1]; exact World.ownsRow_nil _ _ _ _⟩

/-- What a Set answers. -/
def SetSays (bs : List Bd) (n t : ByteArray) (w : World) (e : Ending) (w' : World) : Prop :=
  ∃ ao cap, e = .returned (.tuple #[.slice ao (setB bs n t).length cap, .int .i64 (setE bs n t)]) ∧ OwnD w' w.heap.size ao cap (setB bs n t) ∧ Q w w'

theorem own_one {w : World} {B cap g : Nat} {bs : List Bd} {k : Nat} {b : Bd} {n t : ByteArray} (h : OwnD w B (some ⟨g, 0, none⟩) cap bs) (hb : bs[k]? = some b) (hn : named n b = true) :
    OwnD (w.setCell ⟨g, k * 2 + 1, none⟩ (.string t)) B (some ⟨g, 0, none⟩) cap (bs.set k (n, t)) := by
  have := own_set dv_len h k 1 b (n, t) (.string t) hb (by decide) (by rw [← named_eq hn]; rfl)
  show World.ownsRow _ _ _ _ (.slice _ (bs.set _ _).length _) (bs.set _ _).length _
  rw [List.length_set]; exact this

set_option maxRecDepth 20000 in
set_option maxHeartbeats 4000000 in
theorem scSet_any (bs : List Bd) (n t : ByteArray) (ao : Option Addr) (cap : Nat) (w : World) (hr : RowD w ao bs) (hf : Fit bs) (hs : bs.length ≤ cap) (hcap : cap ≤ maxLen) (hn : n.size ≤ maxLen) (ht : t.size ≤ maxLen) :
    Calls Tryz.prog 115 #[.slice ao bs.length cap, .string n, .string t] w (SetSays bs n t w) := by
  obtain ⟨i0, hi, hz0, hz1, hz2⟩ := info_parts Tryz.infoD
  have HM := hide (fun w' (h : Q w w') => scMay_any bs ao cap w' (hr.q h) hf hs hcap)
  have HAT := hide (fun w' (h : Q w w') => at_any bs n ao cap w' (hr.q h) (Nat.le_trans hs hcap))
  have HMB := hide (mayBind_any n t · hn ht)
  cases hm : scOk bs
  · have HF := hide (set_no (bs := bs) (n := n) (t := t) (by rw [hm]; rfl))
    rw [hm] at HM
    clear hm
    go_enter Tryz.func115, Tryz.ntmps115
    go_wp2_with fail
    refine (unhide HM _ (Q.refl _)).mono ?_
    rintro e w1 ⟨rfl, q1⟩
    go_wp2_with fail
    go_ret2
    obtain ⟨ao', cap', e1, e2⟩ := set_nil w1 w.heap.size (unhide HF)
    exact ⟨ao', cap', e1, e2, q1⟩
  cases hmb : (mayB n && txB t)
  · have HF := hide (set_no (bs := bs) (n := n) (t := t) (by rw [Bool.and_assoc, hmb, Bool.and_false]))
    rw [hm] at HM
    rw [hmb] at HMB
    clear hm hmb
    go_enter Tryz.func115, Tryz.ntmps115
    go_wp2_with fail
    refine (unhide HM _ (Q.refl _)).mono ?_
    rintro e w1 ⟨rfl, q1⟩
    go_wp2_with fail
    refine (unhide HMB _).mono ?_
    rintro e w2 ⟨rfl, q2⟩
    go_wp2_with fail
    go_ret2
    obtain ⟨ao', cap', e1, e2⟩ := set_nil w2 w.heap.size (unhide HF)
    exact ⟨ao', cap', e1, e2, q1.trans q2⟩
  have hall : (scOk bs && mayB n && txB t) = true := by rw [Bool.and_assoc, hmb, hm]; rfl
  have hsz := scOk_parts hm
  have hbm : ∀ b ∈ bs, b.1.size ≤ 16 ∧ b.2.size ≤ 256 := by
    intro b hb
    obtain ⟨k, hk⟩ := List.mem_iff_getElem?.1 hb
    exact mayBd_size (hsz.2 k b hk).1
  have hl16 := hsz.1
  have HCP := hide (fun w' (h : Q w w') => copied_any bs ao cap w' (hr.q h) hl16 hbm)
  have hnt : n.size ≤ 16 ∧ t.size ≤ 256 := ⟨mayB_size (Bool.and_eq_true_iff.1 hmb).1, txB_size (Bool.and_eq_true_iff.1 hmb).2⟩
  have HC1 := hide (clone_any n · (by omega))
  have HC2 := hide (clone_any t · (by omega))
  rw [hm] at HM
  rw [hmb] at HMB
  clear hm hmb hsz hbm hr hf hn ht
  cases hh : hit bs n with
  | none =>
    rw [hitI_neg hh] at HAT
    by_cases h16 : bs.length = 16
    · have HF := hide (set_full hall hh h16)
      have h16' : ((bs.length : Int) == 16) = true := by rw [h16]; rfl
      clear hall hh h16
      go_enter Tryz.func115, Tryz.ntmps115
      go_wp2_with fail
      refine (unhide HM _ (Q.refl _)).mono ?_
      rintro e w1 ⟨rfl, q1⟩
      go_wp2_with fail
      refine (unhide HMB _).mono ?_
      rintro e w2 ⟨rfl, q2⟩
      go_wp2_with fail
      refine (unhide HAT _ (q1.trans q2)).mono ?_
      rintro e w3 ⟨rfl, q3⟩
      go_wp2_with fail
      go_ret2
      obtain ⟨ao', cap', e1, e2⟩ := set_nil w3 w.heap.size (unhide HF)
      exact ⟨ao', cap', e1, e2, (q1.trans q2).trans q3⟩
    · have HF := hide (set_more hall hh h16)
      have h16' : ((bs.length : Int) == 16) = false := beq_eq_false_iff_ne.2 (by omega)
      clear hall hh h16
      go_enter Tryz.func115, Tryz.ntmps115
      go_wp2_with fail
      refine (unhide HM _ (Q.refl _)).mono ?_
      rintro e w1 ⟨rfl, q1⟩
      go_wp2_with fail
      refine (unhide HMB _).mono ?_
      rintro e w2 ⟨rfl, q2⟩
      go_wp2_with fail
      refine (unhide HAT _ (q1.trans q2)).mono ?_
      rintro e w3 ⟨rfl, q3⟩
      go_wp2_with fail
      refine (unhide HCP _ ((q1.trans q2).trans q3)).mono ?_
      rintro e w4 ⟨co, ccap, rfl, hown4, q4⟩
      go_wp2_with fail
      refine (unhide HC1 _).mono ?_
      rintro e w5 ⟨rfl, q5⟩
      go_wp2_with fail
      refine (unhide HC2 _).mono ?_
      rintro e w6 ⟨rfl, q6⟩
      have hq3 := (q1.trans q2).trans q3
      have hq6 := (hq3.trans q4).trans (q5.trans q6)
      have own6 := own_q (own_low hown4 hq3.size) (q5.trans q6)
      have hyc := own_le own6
      have hB6 := hq6.size
      clear hown4 q1 q2 q3 q4 q5 q6 hq3
      go_wp2_with (at_builtin; refine wpList_append_lies _ rfl _ _ 47 rfl w.heap.size 169 i0 (.agg #[.string ByteArray.empty, .string ByteArray.empty]) 2 32 Tryz.underlying47 hi hz0 hz1 hz2 rfl (by decide) _ _ _ rfl (own6.alloc _) ⟨w6.heap.size, 0, none⟩ 1 1 [.string n, .string t] rfl rfl (news_new _ #[.string n, .string t] _) (one_ss _ _) (by decide) (by unfold maxLen; omega) (by omega) (le_alloc hB6 _) (w6.heap.size + 1) (size_alloc _ _) ?_)
      intro g7 cp7 w7 hown7 hgrow hor hglt
      have hq7 : Q w w7 := Below.grown (hq6.alloc _) hgrow (le_alloc hq6.size _) (fun r hr => (own6.lt r hr).1)
      have HO := hide (OwnD.snoc (b := (n, t)) hown7)
      clear hown7 hgrow hor own6
      go_wp2_with fail
      go_ret2
      refine ⟨some ⟨g7, 0, none⟩, cp7, ?_, ?_, hq7⟩
      · rw [(unhide HF).1, (unhide HF).2]; simp
      · rw [(unhide HF).1]; exact unhide HO
  | some k =>
    obtain ⟨b, hb, hnb, _⟩ := hit_some hh
    have HF := hide (set_hit hall hh)
    rw [hitI_at hh] at HAT
    have hlt := (List.getElem?_eq_some_iff.1 hb).1
    have k0 : (0 : Int) ≤ (k : Int) := Int.natCast_nonneg _
    have k1 : (k : Int) < (bs.length : Int) := by omega
    have HON := hide (fun (w' : World) (g c : Nat) (h : OwnD w' w.heap.size (some ⟨g, 0, none⟩) c bs) => own_one (t := t) h hb hnb)
    clear hall hh hb hnb
    go_enter Tryz.func115, Tryz.ntmps115
    go_wp2_with fail
    refine (unhide HM _ (Q.refl _)).mono ?_
    rintro e w1 ⟨rfl, q1⟩
    go_wp2_with fail
    refine (unhide HMB _).mono ?_
    rintro e w2 ⟨rfl, q2⟩
    go_wp2_with fail
    refine (unhide HAT _ (q1.trans q2)).mono ?_
    rintro e w3 ⟨rfl, q3⟩
    go_wp2_with fail
    refine (unhide HCP _ ((q1.trans q2).trans q3)).mono ?_
    rintro e w4 ⟨co, ccap, rfl, hown4, q4⟩
    go_wp2_with fail
    refine (unhide HC2 _).mono ?_
    rintro e w5 ⟨rfl, q5⟩
    have hq3 := (q1.trans q2).trans q3
    have hq5 := (hq3.trans q4).trans q5
    have own5 := own_q (own_low hown4 hq3.size) q5
    obtain ⟨g, rfl, hgB, hg, hfz, hc⟩ := own_some dv_len (by decide) (by omega) own5
    have hfr := hfz (k * 2 + 1)
    have HO := hide (unhide HON _ _ _ own5)
    have hcl : ∃ v, w5.cell? ⟨g, k * 2 + 1, none⟩ = some v := ⟨_, hc k 1 bs[k] _ (List.getElem?_eq_getElem hlt) (by decide) rfl⟩
    obtain ⟨v, hcv⟩ := hcl
    clear hown4 q1 q2 q3 q4 q5 hq3 own5 hc hfz HON
    go_wp2_with fail
    go_ret2
    refine ⟨some ⟨g, 0, none⟩, ccap, ?_, ?_, hq5.setCell hgB _⟩
    · rw [(unhide HF).1, (unhide HF).2, List.length_set]; rfl
    · rw [(unhide HF).1]; exact unhide HO

end Go.Proofs.YtpddckgkaopnlaaGreatDoor
