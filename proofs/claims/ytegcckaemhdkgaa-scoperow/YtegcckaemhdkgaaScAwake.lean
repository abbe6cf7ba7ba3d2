/- The fixed scopes that every statement on scopes asks of first: binds set, told, refused; no conditions. -/
import Derived.Test.YtegcckaemhdkgaaScLend
namespace Go.Proofs.Ytegcckaemhdkgaa
open Go.RowKit

theorem set_lit {ds : List Bd} {m : Int} (bs : List Bd) (n t : ByteArray) (ao : Option Addr) (cap : Nat) (w : World) (h : setB bs n t = ds ∧ setE bs n t = m) (hr : RowD w ao bs) (hf : Fit bs) (hs : bs.length ≤ cap) (hcap : cap ≤ maxLen) (hn : n.size ≤ maxLen) (ht : t.size ≤ maxLen) :
    Calls Try.prog 8 #[.slice ao bs.length cap, .string n, .string t] w fun e w' => ∃ ao' cap', e = .returned (.tuple #[.slice ao' ds.length cap', .int .i64 m]) ∧ OwnD w' w.heap.size ao' cap' ds ∧ Q w w' := by
  have := scSet_any bs n t ao cap w hr hf hs hcap hn ht
  unfold SetSays at this
  rw [h.1, h.2] at this
  exact this
theorem get_lit {v : ByteArray} (bs : List Bd) (n : ByteArray) (ao : Option Addr) (cap : Nat) (w : World) (h : getB bs n = v) (hr : RowD w ao bs) (hf : Fit bs) (hs : bs.length ≤ cap) (hcap : cap ≤ maxLen) :
    Calls Try.prog 12 #[.slice ao bs.length cap, .string n] w fun e w' => e = .returned (.string v) ∧ Q w w' := by
  have := scGet_any bs n ao cap w hr hf hs hcap
  rw [h] at this; exact this
theorem may_lit {v : Bool} (bs : List Bd) (ao : Option Addr) (cap : Nat) (w : World) (h : scOk bs = v) (hr : RowD w ao bs) (hf : Fit bs) (hs : bs.length ≤ cap) (hcap : cap ≤ maxLen) :
    Calls Try.prog 14 #[.slice ao bs.length cap] w fun e w' => e = .returned (.bool v) ∧ Q w w' := by
  have := scMay_any bs ao cap w hr hf hs hcap
  rw [h] at this; exact this

def awS : List Bd := [(⟨#[120]⟩, ⟨#[49]⟩)]
def awA : List Bd := [(⟨#[120]⟩, ⟨#[49]⟩), (⟨#[121]⟩, ⟨#[50]⟩)]
def awB : List Bd := [(⟨#[120]⟩, ⟨#[51]⟩), (⟨#[121]⟩, ⟨#[50]⟩)]
def awX : List Bd := [(⟨#[120]⟩, ByteArray.empty), (⟨#[120]⟩, ByteArray.empty)]
theorem fit_of {bs : List Bd} (h : bs.all (fun b => decide (b.1.size ≤ 4096) && decide (b.2.size ≤ 4096)) = true) : Fit bs := by
  intro b hb
  have := List.all_eq_true.1 h b hb
  simp at this
  unfold maxLen; omega
theorem awl1 : setB awS ⟨#[121]⟩ ⟨#[50]⟩ = awA ∧ setE awS ⟨#[121]⟩ ⟨#[50]⟩ = 0 := by decide +kernel
theorem awl2 : setB awA ⟨#[120]⟩ ⟨#[51]⟩ = awB ∧ setE awA ⟨#[120]⟩ ⟨#[51]⟩ = 0 := by decide +kernel
theorem awl3 : setB awA ⟨#[89]⟩ ⟨#[50]⟩ = [] ∧ setE awA ⟨#[89]⟩ ⟨#[50]⟩ = 400 := by decide +kernel
theorem awl4 : setB awX ⟨#[121]⟩ ⟨#[50]⟩ = [] ∧ setE awX ⟨#[121]⟩ ⟨#[50]⟩ = 400 := by decide +kernel
theorem awl5 : getB awB ⟨#[121]⟩ = ⟨#[50]⟩ := by decide +kernel
theorem awl6 : getB awB ⟨#[122]⟩ = ByteArray.empty := by decide +kernel
theorem awl7 : scOk awB = true := by decide +kernel

set_option maxHeartbeats 4000000 in
theorem scawake_any (w : World) :
    Calls Try.prog 18 #[] w fun e w' => e = .returned (.bool true) ∧ Q w w' := by
  have f1 : Fit awS := fit_of (by decide +kernel)
  have f2 : Fit awA := fit_of (by decide +kernel)
  have f3 : Fit awB := fit_of (by decide +kernel)
  have f4 : Fit awX := fit_of (by decide +kernel)
  have hm : ∀ n : Nat, n ≤ 4096 → n ≤ maxLen := fun n h => by unfold maxLen; omega
  go_enter Try.func18, Try.ntmps18
  go_wp2_with fail
  refine (set_lit awS _ _ _ 1 _ awl1 (rowG_block dv_len _ _ _ awS rfl) f1 (by decide) (hm _ (by decide)) (hm _ (by decide)) (hm _ (by decide))).mono ?_
  rintro e w1 ⟨ao, cap, rfl, own1, q1⟩
  have hle1 := own_le own1
  have h1 : Hid (Q w w1) := ((Q.refl w).alloc _).trans q1
  have R1 := hide own1.row
  clear own1 q1
  go_wp2_with fail
  refine (set_lit awA _ _ ao cap _ awl2 (unhide R1) f2 hle1.1 hle1.2.1 (hm _ (by decide)) (hm _ (by decide))).mono ?_
  rintro e w2 ⟨bo, bcap, rfl, own2, q2⟩
  have hle2 := own_le own2
  have h2 : Hid (Q w w2) := (unhide h1).trans q2
  have R2 := hide own2.row
  have R1b := hide ((unhide R1).q q2)
  clear own2 q2 h1 R1
  go_wp2_with fail
  refine (set_lit awA _ _ ao cap _ awl3 (unhide R1b) f2 hle1.1 hle1.2.1 (hm _ (by decide)) (hm _ (by decide))).mono ?_
  rintro e w3 ⟨co, ccap, rfl, _, q3⟩
  have h3 : Hid (Q w w3) := (unhide h2).trans q3
  have R3 := hide ((unhide R2).q q3)
  clear q3 h2 R2 R1b
  go_wp2_with fail
  refine (set_lit awX _ _ _ 2 _ awl4 (rowG_block dv_len _ _ _ awX rfl) f4 (by decide) (hm _ (by decide)) (hm _ (by decide)) (hm _ (by decide))).mono ?_
  rintro e w4 ⟨xo, xcap, rfl, _, q4⟩
  have h4 : Hid (Q w w4) := (unhide h3).trans (((Q.refl _).alloc _).trans q4)
  have R4 := hide ((unhide R3).q (((Q.refl _).alloc _).trans q4))
  clear q4 h3 R3
  go_wp2_with fail
  refine (sameD_any bo _ bcap 2 awB awB _ ((unhide R4).q ((Q.refl _).alloc _)) (rowG_block dv_len _ _ _ awB rfl) (hm _ (by decide))).mono ?_
  rintro e w5 ⟨rfl, q5⟩
  rw [decide_eq_true (rfl : awB = awB)]
  have h5 : Hid (Q w w5) := (unhide h4).trans (((Q.refl _).alloc _).trans q5)
  have R5 := hide ((unhide R4).q (((Q.refl _).alloc _).trans q5))
  clear q5 h4 R4
  go_wp2_with (go_at_call 11; refine (num_any _ _).mono ?_; rintro e w' ⟨rfl, rfl⟩)
  refine (get_lit awB _ bo bcap _ awl5 (unhide R5) f3 hle2.1 hle2.2.1).mono ?_
  rintro e w6 ⟨rfl, q6⟩
  have h6 : Hid (Q w w6) := (unhide h5).trans q6
  have R6 := hide ((unhide R5).q q6)
  clear q6 h5 R5
  go_wp2_with fail
  refine (get_lit awB _ bo bcap _ awl6 (unhide R6) f3 hle2.1 hle2.2.1).mono ?_
  rintro e w7 ⟨rfl, q7⟩
  have h7 : Hid (Q w w7) := (unhide h6).trans q7
  have R7 := hide ((unhide R6).q q7)
  clear q7 h6 R6
  go_wp2_with fail
  refine (may_lit awB bo bcap _ awl7 (unhide R7) f3 hle2.1 hle2.2.1).mono ?_
  rintro e w8 ⟨rfl, q8⟩
  go_wp2_with fail
  go_ret
  exact ⟨rfl, (unhide h7).trans q8⟩

end Go.Proofs.Ytegcckaemhdkgaa
