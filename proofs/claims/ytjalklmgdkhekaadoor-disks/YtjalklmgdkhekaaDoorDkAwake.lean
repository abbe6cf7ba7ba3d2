/- Disks whose answers are known; the fixed disks that every statement on disks asks of first; no conditions. -/
import Derived.Test.YtjalklmgdkhekaaDoorDkPutAll
import Derived.Test.YtjalklmgdkhekaaDoorDkRem
import Derived.Test.YtjalklmgdkhekaaDoorDkFind
import Derived.Test.YtjalklmgdkhekaaDoorDkSame
import Derived.Test.YtjalklmgdkhekaaDoorNmWalks
namespace Go.Proofs.YtjalklmgdkhekaaDoor
open Go.RowKit

theorem put_lit {c' m : Int} {fs' : List Fl} {k : Nat} (c : Int) (fs : List Fl) (ao : Option Addr) (cap : Nat) (n : ByteArray) (x : Int) (w : World) (h : putC c fs (bl n) x = c' ∧ putF c fs (bl n) x = fs' ∧ putE c fs (bl n) x = m ∧ fs'.length = k) (hr : RowK w ao fs) (hz : FlZ fs) (hs : fs.length ≤ cap) (hcap : cap ≤ maxLen) (hn : n.size ≤ 4096) :
    Calls Tryd.prog 5 #[.agg #[.int .i64 c, .slice ao fs.length cap], .string n, .int .i64 x] w fun e w' => ∃ ao' cap', e = .returned (.tuple #[.agg #[.int .i64 c', .slice ao' k cap'], .int .i64 m]) ∧ OwnK w' w.heap.size ao' cap' fs' ∧ Q w w' := by
  obtain ⟨rfl, rfl, rfl, rfl⟩ := h
  exact dkPut_any c fs ao cap n x w hr hz hs hcap (by unfold maxLen; omega)
theorem rem_lit {c' m : Int} {fs' : List Fl} {k : Nat} (c : Int) (fs : List Fl) (ao : Option Addr) (cap : Nat) (n : ByteArray) (w : World) (h : remC c fs (bl n) = c' ∧ remF c fs (bl n) = fs' ∧ remE c fs (bl n) = m ∧ fs'.length = k) (hr : RowK w ao fs) (hz : FlZ fs) (hs : fs.length ≤ cap) (hcap : cap ≤ maxLen) (hn : n.size ≤ 4096) :
    Calls Tryd.prog 7 #[.agg #[.int .i64 c, .slice ao fs.length cap], .string n] w fun e w' => ∃ ao' cap', e = .returned (.tuple #[.agg #[.int .i64 c', .slice ao' k cap'], .int .i64 m]) ∧ OwnK w' w.heap.size ao' cap' fs' ∧ Q w w' := by
  obtain ⟨rfl, rfl, rfl, rfl⟩ := h
  exact dkRem_any c fs ao cap n w hr hz hs hcap (by unfold maxLen; omega)
theorem find_lit {f : Fl} {v : Bool} {t : ByteArray} {x y : Int} (c : Int) (fs : List Fl) (ao : Option Addr) (cap : Nat) (n : ByteArray) (w : World) (h : fdV c fs (bl n) = f ∧ (fdF c fs (bl n)).isSome = v) (ht : (⟨f.1.toArray⟩ : ByteArray) = t) (hx : f.2.1 = x) (hy : f.2.2 = y) (hr : RowK w ao fs) (hz : FlZ fs) (hs : fs.length ≤ cap) (hcap : cap ≤ maxLen) :
    Calls Tryd.prog 9 #[.agg #[.int .i64 c, .slice ao fs.length cap], .string n] w fun e w' => e = .returned (.tuple #[.agg #[.string t, .int .i64 x, .int .i64 y], .bool v]) ∧ Q w w' := by
  obtain ⟨rfl, rfl⟩ := h
  subst ht hx hy
  exact dkFind_any c fs ao cap n w hr hz hs hcap
theorem may_litK {v : Bool} (c : Int) (fs : List Fl) (ao : Option Addr) (cap : Nat) (w : World) (h : dkOk c fs = v) (hr : RowK w ao fs) (hz : FlZ fs) (hs : fs.length ≤ cap) (hcap : cap ≤ maxLen) :
    Calls Tryd.prog 13 #[.agg #[.int .i64 c, .slice ao fs.length cap]] w fun e w' => e = .returned (.bool v) ∧ Q w w' := by
  obtain rfl := h
  exact dkMay_any c fs ao cap w hr hz hs hcap
theorem same_litK {v : Bool} (c d : Int) (ao bo : Option Addr) (cap bcap : Nat) (ps qs : List Fl) (w : World) (h : (decide (c = d) && decide (ps = qs)) = v) (ha : RowK w ao ps) (hb : RowK w bo qs) (hn : ps.length ≤ maxLen) :
    Calls Tryd.prog 11 #[.agg #[.int .i64 c, .slice ao ps.length cap], .agg #[.int .i64 d, .slice bo qs.length bcap]] w fun e w' => e = .returned (.bool v) ∧ Q w w' := by
  obtain rfl := h
  exact sameDk_any c d ao bo cap bcap ps qs w ha hb hn
theorem flz_of {fs : List Fl} (h : fs.all (fun f => decide (f.1.length ≤ 4096)) = true) : FlZ fs := by
  intro f hf
  have := List.all_eq_true.1 h f hf
  simp at this
  unfold maxLen; omega

def dkA : List Fl := [([98], 7, 1)]
def dkB : List Fl := [([97], 9, 2), ([98], 7, 1)]
def dkC : List Fl := [([97], 9, 2)]
theorem dkl1 : putC 0 [] [98] 7 = 1 ∧ putF 0 [] [98] 7 = dkA ∧ putE 0 [] [98] 7 = 0 ∧ dkA.length = 1 := by decide +kernel
theorem dkl2 : putC 1 dkA [97] 9 = 2 ∧ putF 1 dkA [97] 9 = dkB ∧ putE 1 dkA [97] 9 = 0 ∧ dkB.length = 2 := by decide +kernel
theorem dkl3 : remC 2 dkB [98] = 2 ∧ remF 2 dkB [98] = dkC ∧ remE 2 dkB [98] = 0 ∧ dkC.length = 1 := by decide +kernel
theorem dkl4 : fdV 2 dkB [98] = ([98], 7, 1) ∧ (fdF 2 dkB [98]).isSome = true := by decide +kernel
theorem dkl5 : fdV 2 dkC [98] = ([], 0, 0) ∧ (fdF 2 dkC [98]).isSome = false := by decide +kernel
theorem dkl6 : remC 2 dkC [98] = 0 ∧ remF 2 dkC [98] = [] ∧ remE 2 dkC [98] = 1202 ∧ ([] : List Fl).length = 0 := by decide +kernel
theorem dkl7 : putC 2 dkC [47, 98] 9 = 0 ∧ putF 2 dkC [47, 98] 9 = [] ∧ putE 2 dkC [47, 98] 9 = 1200 ∧ ([] : List Fl).length = 0 := by decide +kernel
theorem dkl8 : dkOk 2 dkB = true := by decide +kernel

abbrev dkW (w : World) (c : Int) (ao : Option Addr) (n cap : Nat) : World := w.alloc (.cells #[.int .i64 c, .slice ao n cap] 24)
theorem dkW_b (w : World) (c : Int) (ao : Option Addr) (n cap : Nat) : Blk (dkW w c ao n cap) w.heap.size #[.int .i64 c, .slice ao n cap] 24 := Blk.new w _ _
theorem dkW_q (w : World) (c : Int) (ao : Option Addr) (n cap : Nat) : Q w (dkW w c ao n cap) := (Q.refl w).alloc _

set_option maxRecDepth 20000 in
set_option maxHeartbeats 8000000 in
theorem dkawake_any (w : World) : Calls Tryd.prog 16 #[] w fun e w' => e = .returned (.bool true) ∧ Q w w' := by
  have ZA : Hid (FlZ dkA) := flz_of (by decide +kernel)
  have ZB : Hid (FlZ dkB) := flz_of (by decide +kernel)
  have ZC : Hid (FlZ dkC) := flz_of (by decide +kernel)
  have HM0 : Hid (∀ n : Nat, n ≤ 4096 → n ≤ maxLen) := fun n h => by unfold maxLen; omega
  go_enter Tryd.func16, Tryd.ntmps16
  go_wp2_with fail
  refine (put_lit 0 [] none 0 ⟨#[98]⟩ 7 w dkl1 (Or.inl rfl) (fun f hf => by cases hf) (Nat.le_refl _) (unhide HM0 0 (by decide)) (by decide)).mono ?_
  rintro e w1 ⟨ao, ac, rfl, own1, q1⟩
  have LA := hide (own_le own1)
  have qA := dkW_q w1 1 ao 1 ac
  have RA := hide (own1.row.q qA)
  have H1 := hide (q1.trans qA)
  clear own1 q1 qA
  go_wp2_with fail
  change Calls _ _ _ (dkW w1 1 ao 1 ac) _
  generalize dkW w1 1 ao 1 ac = v1 at *
  refine (put_lit 1 dkA ao ac ⟨#[97]⟩ 9 v1 dkl2 (unhide RA) (unhide ZA) (unhide LA).1 (unhide LA).2.1 (by decide)).mono ?_
  rintro e w2 ⟨bo, bc, rfl, own2, q2⟩
  have LB := hide (own_le own2)
  have qB := dkW_q w2 2 bo 2 bc
  have RB := hide (own2.row.q qB)
  have H2 := hide ((unhide H1).trans (q2.trans qB))
  have XB := hide (dkW_b w2 2 bo 2 bc)
  clear own2 q2 qB H1 RA
  go_wp2_with fail
  change Calls _ _ _ (dkW w2 2 bo 2 bc) _
  generalize dkW w2 2 bo 2 bc = v2 at *
  refine (rem_lit 2 dkB bo bc ⟨#[98]⟩ v2 dkl3 (unhide RB) (unhide ZB) (unhide LB).1 (unhide LB).2.1 (by decide)).mono ?_
  rintro e w3 ⟨co, cc, rfl, own3, q3⟩
  have LC := hide (own_le own3)
  have qC := dkW_q w3 2 co 1 cc
  have RC := hide (own3.row.q qC)
  have RB3 := hide ((unhide RB).q (q3.trans qC))
  have H3 := hide ((unhide H2).trans (q3.trans qC))
  have XC := hide (dkW_b w3 2 co 1 cc)
  have XB3 := hide ((unhide XB).q (q3.trans qC))
  generalize w2.heap.size = BB at *
  have b0 : (dkW w3 2 co 1 cc).cell? ⟨BB, 0, none⟩ = some (.int .i64 2) := (unhide XB3).cell 0 rfl
  have b1 : (dkW w3 2 co 1 cc).cell? ⟨BB, 1, none⟩ = some (.slice bo 2 bc) := (unhide XB3).cell 1 rfl
  unfold dkW at b0 b1
  clear own3 q3 qC H2 RB XB
  go_wp2_with fail
  change Calls _ _ _ (dkW w3 2 co 1 cc) _
  generalize dkW w3 2 co 1 cc = v3 at *
  clear b0 b1
  refine (find_lit (t := ⟨#[98]⟩) (x := 7) (y := 1) 2 dkB bo bc ⟨#[98]⟩ v3 dkl4 rfl rfl rfl (unhide RB3) (unhide ZB) (unhide LB).1 (unhide LB).2.1).mono ?_
  rintro e w4 ⟨rfl, q4⟩
  have qX := (Q.refl w4).alloc (.cells #[.string ⟨#[98]⟩, .int .i64 7, .int .i64 1] 34)
  have XX : Hid (Blk (w4.alloc (.cells #[.string ⟨#[98]⟩, .int .i64 7, .int .i64 1] 34)) w4.heap.size #[.string ⟨#[98]⟩, .int .i64 7, .int .i64 1] 34) := Blk.new w4 _ _
  have RB4 := hide ((unhide RB3).q (q4.trans qX))
  have RC4 := hide ((unhide RC).q (q4.trans qX))
  have H4 := hide ((unhide H3).trans (q4.trans qX))
  have XB4 := hide ((unhide XB3).q (q4.trans qX))
  have XC4 := hide ((unhide XC).q (q4.trans qX))
  generalize w3.heap.size = CC at *
  have b0 : (w4.alloc (.cells #[.string ⟨#[98]⟩, .int .i64 7, .int .i64 1] 34)).cell? ⟨CC, 0, none⟩ = some (.int .i64 2) := (unhide XC4).cell 0 rfl
  have b1 : (w4.alloc (.cells #[.string ⟨#[98]⟩, .int .i64 7, .int .i64 1] 34)).cell? ⟨CC, 1, none⟩ = some (.slice co 1 cc) := (unhide XC4).cell 1 rfl
  clear q4 qX H3 RB3 RC XB3 XC
  go_wp2_with fail
  generalize w4.alloc (.cells #[.string ⟨#[98]⟩, .int .i64 7, .int .i64 1] 34) = v4 at *
  clear b0 b1
  refine (find_lit (t := ⟨#[]⟩) (x := 0) (y := 0) 2 dkC co cc ⟨#[98]⟩ v4 dkl5 rfl rfl rfl (unhide RC4) (unhide ZC) (unhide LC).1 (unhide LC).2.1).mono ?_
  rintro e w5 ⟨rfl, q5⟩
  have qY := (Q.refl w5).alloc (.cells #[.string ⟨#[]⟩, .int .i64 0, .int .i64 0] 34)
  have RB5 := hide ((unhide RB4).q (q5.trans qY))
  have RC5 := hide ((unhide RC4).q (q5.trans qY))
  have H5 := hide ((unhide H4).trans (q5.trans qY))
  have XB5 := hide ((unhide XB4).q (q5.trans qY))
  have XC5 := hide ((unhide XC4).q (q5.trans qY))
  have XX5 := hide ((unhide XX).q (q5.trans qY))
  generalize w4.heap.size = XN at *
  have b0 : (w5.alloc (.cells #[.string ⟨#[]⟩, .int .i64 0, .int .i64 0] 34)).cell? ⟨CC, 0, none⟩ = some (.int .i64 2) := (unhide XC5).cell 0 rfl
  have b1 : (w5.alloc (.cells #[.string ⟨#[]⟩, .int .i64 0, .int .i64 0] 34)).cell? ⟨CC, 1, none⟩ = some (.slice co 1 cc) := (unhide XC5).cell 1 rfl
  clear q5 qY H4 RB4 RC4 XB4 XC4 XX
  go_wp2_with fail
  generalize w5.alloc (.cells #[.string ⟨#[]⟩, .int .i64 0, .int .i64 0] 34) = v5 at *
  clear b0 b1
  refine (rem_lit 2 dkC co cc ⟨#[98]⟩ v5 dkl6 (unhide RC5) (unhide ZC) (unhide LC).1 (unhide LC).2.1 (by decide)).mono ?_
  rintro e w6 ⟨zo, zc, rfl, _, q6⟩
  have qZ := dkW_q w6 0 zo 0 zc
  have RB6 := hide ((unhide RB5).q (q6.trans qZ))
  have RC6 := hide ((unhide RC5).q (q6.trans qZ))
  have H6 := hide ((unhide H5).trans (q6.trans qZ))
  have XB6 := hide ((unhide XB5).q (q6.trans qZ))
  have XC6 := hide ((unhide XC5).q (q6.trans qZ))
  have XX6 := hide ((unhide XX5).q (q6.trans qZ))
  have b0 : (dkW w6 0 zo 0 zc).cell? ⟨CC, 0, none⟩ = some (.int .i64 2) := (unhide XC6).cell 0 rfl
  have b1 : (dkW w6 0 zo 0 zc).cell? ⟨CC, 1, none⟩ = some (.slice co 1 cc) := (unhide XC6).cell 1 rfl
  unfold dkW at b0 b1
  clear q6 qZ H5 RB5 RC5 XB5 XC5 XX5
  go_wp2_with fail
  change Calls _ _ _ (dkW w6 0 zo 0 zc) _
  generalize dkW w6 0 zo 0 zc = v6 at *
  clear b0 b1
  refine (put_lit 2 dkC co cc ⟨#[47, 98]⟩ 9 v6 dkl7 (unhide RC6) (unhide ZC) (unhide LC).1 (unhide LC).2.1 (by decide)).mono ?_
  rintro e w7 ⟨yo, yc, rfl, _, q7⟩
  have qZ := dkW_q w7 0 yo 0 yc
  have RB7 := hide ((unhide RB6).q (q7.trans qZ))
  have RC7 := hide ((unhide RC6).q (q7.trans qZ))
  have H7 := hide ((unhide H6).trans (q7.trans qZ))
  have XB7 := hide ((unhide XB6).q (q7.trans qZ))
  have XC7 := hide ((unhide XC6).q (q7.trans qZ))
  have XX7 := hide ((unhide XX6).q (q7.trans qZ))
  have b0 : (dkW w7 0 yo 0 yc).cell? ⟨BB, 0, none⟩ = some (.int .i64 2) := (unhide XB7).cell 0 rfl
  have b1 : (dkW w7 0 yo 0 yc).cell? ⟨BB, 1, none⟩ = some (.slice bo 2 bc) := (unhide XB7).cell 1 rfl
  unfold dkW at b0 b1
  clear q7 qZ H6 RB6 RC6 XB6 XC6 XX6
  go_wp2_with fail
  change Calls _ _ _ ((dkW w7 0 yo 0 yc).alloc (.cells #[.string ⟨#[97]⟩, .int .i64 9, .int .i64 2, .string ⟨#[98]⟩, .int .i64 7, .int .i64 1] 34)) _
  have hs7 : (dkW w7 0 yo 0 yc).heap.size = w7.heap.size + 1 := size_alloc _ _
  generalize dkW w7 0 yo 0 yc = v7 at *
  have qL := (Q.refl v7).alloc (.cells #[.string ⟨#[97]⟩, .int .i64 9, .int .i64 2, .string ⟨#[98]⟩, .int .i64 7, .int .i64 1] 34)
  have rl : RowK (v7.alloc (.cells #[.string ⟨#[97]⟩, .int .i64 9, .int .i64 2, .string ⟨#[98]⟩, .int .i64 7, .int .i64 1] 34)) (some ⟨w7.heap.size + 1, 0, none⟩) dkB := by
    have h := rowG_block fv_len v7 #[.string ⟨#[97]⟩, .int .i64 9, .int .i64 2, .string ⟨#[98]⟩, .int .i64 7, .int .i64 1] 34 dkB rfl
    rwa [hs7] at h
  clear b0 b1
  refine (same_litK (v := true) 2 2 bo (some ⟨w7.heap.size + 1, 0, none⟩) bc 2 dkB dkB _ (by decide +kernel) ((unhide RB7).q qL) rl (unhide HM0 _ (by decide))).mono ?_
  rintro e w8 ⟨rfl, q8⟩
  have RB8 := hide ((unhide RB7).q (qL.trans q8))
  have RC8 := hide ((unhide RC7).q (qL.trans q8))
  have H8 := hide ((unhide H7).trans (qL.trans q8))
  have XB8 := hide ((unhide XB7).q (qL.trans q8))
  have XC8 := hide ((unhide XC7).q (qL.trans q8))
  have XX8 := hide ((unhide XX7).q (qL.trans q8))
  have b0 : w8.cell? ⟨CC, 0, none⟩ = some (.int .i64 2) := (unhide XC8).cell 0 rfl
  have b1 : w8.cell? ⟨CC, 1, none⟩ = some (.slice co 1 cc) := (unhide XC8).cell 1 rfl
  clear q8 qL rl hs7 H7 RB7 RC7 XB7 XC7 XX7
  go_wp2_with (go_at_call 12; refine (num_any _ _).mono ?_; rintro e w' ⟨rfl, hw'⟩; have hw2 := hw'.symm; clear hw'; subst hw2)
  have qL := (Q.refl w8).alloc (.cells #[.string ⟨#[97]⟩, .int .i64 9, .int .i64 2] 34)
  have rl : RowK (w8.alloc (.cells #[.string ⟨#[97]⟩, .int .i64 9, .int .i64 2] 34)) (some ⟨w8.heap.size, 0, none⟩) dkC := rowG_block fv_len w8 #[.string ⟨#[97]⟩, .int .i64 9, .int .i64 2] 34 dkC rfl
  clear b0 b1
  refine (same_litK (v := true) 2 2 co (some ⟨w8.heap.size, 0, none⟩) cc 1 dkC dkC _ (by decide +kernel) ((unhide RC8).q qL) rl (unhide HM0 _ (by decide))).mono ?_
  rintro e w9 ⟨rfl, q9⟩
  have RB9 := hide ((unhide RB8).q (qL.trans q9))
  have H9 := hide ((unhide H8).trans (qL.trans q9))
  have b0 : w9.cell? ⟨BB, 0, none⟩ = some (.int .i64 2) := ((unhide XB8).q (qL.trans q9)).cell 0 rfl
  have b1 : w9.cell? ⟨BB, 1, none⟩ = some (.slice bo 2 bc) := ((unhide XB8).q (qL.trans q9)).cell 1 rfl
  have b2 : w9.cell? ⟨XN, 1, none⟩ = some (.int .i64 7) := ((unhide XX8).q (qL.trans q9)).cell 1 rfl
  clear q9 qL rl H8 RB8 RC8 XB8 XC8 XX8
  go_wp2_with (go_at_call 12; refine (num_any _ _).mono ?_; rintro e w' ⟨rfl, hw'⟩; have hw2 := hw'.symm; clear hw'; subst hw2)
  refine (may_litK 2 dkB bo bc w9 dkl8 (unhide RB9) (unhide ZB) (unhide LB).1 (unhide LB).2.1).mono ?_
  rintro e w10 ⟨rfl, q10⟩
  go_wp2_with fail
  go_ret
  exact ⟨rfl, (unhide H9).trans q10⟩

end Go.Proofs.YtjalklmgdkhekaaDoor
