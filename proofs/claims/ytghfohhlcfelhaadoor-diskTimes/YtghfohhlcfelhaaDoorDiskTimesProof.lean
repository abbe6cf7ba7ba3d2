/- DiskTimes, whole: one file written again and again: the clock goes on, its time with it, and there is one; no conditions. -/
import Derived.Test.YtghfohhlcfelhaaDoorRows
import Derived.Test.YtghfohhlcfelhaaDoorCards
import Derived.Test.YtghfohhlcfelhaaDoorTie
import Derived.LaidMore
import Derived.Lay
import Derived.SevenTiedAt
import Derived.Stop.Joined
import Derived.ProofKit
import Derived.OpenShut
import Derived.ShutString
import Derived.ChangeOld
import Derived.Below
import Derived.SizedLaws
import Derived.Test.YtghfohhlcfelhaaDoorDkOther
import Derived.Test.YtghfohhlcfelhaaDoorRowPlain
namespace Go.Proofs.YtghfohhlcfelhaaDoor
open Go.ChangeShapes Go.WideShapes Go.ChangeAt Go.RowKit

def one1 (x c : Int) : List Fl := [([102], x, c)]
/-- No file, or the one, as new as the clock. -/
def OneT (c : Int) (fs : List Fl) : Prop := fs = [] ∨ ∃ y, fs = one1 y c ∧ coOk y = true ∧ 1 ≤ c
theorem pth_f : pthB [102] = true := by decide +kernel
theorem one_dk {c : Int} {fs : List Fl} (h : OneT c fs) (h0 : 0 ≤ c) (h1 : c ≤ 1048576) : DkOk c fs := by
  rcases h with rfl | ⟨y, rfl, hy, hc⟩
  · exact ⟨h0, h1, by decide, fun f hf => by (cases hf), List.Pairwise.nil, List.Pairwise.nil⟩
  · refine ⟨h0, h1, show 1 ≤ 64 by decide, fun f hf => ?_, List.pairwise_singleton _ _, List.pairwise_singleton _ _⟩
    obtain rfl : f = ([102], y, c) := by simpa [one1] using hf
    unfold flOk tmOk
    rw [pth_f, hy]; simp; omega
theorem one_fn {c : Int} {fs : List Fl} (h : OneT c fs) : fs.length ≤ 1 := by
  rcases h with rfl | ⟨y, rfl, _, _⟩
  · decide
  · exact Nat.le_refl 1
theorem one_putL {c : Int} {fs : List Fl} (h : OneT c fs) (x : Int) : putL fs [102] x (c + 1) = one1 x (c + 1) := by
  rcases h with rfl | ⟨y, rfl, _, _⟩
  · rfl
  · unfold putL loF hiF one1
    rw [List.filter_cons_of_neg (by simp [lt_irr]), List.filter_cons_of_neg (by simp [lt_irr])]; rfl
theorem one_put {c : Int} {fs : List Fl} (h : OneT c fs) (h0 : 0 ≤ c) (h1 : c < 1048576) {x : Int} (hx : coOk x = true) :
    putC c fs [102] x = c + 1 ∧ putF c fs [102] x = one1 x (c + 1) ∧ putE c fs [102] x = 0 ∧ (one1 x (c + 1)).length = 1 := by
  have hd := dk_of (one_dk h h0 (by omega))
  have hf : fulB c fs [102] = false := by
    unfold fulB
    have := one_fn h
    rw [decide_eq_false (by omega), decide_eq_false (show ¬ fs.length = 64 by omega)]; simp
  have he : putE c fs [102] x = 0 := by unfold putE; rw [hd, pth_f, hx, hf]; rfl
  refine ⟨by unfold putC; rw [if_pos he], by unfold putF; rw [if_pos he]; exact one_putL h x, he, rfl⟩
theorem one_next {c x : Int} (h0 : 0 ≤ c) (hx : coOk x = true) : OneT (c + 1) (one1 x (c + 1)) := Or.inr ⟨x, rfl, hx, by omega⟩
theorem one_z {c : Int} {fs : List Fl} (h : OneT c fs) : FlZ fs := by
  rcases h with rfl | ⟨y, rfl, _, _⟩
  · intro f hf; cases hf
  · exact flz_of rfl

set_option maxRecDepth 20000 in
set_option maxHeartbeats 8000000 in
theorem diskTimes_any (w : World) (a : Option Addr) (len cap : Nat) (z : List Int) (hr : IsRow .i64 w a len cap z) (ck : Int) (_ : Lit.wf (.int .i64 ck) = true) :
    Calls Tryd.prog 8 #[.slice a len cap, .int .i64 ck] w fun e w' => e = .returned (.bool true) ∧ Q w w' := by
  obtain ⟨hlc, hcm, hzl, hcells, _⟩ := hr
  unfold maxLen at hcm
  obtain ⟨m, hm⟩ : ∃ m : Nat, m = min len 30 := ⟨_, rfl⟩
  have hm30 : m ≤ 30 := by omega
  have hml : m ≤ len := by omega
  have hmI : min (len : Int) 30 = (m : Int) := by omega
  clear hm
  have hbit := and65535 ck
  obtain ⟨cl, hcl⟩ : ∃ cl : Int, cl = ck % 65536 := ⟨_, rfl⟩
  rw [← hcl] at hbit
  have hcl0 : 0 ≤ cl := by omega
  have hcl1 : cl ≤ 65535 := by omega
  clear hcl
  go_enter Tryd.func8, Tryd.ntmps8
  go_wp2_with fail
  refine (dkawake_any _).mono ?_
  rintro e w1 ⟨rfl, q1⟩
  have HQ1 := hide q1
  have HB1 : Hid (Blk (w1.alloc (.cells #[.int .i64 cl, .slice none 0 0] 24)) w1.heap.size #[.int .i64 cl, .slice none 0 0] 24) := Blk.new w1 _ _
  have HQ2 := hide (q1.trans ((Q.refl w1).alloc (.cells #[.int .i64 cl, .slice none 0 0] 24)))
  have HD0 := hide q1.size
  clear q1
  go_wp2_with fail
  generalize w1.alloc (.cells #[.int .i64 cl, .slice none 0 0] 24) = wb at *
  generalize hD : w1.heap.size = D0 at *
  go_loopw [7] (fun i wr => ∃ (k : Nat) (fs : List Fl) (bo : Option Addr) (bcap : Nat), k ≤ m ∧ i = .int .i64 k ∧ Hid (OneT (cl + (k : Int)) fs) ∧ Hid (Blk wr D0 #[.int .i64 (cl + (k : Int)), .slice bo fs.length bcap] 24) ∧ Hid (OwnK wr (D0 + 1) bo bcap fs) ∧ Hid (Q w wr)) (fun i _ => m - (intOf i).toNat)
  case atStart => exact ⟨0, [], none, 0, Nat.zero_le _, rfl, Or.inl rfl, by (show Blk _ _ _ _; rw [show cl + ((0 : Nat) : Int) = cl by omega]; exact unhide HB1), World.ownsRow_nil _ _ _ _, HQ2⟩
  case round =>
    obtain ⟨k, fs, bo, bcap, hk, rfl, HT, HB, HO, HQ⟩ := hrel
    by_cases hlt : k < m
    · have hklen : k < len := by omega
      rcases hcells with h0 | ⟨zb, zo, rfl, hzb, hc⟩
      · omega
      obtain ⟨zi, hzi⟩ : ∃ zi, zi = z.getD k 0 := ⟨_, rfl⟩
      have HZ : Hid (∀ w', Q w w' → w'.cell? ⟨zb, zo + k, none⟩ = some (.int .i64 zi)) := fun w' q => by rw [hzi]; exact (q.cell (p := ⟨zb, zo + k, none⟩) hzb).trans (hc k hklen)
      have hbz := and65535 zi
      obtain ⟨zc, hzc⟩ : ∃ zc : Int, zc = zi % 65536 := ⟨_, rfl⟩
      rw [← hzc] at hbz
      have hcoz : coOk zc = true := by unfold coOk; rw [decide_eq_true (by omega), decide_eq_true (by omega)]; rfl
      obtain ⟨ci, hci⟩ : ∃ ci : Int, ci = cl + (k : Int) := ⟨_, rfl⟩
      rw [← hci] at HT HB
      have hci0 : 0 ≤ ci := by omega
      have hci1 : ci < 1048576 := by omega
      have HP := hide (fun w' (h1 : RowK w' bo fs) (h2 : fs.length ≤ bcap) (h3 : bcap ≤ maxLen) => put_lit ci fs bo bcap ⟨#[102]⟩ zc w' (one_put (unhide HT) hci0 hci1 hcoz) h1 (one_z (unhide HT)) h2 h3 (show (⟨#[102]⟩ : ByteArray).size ≤ 4096 by decide))
      have HN := hide (one_next hci0 hcoz)
      have LO := hide (own_le (unhide HO))
      have HRW := hide (OwnK.row (unhide HO))
      have k0 : (0 : Int) ≤ (k : Int) := by omega
      have k1 : (k : Int) < (len : Int) := by omega
      have kw1 : IntKind.i64.wrap ci = ci := by rw [IntKind.wrap_i64]; omega
      have kw2 : IntKind.i64.wrap (ci + 1) = ci + 1 := by rw [IntKind.wrap_i64]; omega
      have hcs : cl + (k : Int) = ci := hci.symm
      clear hzi hzc hcoz hci hc HT
      have HS : Hid (∀ w', Q wr w' → w'.cell? ⟨D0, 0, none⟩ = some (.int .i64 ci) ∧ w'.cell? ⟨D0, 1, none⟩ = some (.slice bo fs.length bcap) ∧ w'.cell? ⟨zb, zo + k, none⟩ = some (.int .i64 zi)) := fun w' q => ⟨((unhide HB).q q).cell 0 rfl, ((unhide HB).q q).cell 1 rfl, unhide HZ _ ((unhide HQ).trans q)⟩
      have S0 := unhide HS _ (Q.refl wr).drew
      have SA : ∀ ob, (fun w' => w'.cell? ⟨D0, 0, none⟩ = some (.int .i64 ci) ∧ w'.cell? ⟨D0, 1, none⟩ = some (.slice bo fs.length bcap) ∧ w'.cell? ⟨zb, zo + k, none⟩ = some (.int .i64 zi)) (wr.alloc ob).drew := fun ob => unhide HS _ ((Q.refl wr).alloc ob).drew
      have SB : ∀ ob, (fun w' => w'.cell? ⟨D0, 0, none⟩ = some (.int .i64 ci) ∧ w'.cell? ⟨D0, 1, none⟩ = some (.slice bo fs.length bcap) ∧ w'.cell? ⟨zb, zo + k, none⟩ = some (.int .i64 zi)) (wr.drew.alloc ob) := fun ob => unhide HS _ ((Q.refl wr).drew.alloc ob)
      go_wp2_with fail
      go_region_held3 (fun w' => w'.cell? ⟨D0, 0, none⟩ = some (.int .i64 ci) ∧ w'.cell? ⟨D0, 1, none⟩ = some (.slice bo fs.length bcap) ∧ w'.cell? ⟨zb, zo + k, none⟩ = some (.int .i64 zi))
        (first | exact S0 | exact SA _ | exact SB _ | exact S1 | exact S2 _ | exact S3)
        (first
          | (go_at_call 10; refine (unhide HP _ ((unhide HRW).q (Q.refl _).drew) (unhide LO).1 (unhide LO).2.1).mono ?_; rintro e w5 ⟨po, pc, rfl, own5, q5⟩
             have q5' := (Q.refl wr).drew.trans q5
             have S1 := unhide HS _ q5'
             have S2 : ∀ ob, (fun w' => w'.cell? ⟨D0, 0, none⟩ = some (.int .i64 ci) ∧ w'.cell? ⟨D0, 1, none⟩ = some (.slice bo fs.length bcap) ∧ w'.cell? ⟨zb, zo + k, none⟩ = some (.int .i64 zi)) (w5.alloc ob) := fun ob => unhide HS _ (q5'.trans ((Q.refl _).alloc ob))
             have HO5 := hide own5
             have HQ5 := hide q5'
             clear own5 q5 q5')
          | (go_at_call 10; refine (unhide HP _ ((unhide HRW).q ((Q.refl _).alloc _).drew) (unhide LO).1 (unhide LO).2.1).mono ?_; rintro e w5 ⟨po, pc, rfl, own5, q5⟩
             have hA5 : Blk w5 wr.heap.size #[.int .i64 0, .slice none 0 0] 24 := Blk.q (w := (wr.alloc (.cells #[.int .i64 0, .slice none 0 0] 24)).drew) (Blk.new wr _ _) q5
             have q5' := ((Q.refl wr).alloc _).drew.trans q5
             have S1 := unhide HS _ q5'
             have d0 := hA5.cell 0 rfl
             have d1 := hA5.cell 1 rfl
             have e0 := hA5.frz 0
             have e1 := hA5.frz 1
             have HA5 := hide (put2 hA5 (.int .i64 (ci + 1)) (.slice po 1 pc))
             have S3 := unhide HS _ (Below.trans q5' ((unhide HA5).2.below q5'.size (fun k hk => by omega)))
             clear hA5
             have HO5 := hide own5
             have HQ5 := hide q5'
             clear own5 q5 q5'))
      all_goals
        have HDW := hide (unhide HB).hi
        first
          | (have HV : Hid (Blk ((w5.setCell ⟨wr.heap.size, 0, none⟩ (.int .i64 (ci + 1))).setCell ⟨wr.heap.size, 1, none⟩ (.slice po 1 pc)) wr.heap.size #[.int .i64 (ci + 1), .slice po 1 pc] 24 ∧ Q wr ((w5.setCell ⟨wr.heap.size, 0, none⟩ (.int .i64 (ci + 1))).setCell ⟨wr.heap.size, 1, none⟩ (.slice po 1 pc)) ∧ D0 < wr.heap.size ∧ OwnK ((w5.setCell ⟨wr.heap.size, 0, none⟩ (.int .i64 (ci + 1))).setCell ⟨wr.heap.size, 1, none⟩ (.slice po 1 pc)) (D0 + 1) po pc (one1 zc (ci + 1))) :=
              ⟨(unhide HA5).1, Below.trans (unhide HQ5) ((unhide HA5).2.below (unhide HQ5).size (fun k hk => by omega)), unhide HDW, own_low (own_fr (unhide HO5) (unhide HA5).2 (fun k hk e => by have := ((unhide HO5).lt k hk).1; simp at this; omega)) (by have := unhide HDW; simp; omega)⟩
             generalize (w5.setCell ⟨wr.heap.size, 0, none⟩ (.int .i64 (ci + 1))).setCell ⟨wr.heap.size, 1, none⟩ (.slice po 1 pc) = vq at *
             clear HA5 S3 d0 d1 e0 e1
             generalize wr.heap.size = NA at *)
          | (have HV : Hid (Blk (w5.alloc (.cells #[.int .i64 (ci + 1), .slice po 1 pc] 24)) w5.heap.size #[.int .i64 (ci + 1), .slice po 1 pc] 24 ∧ Q wr (w5.alloc (.cells #[.int .i64 (ci + 1), .slice po 1 pc] 24)) ∧ D0 < w5.heap.size ∧ OwnK (w5.alloc (.cells #[.int .i64 (ci + 1), .slice po 1 pc] 24)) (D0 + 1) po pc (one1 zc (ci + 1))) :=
              ⟨Blk.new w5 _ _, (unhide HQ5).trans ((Q.refl _).alloc _), Nat.lt_of_lt_of_le (unhide HDW) (unhide HQ5).size, own_low (own_q (unhide HO5) ((Q.refl _).alloc _)) (unhide HDW)⟩
             generalize w5.alloc (.cells #[.int .i64 (ci + 1), .slice po 1 pc] 24) = vq at *
             clear S2
             generalize w5.heap.size = NA at *)
        clear S0 SA SB S1 HO5 HQ5 HP
        have HSV : Hid (∀ w', Q vq w' → w'.cell? ⟨NA, 0, none⟩ = some (.int .i64 (ci + 1)) ∧ w'.cell? ⟨NA, 1, none⟩ = some (.slice po 1 pc) ∧ w'.cell? ⟨zb, zo + k, none⟩ = some (.int .i64 zi)) := fun w' q => ⟨((unhide HV).1.q q).cell 0 rfl, ((unhide HV).1.q q).cell 1 rfl, unhide HZ _ ((unhide HQ).trans ((unhide HV).2.1.trans q))⟩
        have S0 := unhide HSV _ (Q.refl vq).drew
        have SA : ∀ ob, (fun w' => w'.cell? ⟨NA, 0, none⟩ = some (.int .i64 (ci + 1)) ∧ w'.cell? ⟨NA, 1, none⟩ = some (.slice po 1 pc) ∧ w'.cell? ⟨zb, zo + k, none⟩ = some (.int .i64 zi)) (vq.drew.alloc ob) := fun ob => unhide HSV _ ((Q.refl vq).drew.alloc ob)
        have HSD := hide (fun (w' : World) (q : Q vq w') (g : Nat) (hb : Blk w' g #[.string ⟨#[102]⟩, .int .i64 zc, .int .i64 (ci + 1)] 34) => same_litK (v := true) (ci + 1) (ci + 1) po (some ⟨g, 0, none⟩) pc 1 (one1 zc (ci + 1)) (one1 zc (ci + 1)) w' (by simp) ((OwnK.row (unhide HV).2.2.2).q q) (rowB fv_len hb (one1 zc (ci + 1)) rfl) (show 1 ≤ maxLen by unfold maxLen; omega))
        go_wp2_with fail
        go_region_held3 (fun w' => w'.cell? ⟨NA, 0, none⟩ = some (.int .i64 (ci + 1)) ∧ w'.cell? ⟨NA, 1, none⟩ = some (.slice po 1 pc) ∧ w'.cell? ⟨zb, zo + k, none⟩ = some (.int .i64 zi))
          (first | exact S0 | exact SA _ | exact S7)
          (first
            | (go_at_call 17; refine (num_any _ _).mono ?_; rintro e w' ⟨rfl, hw'⟩; subst hw')
            | (go_at_call 16; refine (unhide HSD _ ((Q.refl vq).drew.alloc _) _ (Blk.new _ _ _)).mono ?_; rintro e w7 ⟨rfl, q7⟩
               have S7 := unhide HSV _ (((Q.refl vq).drew.alloc _).trans q7)
               have HQ7 := hide (((Q.refl vq).drew.alloc (.cells #[.string ⟨#[102]⟩, .int .i64 zc, .int .i64 (ci + 1)] 34)).trans q7)
               clear q7))
        have nA := (unhide HV).1.q (unhide HQ7)
        have dD := (unhide HB).q ((unhide HV).2.1.trans (unhide HQ7))
        have n0 := nA.cell 0 rfl
        have n1 := nA.cell 1 rfl
        have d0 := dD.cell 0 rfl
        have d1 := dD.cell 1 rfl
        have e0 := dD.frz 0
        have e1 := dD.frz 1
        have HDD := hide (put2 dD (.int .i64 (ci + 1)) (.slice po 1 pc))
        have HO7 := hide (own_q (unhide HV).2.2.2 (unhide HQ7))
        have HQW := hide ((unhide HQ).trans ((unhide HV).2.1.trans (unhide HQ7)))
        have HE := hide (show cl + ((k + 1 : Nat) : Int) = ci + 1 by omega)
        clear nA dD S0 SA S7 HSD HSV hcs kw1 kw2
        go_wp2_with fail
        go_roundw
        case rel =>
          refine ⟨k + 1, one1 zc (ci + 1), po, pc, by omega, by go_num, ?_, ?_, hide (own_fr (unhide HO7) (unhide HDD).2 (fun k hk e => by have := ((unhide HO7).lt k hk).1; omega)), hide (Below.trans (unhide HQW) ((unhide HDD).2.below (unhide HQW).size (fun k hk => by rw [hk]; exact unhide HD0)))⟩
          · show OneT _ _; rw [unhide HE]; exact unhide HN
          · show Blk _ _ _ _; rw [unhide HE]; exact (unhide HDD).1
        case measure => simp [intOf]; omega
    · have hkm : k = m := by omega
      have n0 := (unhide HB).cell 0 rfl
      have n1 := (unhide HB).cell 1 rfl
      have LO := hide (own_le (unhide HO))
      have HM := hide (may_litK (cl + (k : Int)) fs bo bcap wr (dk_of (one_dk (unhide HT) (by omega) (by omega))) (OwnK.row (unhide HO)) (one_z (unhide HT)) (unhide LO).1 (unhide LO).2.1)
      clear hkm
      go_wp2_with fail
      refine (unhide HM).mono ?_
      rintro e w9 ⟨rfl, q9⟩
      go_wp2_with fail
      go_ret
      exact ⟨rfl, (unhide HQ).trans q9⟩

theorem Tryd.laidOut : laidOutB Tryd.prog = true := by kernel_rfl
set_option maxRecDepth 100000 in
theorem diskTimes_lifted (os : Os) (started : os.Started) (H : Type) (enc : TypeId × Value → H) :
    ReturnsInHanded {} Tryd.checked os 8 .any (fun w args => (Rows.diskTimesSpec.pre enc Tryd.prog Tryd.f8 [] false w args ∧ laidMetH Tryd.prog Rows.diskTimesRow.laid w) ∧ sizedMet enc Tryd.prog Tryd.f8 (OpenSpec.ofChange Rows.diskTimesSpec) false w args) (Rows.diskTimesSpec.post enc Tryd.prog Tryd.f8 false true false false) := by
  refine returnsInHanded_of_change_and (C := Tryd.checked) (X := fun w _ => laidMetH Tryd.prog Rows.diskTimesRow.laid w) (fun _ _ _ hh h => h.of_heap hh) Tryd.own started (by kernel_rfl) Tryd.func8
    (ChangeSpec.witness_shaped (enc := enc) (C := Tryd.checked) (os := os) (X := fun w _ => laidMetH Tryd.prog Rows.diskTimesRow.laid w) false (World.laidAll Tryd.prog os Rows.diskTimesRow.laid) #[.slice none 0 0, .int .i64 0] 8 (World.laidAll_os _ _ _)
      (World.shaped_of_ZipB (by kernel_rfl) (by kernel_rfl)) (by kernel_rfl) (by kernel_rfl) (by kernel_rfl)
      (by rw [MakeChecks.laidMetH_plain _ _ _ (by kernel_rfl)]; exact laidMet_laidAll _ (by kernel_rfl) (by kernel_rfl))) ?_
  intro W base args ds gs before hval0 hW _ hsz0 hL _
  have hval : ∀ (j : Nat) t v, Tryd.f8.params[j]? = some t → args[j]? = some v → Value.okWide Tryd.prog W .any base t v := hval0
  have hW' := hW
  obtain ⟨p, q, hA0, hV, rfl, hfz, hnd⟩ := hW
  have hA : DataW.TrodAll enc Tryd.prog W 0 (fun _ => true) true Tryd.f8.params.toList args.toList ds p := hA0
  rw [Tryd.params8] at hA hval
  obtain ⟨v0, vs0, d0, ds0, p0, q0, hargs, rfl, rfl, h0, r0⟩ := trodAll_cons hA
  obtain ⟨v1, vs1, d1, ds1, p1, q1, rfl, rfl, rfl, h1, r1⟩ := trodAll_cons r0
  obtain ⟨rfl, rfl, rfl⟩ := trodAll_nil r1
  obtain rfl : args = #[v0, v1] := by cases args; simp_all
  obtain ⟨rfl, rfl⟩ := trodVars_none hV
  obtain ⟨a0, len0, cap0, rfl⟩ := okWide_slice Tryd.underlying44 (hval 0 44 v0 rfl rfl)
  have k0 := h0
  have lt0 : ∀ x ∈ p0, x.block < W.heap.size := by obtain ⟨m, hm⟩ := k0; exact DataW.trod_lt m _ _ _ hm
  obtain ⟨z0, w0⟩ : ∃ zs, IsRow .i64 W a0 len0 cap0 zs := is_row Tryd.underlying44 Tryd.underlying3 (by kernel_rfl) h0
  obtain ⟨a1, rfl, rfl, rfl, w1⟩ := open_int Tryd.underlying3 (hval 1 3 v1 rfl rfl) h1
  clear hA0 hval0
  refine (diskTimes_any W a0 len0 cap0 z0 w0 a1 w1).mono fun e W' ⟨he, bel⟩ => ?_
  subst he
  exact ⟨_, rfl, _, _, _, [], _, [], hW', trodAll_mk1 (shut_bool Tryd.underlying4 _), (trodAll_cons_mk (Below.trod Tryd.laidOut (by kernel_rfl) (of_decide_eq_true (by kernel_rfl)) k0 bel lt0) (trodAll_cons_mk (shut_int Tryd.underlying3 w1) trodAll_mk0)), rfl, bel.frame _, fun h => by cases h⟩

theorem diskTimes_holds : Rows.DiskTimesSaid :=
  OpenClaim.holds_of_wide 8 Tryd.f8 rfl rfl rfl rfl rfl rfl rfl ⟨rfl, rfl, rfl, rfl, rfl⟩ rfl rfl rfl rfl rfl (by kernel_rfl) Tryd.func8 (by kernel_rfl)
    (of_decide_eq_true (by kernel_rfl)) (by unfold Func.isWrapper; first | (rw [if_pos (by decide +kernel)]; kernel_rfl) | (rw [if_neg (by decide +kernel)]; exact ⟨rfl, rfl⟩))
    (fun os started H enc _ => diskTimes_lifted os started H enc)
theorem diskTimes_card : Rows.DiskTimesCardSaid :=
  Claim7.holds_tied_plain_at .later [] [.data, .pinned] true (true, "70ffd1132ee9d4383af659bd53c2ff836d5bbd12bc3d7956f63e20143a124f82") false diskTimes_holds (fun _ h => by cases h) (by kernel_rfl) (fun _ h => by cases h) diskTimes_row_tie rfl ⟨rfl, rfl⟩ (by kernel_rfl) rfl
    (fun f fn hf hfn => by
      obtain rfl : f = 8 := Option.some.inj ((show Tryd.prog.funcNamed Rows.diskTimesRow.func = some 8 by kernel_rfl).symm.trans hf) |>.symm
      obtain rfl : fn = Tryd.f8 := (Option.some.inj (Tryd.func8.symm.trans hfn)).symm
      exact ⟨by kernel_rfl, fun j t ht => by
        rw [Tryd.params8] at ht
        have hm : t ∈ [44, 3] := by simpa using Array.mem_of_getElem? ht
        have hall : ([44, 3].all fun u => !Tryd.prog.wantsStandIn u) = true := by kernel_rfl
        exact (show Tryd.prog.wantsStandIn t = false by simpa using List.all_eq_true.1 hall t hm)⟩)
    (by kernel_rfl)
#print axioms diskTimes_card
end Go.Proofs.YtghfohhlcfelhaaDoor
