/- A number's digits, as the document's own Decimal tells them: of a number from 1 to 1048576; no other conditions. -/
import Derived.Test.YtgbegdgacjodcaaGreatDoorBdPlain
import Derived.Test.YtgbegdgacjodcaaGreatDoorBtRow
import Derived.Test.YtgbegdgacjodcaaGreatDoorStAppend
import Derived.Test.YtgbegdgacjodcaaGreatDoorGfBase
namespace Go.Proofs.YtgbegdgacjodcaaGreatDoor
open Go.RowKit

/-- What is told so far: t: the last digits; m: what is left. -/
def DcI (u m : Nat) (t : Tx) : Prop := (t = [] ∧ m = u) ∨ (t ≠ [] ∧ Lib.decDigits u = (if m = 0 then [] else Lib.decDigits m) ++ t)
def dgC (m : Nat) : UInt8 := UInt8.ofNat (48 + m % 10)
theorem dgC_nat (m : Nat) : (dgC m).toNat = 48 + m % 10 := dg_toNat (by omega)
theorem dg_split (m : Nat) : Lib.decDigits m = (if m / 10 = 0 then [] else Lib.decDigits (m / 10)) ++ [dgC m] := by
  by_cases h : m < 10
  · rw [Lib.decDigits, dif_pos h, if_pos (by omega)]
    unfold dgC
    rw [Nat.mod_eq_of_lt h]; rfl
  · rw [Lib.decDigits, dif_neg h, if_neg (by omega)]; rfl
theorem DcI.step {u m : Nat} {t : Tx} (h : DcI u m t) (hm : 1 ≤ m) : DcI u (m / 10) ([dgC m] ++ t) := by
  refine Or.inr ⟨by simp, ?_⟩
  rcases h with ⟨h1, h2⟩ | ⟨h1, h2⟩
  · subst h1 h2; rw [dg_split m]; simp
  · rw [h2, if_neg (by omega), dg_split m]; simp
theorem DcI.done {u : Nat} {t : Tx} (hu : 1 ≤ u) (h : DcI u 0 t) : t ≠ [] ∧ Lib.decDigits u = t := by
  rcases h with ⟨h1, h2⟩ | ⟨h1, h2⟩
  · omega
  · exact ⟨h1, by rw [h2]; rfl⟩
theorem DcI.len {u m : Nat} {t : Tx} (hu : u ≤ 1048576) (h : DcI u m t) : t.length ≤ 8 := by
  rcases h with ⟨h1, h2⟩ | ⟨h1, h2⟩
  · rw [h1]; simp
  · have h3 := dcF_len 8 u
    rw [dcF_eq 7 u (by omega), h2, List.length_append] at h3
    omega

theorem own_one {w : World} {B : Nat} (hB : B ≤ w.heap.size) (c : UInt8) : OwnB (w.alloc (.cells #[.int .u8 (c.toNat : Int)] 5)) B (some ⟨w.heap.size, 0, none⟩) 1 [c] :=
  ⟨by simp [lay, bv], Or.inr ⟨w.heap.size, 1, #[.int .u8 (c.toNat : Int)], rfl, hB, heap_alloc_new _ _, Nat.le_refl _, by unfold maxLen; decide, by simp, by simp [lay, bv]⟩⟩
theorem one_bv (xs : Tx) : ∀ u ∈ lay bv xs, u.oneCell' = true := by
  intro u hu
  obtain ⟨y, _, hy⟩ := List.mem_flatMap.1 hu
  simp [bv] at hy
  subst hy; rfl

set_option maxRecDepth 20000 in
set_option maxHeartbeats 2000000 in
theorem rdec_any (t : Int) (w : World) (h : tmB1 t = true) : Calls Tryz.prog 38 #[.int .i64 t] w fun e w' => e = .returned (.string ⟨(dc t).toArray⟩) ∧ Q w w' := by
  rw [← dc_itoa h]
  unfold tmB1 at h
  rw [Bool.and_eq_true, decide_eq_true_iff, decide_eq_true_iff] at h
  obtain ⟨h1, h2⟩ := h
  obtain ⟨u, rfl⟩ := Int.eq_ofNat_of_zero_le (show 0 ≤ t by omega)
  have hu1 : 1 ≤ u := by omega
  have hu2 : u ≤ 1048576 := by omega
  have HR : Hid (Lib.itoa (u : Int) = Lib.decDigits u) := by
    show _ = _
    unfold Lib.itoa
    rw [if_neg (by omega)]; rfl
  rw [unhide HR]
  have w0 : IntKind.u64.wrap (u : Int) = (u : Int) := by rw [IntKind.wrap_u64]; omega
  have hlt : ¬ (u : Int) < 0 := by omega
  obtain ⟨i0, hi, hz0, hz1, hz2⟩ := info_parts Tryz.infoB
  go_enter Tryz.func38, Tryz.ntmps38
  go_wp2_with fail
  go_loopw [3, 4] (fun i v wr => ∃ (m : Nat) (t : Tx) (bo : Option Addr) (bcap : Nat), m ≤ u ∧ i = .int .u64 m ∧ v = .slice bo t.length bcap ∧ Hid (DcI u m t) ∧ Hid (OwnB wr w.heap.size bo bcap t) ∧ Hid (Q w wr)) (fun i _ _ => (intOf i).toNat)
  case atStart => exact ⟨u, [], none, 0, Nat.le_refl _, rfl, rfl, Or.inl ⟨rfl, rfl⟩, World.ownsRow_nil _ _ _ _, Q.refl _⟩
  case round =>
    obtain ⟨m, t, bo, bcap, hm, rfl, rfl, HI, HO, HQ⟩ := hrel
    have hl := DcI.len hu2 (unhide HI)
    by_cases hm0 : 1 ≤ m
    · have HS := hide ((unhide HI).step hm0)
      have e5 : (0 : Int) < (m : Int) := by omega
      have ed : ((dgC m).toNat : Int) = 48 + (m : Int) % 10 := by rw [dgC_nat]; omega
      have hqa := hide ((unhide HQ).alloc (.cells #[.int .u8 ((dgC m).toNat : Int)] 5))
      have HSR := hide (SrcRow.row bv_len (by decide) (RowG.own bv_len (by decide) (own_q (unhide HO) ((Q.refl wr).alloc (.cells #[.int .u8 ((dgC m).toNat : Int)] 5)))))
      have HN := hide (own_one (unhide HQ).size (dgC m))
      have hsz := le_alloc (unhide HQ).size (.cells #[.int .u8 ((dgC m).toNat : Int)] 5)
      rw [ed] at hqa HSR HN hsz
      generalize dgC m = d at *
      clear ed
      go_wp2_with (at_builtin; refine wpList_append_row rfl _ _ 49 rfl w.heap.size 5 i0 (.int .u8 0) 1 1 Tryz.underlying49 hi hz0 hz1 hz2 rfl (by decide) (some ⟨wr.heap.size, 0, none⟩) 1 1 (lay bv [d]) rfl (unhide HN) bo t.length bcap (lay bv t) rfl (unhide HSR) (one_bv _) (by unfold maxLen; omega) (by omega) hsz ?_)
      intro ao' cap' w2 own2 grow2
      have q2 := hide (Below.grown (unhide hqa) grow2 hsz (fun r hr => ((unhide HN).lt r hr).1))
      have HO2 : Hid (OwnB w2 w.heap.size ao' cap' ([d] ++ t)) := by
        show w2.ownsRow _ _ 1 (.slice ao' ([d] ++ t).length cap') ([d] ++ t).length (lay bv ([d] ++ t))
        rw [lay_app, List.length_append]; exact own2
      clear own2 grow2
      go_wp2_with fail
      go_roundw
      case rel => exact ⟨m / 10, [d] ++ t, ao', cap', by omega, by go_num, by rw [List.length_append]; rfl, HS, HO2, q2⟩
      case measure => simp [intOf]; omega
    · obtain rfl : m = 0 := by omega
      obtain ⟨g1, g2⟩ := (unhide HI).done hu1
      have hcv := str_of_row (unhide HO) g1
      have hl1 : ((t.length : Int) == 0) = false := beq_eq_false_iff_ne.2 (by have := List.length_pos_iff.2 g1; omega)
      have HT := hide g2
      clear g1 g2 HI
      go_wp2_with fail
      go_ret
      rw [unhide HT]
      exact ⟨rfl, unhide HQ⟩

end Go.Proofs.YtgbegdgacjodcaaGreatDoor
