/- What package log's Load answers: the records at the front of a text; the conditions: the library's tables lie as they were laid, the text is at most 2^47 bytes. -/
import Derived.Test.YtgbegdgacjodcaaGreatDoorLoState
import Derived.Test.YtgbegdgacjodcaaGreatDoorBdPlain
import Derived.Test.YtgbegdgacjodcaaGreatDoorLgGet
namespace Go.Proofs.YtgbegdgacjodcaaGreatDoor
open Go.RowKit

theorem sz_drop (s : ByteArray) (k : Nat) : bl (s.extract k s.size) = (bl s).drop k := by
  rw [bl_extract, List.take_of_length_le (by rw [bl_size]; exact Nat.le_refl _)]
theorem sz_take (s : ByteArray) (k : Nat) : bl (s.extract 0 k) = (bl s).take k := by
  rw [bl_extract]; simp
theorem ix10_any (s : ByteArray) (w : World) :
    Calls Tryz.prog 27 #[.string s, .int .u8 10] w fun e w' => e = .returned (.int .i64 ((ldEnd (bl s) : Int) - 1)) ∧ w' = w := by
  have h := Any.strings_IndexByte Tryz.lays137 s 10 w
  refine Calls.mono h ?_
  rintro e w' ⟨rfl, rfl⟩
  have h2 := (ldEnd_ix (bl s)).1
  have e3 : Lib.indexByte s.data.toList 10 = (ldEnd (bl s) : Int) - 1 := by
    have : Lib.indexByte (bl s) 10 = Lib.indexByte s.data.toList 10 := rfl
    omega
  rw [show (Int.toNat 10).toUInt8 = 10 from rfl, e3]
  exact ⟨rfl, rfl⟩

set_option maxRecDepth 20000 in
set_option maxHeartbeats 4000000 in
theorem loLoad_any (s : ByteArray) (w : World) (hv : Vs w) (hs : s.size ≤ 140737488355328) :
    Calls Tryz.prog 9 #[.string s] w fun e w' => ∃ ao cap, e = .returned (.slice ao (ldL (bl s)).length cap) ∧ OwnR w' w.heap.size ao cap (ldL (bl s)) ∧ Q w w' := by
  obtain ⟨i0, hi, hz0, hz1, hz2⟩ := info_parts Tryz.infoR
  have HV := hide hv
  clear hv
  have HS0 := hide (lds_nil (bl s))
  have HFULL := hide (fun (gs : Rs) (t : Tx) (h : LdS (bl s) gs t) (hl : gs.length = 256) => lds_full h hl)
  have HSTOP := hide (fun (gs : Rs) (t : Tx) (h : LdS (bl s) gs t) (hl : fsL t = none) => lds_stop h hl)
  have HSTEP := hide (fun (gs : Rs) (t u : Tx) (r : Rc) (h : LdS (bl s) gs t) (hl : gs.length < 256) (hf : fsL t = some (r, u)) => lds_step h hl hf)
  go_enter Tryz.func9, Tryz.ntmps9
  go_wp2_with fail
  go_loopw [0, 3] (fun t v wr => ∃ (gs : Rs) (x : ByteArray) (bo : Option Addr) (bcap : Nat), t = .string x ∧ v = .slice bo gs.length bcap ∧ x.size ≤ 140737488355328 ∧ gs.length ≤ 256 ∧ Hid (LdS (bl s) gs (bl x)) ∧ Hid (OwnR wr w.heap.size bo bcap gs) ∧ Q w wr) (fun _ v _ => 256 - (match v with | .slice _ n _ => n | _ => 0))
  case atStart => exact ⟨[], s, none, 0, rfl, rfl, hs, by simp, unhide HS0, World.ownsRow_nil _ _ _ _, Q.refl _⟩
  case round =>
    obtain ⟨gs, x, bo, bcap, rfl, rfl, hx, hgl, HL, HO, hq⟩ := hrel
    by_cases hfull : gs.length = 256
    · have HE := hide (unhide HFULL gs _ HL.out hfull)
      have hf : (gs.length : Int) = 256 := by omega
      clear HL hfull HSTEP HSTOP HFULL
      go_wp2_with fail
      go_ret
      rw [unhide HE]
      exact ⟨bo, bcap, rfl, HO.out, hq⟩
    have hlt : gs.length < 256 := by omega
    have hlt' : (gs.length : Int) < 256 := by omega
    have HIX := hide (fun w => ix10_any x w)
    have hE1 := ldEnd_le (bl x)
    rw [bl_size] at hE1
    have HT := hide (sz_take x (ldEnd (bl x)))
    have HD := hide (sz_drop x (ldEnd (bl x)))
    have HTW := fs_two (bl x)
    rw [← unhide HT] at HTW
    have HG := hide (fun w (hv : Vs w) => lgGet_any (x.extract 0 (ldEnd (bl x))) w hv (by have := bl_size (x.extract 0 (ldEnd (bl x))); rw [unhide HT, List.length_take, bl_size] at this; omega))
    have hdz : (x.extract (ldEnd (bl x)) x.size).size ≤ 140737488355328 := by
      have := bl_size (x.extract (ldEnd (bl x)) x.size)
      rw [unhide HD, List.length_drop, bl_size] at this; omega
    have hI : IntKind.i64.wrap (((ldEnd (bl x) : Int) - 1) + 1) = (ldEnd (bl x) : Int) := by rw [IntKind.wrap_i64]; omega
    rw [← unhide HD] at HTW
    clear HT HD
    generalize ((ldEnd (bl x) : Int) - 1) = I at HIX hI
    generalize ldEnd (bl x) = E at *
    have hE0 : (0 : Int) ≤ (E : Int) := Int.natCast_nonneg _
    have hE1' : (E : Int) ≤ (x.size : Int) := by omega
    rcases HTW with ⟨he, hf⟩ | ⟨he, hf⟩
    · have HOK := hide (gtR_ok he)
      have HLN := hide (unhide HSTEP gs _ _ _ HL.out hlt hf)
      rw [he] at HG
      generalize gtR (bl (x.extract 0 E)) = r at HG HLN HOK
      obtain ⟨r1, r2, r3⟩ := r
      have HRV : Hid (rv (r1, r2, r3) = [.string ⟨r1.toArray⟩, .int .i64 r2, .string ⟨r3.toArray⟩]) := rfl
      have hone : ∀ u ∈ [Value.string ⟨r1.toArray⟩, .int .i64 r2, .string ⟨r3.toArray⟩], u.oneCell' = true := one_rv (r1, r2, r3)
      unfold rcV at HG
      dsimp only at HG
      generalize (⟨r1.toArray⟩ : ByteArray) = x1 at HG HRV hone
      generalize (⟨r3.toArray⟩ : ByteArray) = x3 at HG HRV hone
      have HONE := hide hone
      clear he hf HL HSTEP HSTOP HFULL hone
      go_wp2_with (go_at_call 27; refine (unhide HIX _).mono ?_; rintro e w' ⟨rfl, rfl⟩)
      refine (unhide HG _ ((unhide HV).q hq)).mono ?_
      rintro e w1 ⟨rfl, q1⟩
      have HQ2 := hide (hq.trans (q1.trans (bxR_q w1 x1 r2 x3)))
      have HO2 := hide (own_q HO.out (q1.trans (bxR_q w1 x1 r2 x3)))
      obtain ⟨b0, b1, b2⟩ := bxR_at (x := x1) (t := r2) (y := x3) (Q.refl (bxR w1 x1 r2 x3))
      unfold bxR at b0 b1 b2 HQ2 HO2
      have hB := (unhide HQ2).size
      clear q1 HO
      go_wp2_with (at_builtin; refine wpList_append_lies _ rfl _ _ 22 rfl w.heap.size 31 i0 _ 3 40 Tryz.underlying22 hi hz0 hz1 hz2 rfl (by decide) _ gs.length (lay rv gs) rfl ((unhide HO2).alloc _) ⟨w1.heap.size + 1, 0, none⟩ 1 1 [.string x1, .int .i64 r2, .string x3] rfl rfl (news_at (size_alloc w1 _).symm #[.string x1, .int .i64 r2, .string x3] _) (unhide HONE) (by decide) (by unfold maxLen; omega) (by omega) (le_alloc hB _) (w1.heap.size + 1 + 1) (by rw [size_alloc, size_alloc]) ?_)
      intro g3 cp3 w3 hown3 hgrow3 hor3 hlt3
      have hq3 : Q w w3 := Below.grown (Q.alloc (unhide HQ2) _) hgrow3 (le_alloc (unhide HQ2).size _) (fun r hr => ((unhide HO2).lt r hr).1)
      have HO3 : Hid (OwnR w3 w.heap.size (some ⟨g3, 0, none⟩) cp3 (gs ++ [(r1, r2, r3)])) := by
        refine OwnR.snoc ?_
        rw [unhide HRV]; exact hown3
      clear hown3 hgrow3 hor3 b0 b1 b2 HO2 HQ2 HG HIX HRV HONE
      go_wp2_with fail
      go_roundw
      case rel => exact ⟨gs ++ [(r1, r2, r3)], x.extract E x.size, some ⟨g3, 0, none⟩, cp3, by first | rfl | simp, by rw [List.length_append]; rfl, hdz, by rw [List.length_append]; show gs.length + 1 ≤ 256; omega, unhide HLN, HO3.out, hq3⟩
      case measure => simp; omega
    · have HE := hide (unhide HSTOP gs _ HL.out hf)
      rw [he] at HG
      generalize gtR (bl (x.extract 0 E)) = r at HG
      obtain ⟨r1, r2, r3⟩ := r
      unfold rcV at HG
      dsimp only at HG
      generalize (⟨r1.toArray⟩ : ByteArray) = x1 at HG
      generalize (⟨r3.toArray⟩ : ByteArray) = x3 at HG
      clear he hf HL HSTEP HSTOP HFULL
      go_wp2_with (go_at_call 27; refine (unhide HIX _).mono ?_; rintro e w' ⟨rfl, rfl⟩)
      refine (unhide HG _ ((unhide HV).q hq)).mono ?_
      rintro e w1 ⟨rfl, q1⟩
      have HQ2 := hide (q1.trans (bxR_q w1 x1 r2 x3))
      unfold bxR at HQ2
      clear q1
      go_wp2_with fail
      go_ret
      rw [unhide HE]
      exact ⟨bo, bcap, rfl, own_q HO.out (unhide HQ2), hq.trans (unhide HQ2)⟩

end Go.Proofs.YtgbegdgacjodcaaGreatDoor
