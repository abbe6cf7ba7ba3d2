/- What the document's own LoadLog answers; the conditions: the text is at most 2^47 bytes. -/
import Derived.Test.YtgbegdgacjodcaaGreatDoorLoLoad
import Derived.Test.YtgbegdgacjodcaaGreatDoorLgRGet
namespace Go.Proofs.YtgbegdgacjodcaaGreatDoor
open Go.RowKit

theorem rld_none {x : ByteArray} {k : Nat} (hk : x.size ≤ k) (h : (10 : UInt8) ∉ (bl x).take k) : fsL (bl x) = none := by
  rw [List.take_of_length_le (by rw [bl_size]; exact hk)] at h
  exact fs_none h
theorem rld_at {x : ByteArray} {k : Nat} (hk : k < x.size) (h : (10 : UInt8) ∉ (bl x).take k) (hc : x[k] = 10) : ldEnd (bl x) = k + 1 :=
  ldEnd_at (by rw [bl_getElem x k hk, hc]) h
theorem rld_next {x : ByteArray} {k : Nat} (hk : k < x.size) (h : (10 : UInt8) ∉ (bl x).take k) (hc : x[k] ≠ 10) : (10 : UInt8) ∉ (bl x).take (k + 1) := by
  rw [take_s x k hk]
  intro hm
  rcases List.mem_append.1 hm with hm | hm
  · exact h hm
  · exact hc (List.mem_singleton.1 hm).symm

set_option maxRecDepth 20000 in
set_option maxHeartbeats 8000000 in
theorem rloLoad_any (s : ByteArray) (w : World) (hs : s.size ≤ 140737488355328) :
    Calls Tryz.prog 16 #[.string s] w fun e w' => ∃ ao cap, e = .returned (.slice ao (ldL (bl s)).length cap) ∧ OwnR w' w.heap.size ao cap (ldL (bl s)) ∧ Q w w' := by
  obtain ⟨i0, hi, hz0, hz1, hz2⟩ := info_parts Tryz.infoR
  have HS0 := hide (lds_nil (bl s))
  have HFULL := hide (fun (gs : Rs) (t : Tx) (h : LdS (bl s) gs t) (hl : gs.length = 256) => lds_full h hl)
  have HSTOP := hide (fun (gs : Rs) (t : Tx) (h : LdS (bl s) gs t) (hl : fsL t = none) => lds_stop h hl)
  have HSTEP := hide (fun (gs : Rs) (t u : Tx) (r : Rc) (h : LdS (bl s) gs t) (hl : gs.length < 256) (hf : fsL t = some (r, u)) => lds_step h hl hf)
  go_enter Tryz.func16, Tryz.ntmps16
  go_wp2_with fail
  go_loopw [0, 3] (fun t v wr => ∃ (gs : Rs) (x : ByteArray) (bo : Option Addr) (bcap : Nat), t = .string x ∧ v = .slice bo gs.length bcap ∧ x.size ≤ 140737488355328 ∧ gs.length ≤ 256 ∧ Hid (LdS (bl s) gs (bl x)) ∧ Hid (OwnR wr w.heap.size bo bcap gs) ∧ Q w wr) (fun _ v _ => 256 - (match v with | .slice _ n _ => n | _ => 0))
  case atStart => exact ⟨[], s, none, 0, rfl, rfl, hs, by simp, unhide HS0, World.ownsRow_nil _ _ _ _, Q.refl _⟩
  case round =>
    obtain ⟨gs, x, bo, bcap, rfl, rfl, hx, hgl, HL, HO, hq⟩ := hrel
    rename World => wz
    by_cases hfull : gs.length = 256
    · have HE := hide (unhide HFULL gs _ HL.out hfull)
      have hf : (gs.length : Int) = 256 := by omega
      clear HL hfull HSTEP HSTOP HFULL
      go_wp2_with fail
      go_ret
      rw [unhide HE]
      exact ⟨bo, bcap, rfl, HO.out, hq⟩
    have hlt : gs.length < 256 := by omega
    have hlt' : (gs.length : Int) < 256 := by omega
    go_wp2_with fail
    go_loopw [4] (fun i wr => ∃ k : Nat, k ≤ x.size ∧ i = .int .i64 k ∧ Hid ((10 : UInt8) ∉ (bl x).take k) ∧ Q wz wr) (fun i _ => x.size - (intOf i).toNat)
    case atStart => exact ⟨0, Nat.zero_le _, rfl, by show _ ∉ _; simp, Q.refl _⟩
    case round =>
      obtain ⟨k, hk, rfl, HN, hqi⟩ := hrel
      rename World => wi
      have k0 : (0 : Int) ≤ (k : Int) := Int.natCast_nonneg _
      by_cases hkl : k < x.size
      · have k1 : (k : Int) < (x.size : Int) := by omega
        have hcn : (x[k].toNat : Int) ≤ 255 := by have := x[k].toNat_lt; omega
        by_cases h10 : x[k] = 10
        · have g10 : ((x[k].toNat : Int) != 10) = false := by rw [h10]; rfl
          have hEE := rld_at hkl HN.out h10
          have HT := hide (sz_take x (k + 1))
          have HD := hide (sz_drop x (k + 1))
          have HTW := fs_two (bl x)
          rw [hEE, ← unhide HT] at HTW
          have HG := hide (fun w => rGet_any (x.extract 0 (k + 1)) w (by have := bl_size (x.extract 0 (k + 1)); rw [unhide HT, List.length_take, bl_size] at this; omega))
          have hdz : (x.extract (k + 1) x.size).size ≤ 140737488355328 := by
            have := bl_size (x.extract (k + 1) x.size)
            rw [unhide HD, List.length_drop, bl_size] at this; omega
          rw [← unhide HD] at HTW
          have k2 : ((k : Int) == (x.size : Int)) = false := beq_eq_false_iff_ne.2 (by omega)
          have e1 : IntKind.i64.wrap ((k : Int) + 1) = (k : Int) + 1 := by rw [IntKind.wrap_i64]; omega
          have e2 : (0 : Int) ≤ (k : Int) + 1 := by omega
          have e3 : (k : Int) + 1 ≤ (x.size : Int) := by omega
          have e4 : ((k : Int) + 1).toNat = k + 1 := by omega
          clear HT HD hEE h10 HN
          rcases HTW with ⟨he, hf⟩ | ⟨he, hf⟩
          · have HLN := hide (unhide HSTEP gs _ _ _ HL.out hlt hf)
            rw [he] at HG
            generalize gtR (bl (x.extract 0 (k + 1))) = r at HG HLN
            obtain ⟨r1, r2, r3⟩ := r
            have HRV : Hid (rv (r1, r2, r3) = [.string ⟨r1.toArray⟩, .int .i64 r2, .string ⟨r3.toArray⟩]) := rfl
            have hone : ∀ u ∈ [Value.string ⟨r1.toArray⟩, .int .i64 r2, .string ⟨r3.toArray⟩], u.oneCell' = true := one_rv (r1, r2, r3)
            unfold rcV at HG
            dsimp only at HG
            generalize (⟨r1.toArray⟩ : ByteArray) = x1 at HG HRV hone
            generalize (⟨r3.toArray⟩ : ByteArray) = x3 at HG HRV hone
            have HONE := hide hone
            clear he hf HL HSTEP HSTOP HFULL hone
            go_wp2_with fail
            refine (unhide HG _).mono ?_
            rintro e w1 ⟨rfl, q1⟩
            have HQ2 := hide (hq.trans (hqi.trans (q1.trans (bxR_q w1 x1 r2 x3))))
            have HO2 := hide (own_q HO.out (hqi.trans (q1.trans (bxR_q w1 x1 r2 x3))))
            obtain ⟨b0, b1, b2⟩ := bxR_at (x := x1) (t := r2) (y := x3) (Q.refl (bxR w1 x1 r2 x3))
            unfold bxR at b0 b1 b2 HQ2 HO2
            have hB := (unhide HQ2).size
            clear q1 HO
            go_wp2_with (at_builtin; refine wpList_append_lies _ rfl _ _ 22 rfl w.heap.size 31 i0 _ 3 40 Tryz.underlying22 hi hz0 hz1 hz2 rfl (by decide) _ gs.length (lay rv gs) rfl ((unhide HO2).alloc _) ⟨w1.heap.size + 1, 0, none⟩ 1 1 [.string x1, .int .i64 r2, .string x3] rfl rfl (news_at (size_alloc w1 _).symm #[.string x1, .int .i64 r2, .string x3] _) (unhide HONE) (by decide) (by unfold maxLen; omega) (by omega) (le_alloc hB _) (w1.heap.size + 1 + 1) (by rw [size_alloc, size_alloc]) ?_)
            intro g3 cp3 w3 hown3 hgrow3 hor3 hlt3
            have hq3 : Q w w3 := Below.grown (Q.alloc (unhide HQ2) _) hgrow3 (le_alloc (unhide HQ2).size _) (fun r hr => ((unhide HO2).lt r hr).1)
            have HO3 : Hid (OwnR w3 w.heap.size (some ⟨g3, 0, none⟩) cp3 (gs ++ [(r1, r2, r3)])) := by
              refine OwnR.snoc ?_
              rw [unhide HRV]; exact hown3
            clear hown3 hgrow3 hor3 b0 b1 b2 HO2 HQ2 HG HRV HONE
            go_wp2_with fail
            go_roundw
            case rel => exact ⟨gs ++ [(r1, r2, r3)], x.extract (k + 1) x.size, some ⟨g3, 0, none⟩, cp3, by first | rfl | simp, by rw [List.length_append]; rfl, hdz, by rw [List.length_append]; show gs.length + 1 ≤ 256; omega, unhide HLN, HO3.out, hq3⟩
            case measure => simp; omega
          · have HE := hide (unhide HSTOP gs _ HL.out hf)
            rw [he] at HG
            generalize gtR (bl (x.extract 0 (k + 1))) = r at HG
            obtain ⟨r1, r2, r3⟩ := r
            unfold rcV at HG
            dsimp only at HG
            generalize (⟨r1.toArray⟩ : ByteArray) = x1 at HG
            generalize (⟨r3.toArray⟩ : ByteArray) = x3 at HG
            clear he hf HL HSTEP HSTOP HFULL
            go_wp2_with fail
            refine (unhide HG _).mono ?_
            rintro e w1 ⟨rfl, q1⟩
            have HQ2 := hide (hqi.trans (q1.trans (bxR_q w1 x1 r2 x3)))
            unfold bxR at HQ2
            clear q1
            go_wp2_with fail
            go_ret
            rw [unhide HE]
            exact ⟨bo, bcap, rfl, own_q HO.out (unhide HQ2), hq.trans (unhide HQ2)⟩
        · have g10 : ((x[k].toNat : Int) != 10) = true := bne_iff_ne.2 fun e => h10 (UInt8.toNat_inj.1 (by show _ = 10; omega))
          have HN2 := hide (rld_next hkl HN.out h10)
          clear HN h10
          go_wp2_with fail
          go_roundw
          case rel => exact ⟨k + 1, by omega, by go_num, unhide HN2, hqi⟩
          case measure => simp [intOf]; omega
      · have hkx : k = x.size := by omega
        have HE := hide (unhide HSTOP gs _ HL.out (rld_none (by omega) HN.out))
        have k2 : ((x.size : Int) == (x.size : Int)) = true := by simp
        clear HN HL HSTEP HSTOP HFULL
        subst hkx
        go_wp2_with fail
        go_ret
        rw [unhide HE]
        exact ⟨bo, bcap, rfl, own_q HO.out hqi, hq.trans hqi⟩

end Go.Proofs.YtgbegdgacjodcaaGreatDoor
