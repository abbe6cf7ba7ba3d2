/- What record a line tells, sign by sign, as the document's own GetLine answers; the conditions: the text is no longer than a string can be. -/
import Derived.Test.YtgbegdgacjodcaaGreatDoorLgRPut
namespace Go.Proofs.YtgbegdgacjodcaaGreatDoor
open Go.RowKit

/-- The state of the loop: the record that lies in a block, as texts. -/
def RcB (w : World) (g : Nat) (r : Rc) : Prop := Blk w g #[.string ⟨r.1.toArray⟩, .int .i64 r.2.1, .string ⟨r.2.2.toArray⟩] 31
theorem foR_snoc (l : Tx) (c : UInt8) : foR (l ++ [c]) = stR (foR l) c := by unfold foR; rw [List.foldl_append]; rfl
/-- How far the state may have come. -/
theorem st_len : ∀ (l : Tx) (st : Int × Rc) (n : Nat), st.2.1.length ≤ n → st.2.2.2.length ≤ n → (0 ≤ st.1 ∧ st.1 ≤ n) → (0 ≤ st.2.2.1 ∧ st.2.2.1 ≤ 10485769) →
    (l.foldl stR st).2.1.length ≤ n + l.length ∧ (l.foldl stR st).2.2.2.length ≤ n + l.length ∧ (0 ≤ (l.foldl stR st).1 ∧ (l.foldl stR st).1 ≤ n + l.length) ∧ (0 ≤ (l.foldl stR st).2.2.1 ∧ (l.foldl stR st).2.2.1 ≤ 10485769)
  | [], st, n, h1, h2, h3, h4 => ⟨h1, h2, h3, h4⟩
  | c :: l, st, n, h1, h2, h3, h4 => by
    have step : (stR st c).2.1.length ≤ n + 1 ∧ (stR st c).2.2.2.length ≤ n + 1 ∧ (0 ≤ (stR st c).1 ∧ (stR st c).1 ≤ n + 1) ∧ (0 ≤ (stR st c).2.2.1 ∧ (stR st c).2.2.1 ≤ 10485769) := by
      unfold stR
      split
      · exact ⟨by dsimp only; omega, by dsimp only; omega, by dsimp only; omega, h4⟩
      · split
        · exact ⟨by simp; omega, by dsimp only; omega, by dsimp only; omega, h4⟩
        · split
          · rename_i h
            exact ⟨by dsimp only; omega, by dsimp only; omega, by dsimp only; omega, by dsimp only; omega⟩
          · split
            · exact ⟨by dsimp only; omega, by simp; omega, by dsimp only; omega, h4⟩
            · exact ⟨by omega, by omega, by omega, h4⟩
    obtain ⟨g1, g2, g3, g4⟩ := step
    have := st_len l (stR st c) (n + 1) g1 g2 (by omega) g4
    rw [List.foldl_cons, List.length_cons, show n + (l.length + 1) = n + 1 + l.length by omega]
    refine ⟨this.1, this.2.1, ?_, this.2.2.2⟩
    have := this.2.2.1
    omega
theorem fo_len (l : Tx) : (foR l).2.1.length ≤ l.length ∧ (foR l).2.2.2.length ≤ l.length ∧ (0 ≤ (foR l).1 ∧ (foR l).1 ≤ l.length) ∧ (0 ≤ (foR l).2.2.1 ∧ (foR l).2.2.1 ≤ 10485769) := by
  have := st_len l (0, ([], 0, [])) 0 (by simp) (by simp) (by simp) (by simp)
  simpa [foR] using this

/-! what one sign does -/
theorem st_tab {p : Int} {r : Rc} {c : UInt8} (h : c = 9) : stR (p, r) c = (p + 1, r) := by unfold stR; rw [if_pos h]
theorem st_out {r : Rc} {c : UInt8} (h : c ≠ 9) : stR (0, r) c = (0, (r.1 ++ [c], r.2.1, r.2.2)) := by unfold stR; rw [if_neg h, if_pos rfl]
theorem st_dig {r : Rc} {c : UInt8} (h1 : 48 ≤ c.toNat) (h2 : c.toNat ≤ 57) (h3 : r.2.1 ≤ 1048576) : stR (1, r) c = (1, (r.1, 10 * r.2.1 + ((c.toNat : Int) - 48), r.2.2)) := by
  have h : c ≠ 9 := fun e => by rw [e] at h1; exact absurd h1 (by decide)
  unfold stR; rw [if_neg h, if_neg (by simp), if_pos ⟨rfl, h1, h2, h3⟩]
  have e : ((c.toNat - 48 : Nat) : Int) = (c.toNat : Int) - 48 := by omega
  rw [e]
theorem st_sgn {r : Rc} {c : UInt8} (h : c ≠ 9) (h' : c ≠ 10) : stR (2, r) c = (2, (r.1, r.2.1, r.2.2 ++ [c])) := by
  unfold stR; rw [if_neg h, if_neg (by simp), if_neg (by simp), if_pos ⟨rfl, h'⟩]
theorem st_non {p : Int} {r : Rc} {c : UInt8} (h : c ≠ 9) (h0 : p ≠ 0) (h1 : ¬ (p = 1 ∧ 48 ≤ c.toNat ∧ c.toNat ≤ 57 ∧ r.2.1 ≤ 1048576)) (h2 : ¬ (p = 2 ∧ c ≠ 10)) : stR (p, r) c = (p, r) := by
  unfold stR; rw [if_neg h, if_neg h0, if_neg h1, if_neg h2]

theorem bl_at1 (s : ByteArray) (k : Nat) (h : k < s.size) : bl (s.extract k (k + 1)) = [s[k]] := by
  rw [bl_extract, List.take_add_one, bl_getElem s k h]
  have : ((bl s).take k).length = k := by rw [List.length_take, bl_size]; omega
  rw [List.drop_append]
  simp [this]
theorem take_s (s : ByteArray) (k : Nat) (h : k < s.size) : (bl s).take (k + 1) = (bl s).take k ++ [s[k]] := take_snoc s k h

theorem rt_no {s : Tx} (h : (rcOk (foR s).2 && (rcT (foR s).2 == s)) = false) : gtR s = ([], 0, []) ∧ gtE s = 1300 := by
  have : ¬ (rcOk (foR s).2 && (rcT (foR s).2 == s)) = true := by rw [h]; simp
  unfold gtR gtE
  rw [← gt_other]
  unfold gtF
  rw [if_neg this]; exact ⟨rfl, rfl⟩
theorem rt_yes {s : Tx} (h : (rcOk (foR s).2 && (rcT (foR s).2 == s)) = true) : gtR s = (foR s).2 ∧ gtE s = 0 := by
  unfold gtR gtE
  rw [← gt_other]
  unfold gtF
  rw [if_pos h]; exact ⟨rfl, rfl⟩

set_option maxRecDepth 20000 in
set_option maxHeartbeats 8000000 in
theorem rGet_any (s : ByteArray) (w : World) (hs : s.size ≤ 140737488355328) :
    Calls Tryz.prog 31 #[.string s] w fun e w' => e = .returned (.tuple #[rcV (gtR (bl s)), .int .i64 (gtE (bl s))]) ∧ Q w w' := by
  have b1 : Blk (w.alloc (.cells #[.string ⟨#[]⟩, .int .i64 0, .string ⟨#[]⟩] 31)) w.heap.size #[.string ⟨#[]⟩, .int .i64 0, .string ⟨#[]⟩] 31 := Blk.new w _ _
  have q1 := (Q.refl w).alloc (.cells #[.string ⟨#[]⟩, .int .i64 0, .string ⟨#[]⟩] 31)
  have b2 := Blk.new (w.alloc (.cells #[.string ⟨#[]⟩, .int .i64 0, .string ⟨#[]⟩] 31)) #[.string ⟨#[]⟩, .int .i64 0, .string ⟨#[]⟩] 31
  rw [size_alloc] at b2
  have q2 := (Q.refl (w.alloc (.cells #[.string ⟨#[]⟩, .int .i64 0, .string ⟨#[]⟩] 31))).alloc (.cells #[.string ⟨#[]⟩, .int .i64 0, .string ⟨#[]⟩] 31)
  have HB1 := hide (b1.q q2)
  have HB2 := hide b2
  have HQ := hide (q1.trans q2)
  clear b1 b2 q1 q2
  have HL := hide (bl_size s)
  go_enter Tryz.func31, Tryz.ntmps31
  go_wp2_with fail
  generalize (w.alloc (.cells #[.string ⟨#[]⟩, .int .i64 0, .string ⟨#[]⟩] 31)).alloc (.cells #[.string ⟨#[]⟩, .int .i64 0, .string ⟨#[]⟩] 31) = w0 at *
  go_loopw [5, 6] (fun p i wr => ∃ (k : Nat) (P : Int) (x1 : ByteArray) (t : Int) (x3 : ByteArray), k ≤ s.size ∧ p = .int .i64 P ∧ i = .int .i64 k ∧ Hid (foR ((bl s).take k) = (P, (bl x1, t, bl x3))) ∧ Hid (Blk wr (w.heap.size + 1) #[.string x1, .int .i64 t, .string x3] 31) ∧ Hid (Fr (fun k => k = w.heap.size + 1) w0 wr)) (fun _ i _ => s.size - (intOf i).toNat)
  case atStart => exact ⟨0, 0, ⟨#[]⟩, 0, ⟨#[]⟩, Nat.zero_le _, rfl, rfl, rfl, HB2, Fr.refl _ _⟩
  case round =>
    obtain ⟨k, P, x1, t, x3, hk, rfl, rfl, HA, HB, HF⟩ := hrel
    have hb := unhide HB
    have c0 := hb.cell 0 rfl
    have c1 := hb.cell 1 rfl
    have c2 := hb.cell 2 rfl
    have f0 := hb.frz 0
    have f1 := hb.frz 1
    have f2 := hb.frz 2
    clear hb
    have hfl := fo_len ((bl s).take k)
    rw [unhide HA] at hfl
    dsimp only at hfl
    rw [bl_size, bl_size, List.length_take, unhide HL, Nat.min_eq_left hk] at hfl
    obtain ⟨y1, y3, ⟨p0, p1⟩, ⟨t0, t1⟩⟩ := hfl
    by_cases hlt : k < s.size
    · have k0 : (0 : Int) ≤ (k : Int) := Int.natCast_nonneg _
      have k1 : (k : Int) < (s.size : Int) := by omega
      have hx1 : (s.extract k (k + 1)).size = 1 := by rw [← bl_size, bl_at1 s k hlt]; rfl
      have HX := hide (bl_at1 s k hlt)
      have HS : Hid (foR ((bl s).take (k + 1)) = stR (P, (bl x1, t, bl x3)) s[k]) := by
        show _ = _
        rw [take_s s k hlt, foR_snoc, unhide HA]
      have hcn : (s[k].toNat : Int) ≤ 255 := by have := s[k].toNat_lt; omega
      clear HA
      by_cases h9 : s[k] = 9
      · have g9 : ((s[k].toNat : Int) == 9) = true := by rw [h9]; rfl
        have w1 : IntKind.i64.wrap (P + 1) = P + 1 := by rw [IntKind.wrap_i64]; omega
        have HN := hide ((unhide HS).trans (st_tab h9))
        have HBN := HB
        have HFN := HF
        clear HS HB HF
        clear HX h9
        go_wp2_with fail
        go_roundw
        case rel => exact ⟨k + 1, P + 1, x1, t, x3, by omega, by go_num, by go_num, HN, HBN, HFN⟩
        case measure => simp [intOf]; omega
      have g9 : ((s[k].toNat : Int) == 9) = false := beq_eq_false_iff_ne.2 fun e => h9 (UInt8.toNat_inj.1 (by show _ = 9; omega))
      by_cases hp0 : P = 0
      · subst hp0
        have HN : Hid (foR ((bl s).take (k + 1)) = (0, (bl (x1 ++ s.extract k (k + 1)), t, bl x3))) := by
          show _ = _
          rw [unhide HS, st_out h9]; simp only [bl_app, unhide HX]
        have HBN : Hid (Blk (wr.drew.setCell ⟨w.heap.size + 1, 0, none⟩ (.string (x1 ++ s.extract k (k + 1)))) (w.heap.size + 1) #[.string (x1 ++ s.extract k (k + 1)), .int .i64 t, .string x3] 31) := ((unhide HB).drew).set 0 _
        have HFN : Hid (Fr (fun k => k = w.heap.size + 1) w0 (wr.drew.setCell ⟨w.heap.size + 1, 0, none⟩ (.string (x1 ++ s.extract k (k + 1))))) := ((unhide HF).drew).trans (Fr.set _ _ _ _)
        clear HS HB HF
        clear HX h9
        go_wp2_with fail
        go_region
        go_wp2_with fail
        go_roundw
        case rel => exact ⟨k + 1, 0, (x1 ++ s.extract k (k + 1)), t, x3, by omega, by go_num, by go_num, HN, HBN, HFN⟩
        case measure => simp [intOf]; omega
      have gp : (P == 0) = false := beq_eq_false_iff_ne.2 hp0
      by_cases hd : P = 1 ∧ 48 ≤ s[k].toNat ∧ s[k].toNat ≤ 57 ∧ t ≤ 1048576
      · obtain ⟨hp1, d1, d2, d3⟩ := hd
        subst hp1
        have e1 : (48 : Int) ≤ (s[k].toNat : Int) := by omega
        have e2 : (s[k].toNat : Int) ≤ 57 := by omega
        have e3 : IntKind.u8.wrap ((s[k].toNat : Int) - 48) = (s[k].toNat : Int) - 48 := by rw [IntKind.wrap_u8]; omega
        have e4 : IntKind.i64.wrap (10 * t) = 10 * t := by rw [IntKind.wrap_i64]; omega
        have e5 : IntKind.i64.wrap (10 * t + ((s[k].toNat : Int) - 48)) = 10 * t + ((s[k].toNat : Int) - 48) := by rw [IntKind.wrap_i64]; omega
        have e6 : IntKind.i64.wrap ((s[k].toNat : Int) - 48) = (s[k].toNat : Int) - 48 := by rw [IntKind.wrap_i64]; omega
        have HN : Hid (foR ((bl s).take (k + 1)) = (1, (bl x1, (10 * t + ((s[k].toNat : Int) - 48)), bl x3))) := by
          show _ = _
          rw [unhide HS, st_dig d1 d2 d3]
        have HBN : Hid (Blk (wr.setCell ⟨w.heap.size + 1, 1, none⟩ (.int .i64 (10 * t + ((s[k].toNat : Int) - 48)))) (w.heap.size + 1) #[.string x1, .int .i64 (10 * t + ((s[k].toNat : Int) - 48)), .string x3] 31) := ((unhide HB)).set 1 _
        have HFN : Hid (Fr (fun k => k = w.heap.size + 1) w0 (wr.setCell ⟨w.heap.size + 1, 1, none⟩ (.int .i64 (10 * t + ((s[k].toNat : Int) - 48))))) := ((unhide HF)).trans (Fr.set _ _ _ _)
        clear HS HB HF
        clear HX h9 d1 d2 gp hp0
        go_wp2_with fail
        go_roundw
        case rel => exact ⟨k + 1, 1, x1, (10 * t + ((s[k].toNat : Int) - 48)), x3, by omega, by go_num, by go_num, HN, HBN, HFN⟩
        case measure => simp [intOf]; omega
      have HD : Hid (¬ (P = 1 ∧ 48 ≤ s[k].toNat ∧ s[k].toNat ≤ 57 ∧ t ≤ 1048576)) := hd
      by_cases hp2 : P = 2
      · subst hp2
        by_cases h10 : s[k] = 10
        · have g10 : ((s[k].toNat : Int) != 10) = false := by rw [h10]; rfl
          have HN := hide ((unhide HS).trans (st_non h9 (by decide) (fun h => by omega) (fun h => h.2 h10)))
          have HBN := HB
          have HFN := HF
          clear HS HB HF
          clear HX h9 hd HD h10
          go_wp2_with fail
          go_roundw
          case rel => exact ⟨k + 1, 2, x1, t, x3, by omega, by go_num, by go_num, HN, HBN, HFN⟩
          case measure => simp [intOf]; omega
        · have g10 : ((s[k].toNat : Int) != 10) = true := bne_iff_ne.2 fun e => h10 (UInt8.toNat_inj.1 (by show _ = 10; omega))
          have HN : Hid (foR ((bl s).take (k + 1)) = (2, (bl x1, t, bl (x3 ++ s.extract k (k + 1))))) := by
            show _ = _
            rw [unhide HS, st_sgn h9 h10]; simp only [bl_app, unhide HX]
          have HBN : Hid (Blk (wr.drew.setCell ⟨w.heap.size + 1, 2, none⟩ (.string (x3 ++ s.extract k (k + 1)))) (w.heap.size + 1) #[.string x1, .int .i64 t, .string (x3 ++ s.extract k (k + 1))] 31) := ((unhide HB).drew).set 2 _
          have HFN : Hid (Fr (fun k => k = w.heap.size + 1) w0 (wr.drew.setCell ⟨w.heap.size + 1, 2, none⟩ (.string (x3 ++ s.extract k (k + 1))))) := ((unhide HF).drew).trans (Fr.set _ _ _ _)
          clear HS HB HF
          clear HX h9 hd HD h10
          go_wp2_with fail
          go_region
          go_wp2_with fail
          go_roundw
          case rel => exact ⟨k + 1, 2, x1, t, (x3 ++ s.extract k (k + 1)), by omega, by go_num, by go_num, HN, HBN, HFN⟩
          case measure => simp [intOf]; omega
      have g2 : (P == 2) = false := beq_eq_false_iff_ne.2 hp2
      have HN0 := hide (st_non (r := (bl x1, t, bl x3)) h9 hp0 (unhide HD) (fun h => hp2 h.1))
      clear HD
      by_cases hp1 : P = 1
      · subst hp1
        by_cases d1 : 48 ≤ (s[k].toNat : Int)
        · by_cases d2 : (s[k].toNat : Int) ≤ 57
          · have d3 : (1048576 : Int) < t := by omega
            have d3' : ¬ t ≤ 1048576 := by omega
            clear hd
            have HN := hide ((unhide HS).trans (unhide HN0))
            have HBN := HB
            have HFN := HF
            clear HS HB HF
            clear HX h9 hp0 hp2
            go_wp2_with fail
            go_roundw
            case rel => exact ⟨k + 1, 1, x1, t, x3, by omega, by go_num, by go_num, HN, HBN, HFN⟩
            case measure => simp [intOf]; omega
          · have d2' : (57 : Int) < (s[k].toNat : Int) := by omega
            clear hd
            have HN := hide ((unhide HS).trans (unhide HN0))
            have HBN := HB
            have HFN := HF
            clear HS HB HF
            clear HX h9 hp0 hp2
            go_wp2_with fail
            go_roundw
            case rel => exact ⟨k + 1, 1, x1, t, x3, by omega, by go_num, by go_num, HN, HBN, HFN⟩
            case measure => simp [intOf]; omega
        · have d1' : (s[k].toNat : Int) < 48 := by omega
          clear hd
          have HN := hide ((unhide HS).trans (unhide HN0))
          have HBN := HB
          have HFN := HF
          clear HS HB HF
          clear HX h9 hp0 hp2
          go_wp2_with fail
          go_roundw
          case rel => exact ⟨k + 1, 1, x1, t, x3, by omega, by go_num, by go_num, HN, HBN, HFN⟩
          case measure => simp [intOf]; omega
      · have g1 : (P == 1) = false := beq_eq_false_iff_ne.2 hp1
        clear hd hp1
        have HN := hide ((unhide HS).trans (unhide HN0))
        have HBN := HB
        have HFN := HF
        clear HS HB HF
        clear HX h9 hp0 hp2
        go_wp2_with fail
        go_roundw
        case rel => exact ⟨k + 1, P, x1, t, x3, by omega, by go_num, by go_num, HN, HBN, HFN⟩
        case measure => simp [intOf]; omega
    · have HK : Hid (foR (bl s) = (P, (bl x1, t, bl x3))) := by
        show _ = _
        rw [← unhide HA, List.take_of_length_le (by rw [unhide HL]; omega)]
      clear HA
      have qw : Q w wr := Below.trans (unhide HQ) ((unhide HF).below (unhide HQ).size (fun k hk => by omega))
      have HQ1 := hide qw
      have HBZ := hide ((unhide HB1).fr (unhide HF) (by omega))
      have er : (foR (bl s)).2 = (bl x1, t, bl x3) := by rw [unhide HK]
      have HN := hide (rt_no (s := bl s))
      have HY := hide (rt_yes (s := bl s))
      rw [er] at HN HY
      have ev : rcV (bl x1, t, bl x3) = .agg #[.string x1, .int .i64 t, .string x3] := by
        unfold rcV
        dsimp only
        rw [← of_bl (t := x1) rfl, ← of_bl (t := x3) rfl]
      have HP := hide (fun w => rPut_any (bl x1, t, bl x3) w (by dsimp only; rw [bl_size]; unfold maxLen; omega) (by dsimp only; rw [bl_size]; unfold maxLen; omega))
      have HX := hide (txt_beq (rcT (bl x1, t, bl x3)) s)
      have HV := hide ev
      rw [ev] at HP
      clear er ev qw HK HF HQ HB1 HB2 HL
      generalize (bl x1, t, bl x3) = r at *
      cases hok : rcOk r
      · obtain ⟨e1, e2⟩ := lg_no hok
        rw [e1, e2] at HP
        obtain ⟨f1, f2⟩ := unhide HN (by rw [hok]; rfl)
        have HF1 := hide f1
        have HF2 := hide f2
        clear HN HY HX HV hok e1 e2 f1 f2
        go_wp2_with fail
        clear c0 c1 c2 f0 f1 f2
        refine (unhide HP _).mono ?_
        rintro e w2 ⟨rfl, q2⟩
        have hb := (unhide HBZ).q q2
        have HQ2 := hide ((unhide HQ1).trans q2)
        have c0 := hb.cell 0 rfl
        have c1 := hb.cell 1 rfl
        have c2 := hb.cell 2 rfl
        have g0 := hb.frz 0
        have g1 := hb.frz 1
        have g2 := hb.frz 2
        have HB2 := hide hb
        clear hb q2
        go_wp2_with fail
        obtain ⟨hb, fr⟩ := put3 (unhide HB2) (.string ⟨#[]⟩) (.int .i64 0) (.string ⟨#[]⟩)
        have HQ3 := hide (Below.trans (unhide HQ2) (fr.below (unhide HQ2).size (fun k hk => by omega)))
        have k0 := hb.cell 0 rfl
        have k1 := hb.cell 1 rfl
        have k2 := hb.cell 2 rfl
        clear c0 c1 c2 g0 g1 g2 fr hb
        generalize ((w2.setCell ⟨w.heap.size, 0, none⟩ (.string ⟨#[]⟩)).setCell ⟨w.heap.size, 1, none⟩ (.int .i64 0)).setCell ⟨w.heap.size, 2, none⟩ (.string ⟨#[]⟩) = w3 at *
        exact bodyPost_ret (v := .tuple #[.agg #[.string ⟨#[]⟩, .int .i64 0, .string ⟨#[]⟩], .int .i64 1300]) (by simp [results, Tryz.results31, go_sem, k0, k1, k2]) rfl ⟨by rw [unhide HF1, unhide HF2], unhide HQ3⟩
      · obtain ⟨e1, e2⟩ := lg_yes hok
        rw [e1, e2] at HP
        have zt := rcT_len hok
        have hyt : (⟨(rcT r).toArray⟩ : ByteArray).size ≤ 2100 := by rw [mk_size']; exact zt
        cases hx : (rcT r == bl s)
        · rw [hx] at HX
          obtain ⟨f1, f2⟩ := unhide HN (by rw [hok, hx]; rfl)
          have HF1 := hide f1
          have HF2 := hide f2
          clear HN HY HV hok e1 e2 f1 f2 hx zt
          generalize (⟨(rcT r).toArray⟩ : ByteArray) = xt at *
          go_wp2_with fail
          clear c0 c1 c2 f0 f1 f2
          refine (unhide HP _).mono ?_
          rintro e w2 ⟨rfl, q2⟩
          have hb := (unhide HBZ).q q2
          have HQ2 := hide ((unhide HQ1).trans q2)
          have c0 := hb.cell 0 rfl
          have c1 := hb.cell 1 rfl
          have c2 := hb.cell 2 rfl
          have g0 := hb.frz 0
          have g1 := hb.frz 1
          have g2 := hb.frz 2
          have HB2 := hide hb
          clear hb q2
          have hx := unhide HX
          go_wp2_with fail
          obtain ⟨hb, fr⟩ := put3 (unhide HB2) (.string ⟨#[]⟩) (.int .i64 0) (.string ⟨#[]⟩)
          have HQ3 := hide (Below.trans (unhide HQ2) (fr.below (unhide HQ2).size (fun k hk => by omega)))
          have k0 := hb.cell 0 rfl
          have k1 := hb.cell 1 rfl
          have k2 := hb.cell 2 rfl
          clear c0 c1 c2 g0 g1 g2 fr hb
          generalize ((w2.setCell ⟨w.heap.size, 0, none⟩ (.string ⟨#[]⟩)).setCell ⟨w.heap.size, 1, none⟩ (.int .i64 0)).setCell ⟨w.heap.size, 2, none⟩ (.string ⟨#[]⟩) = w3 at *
          exact bodyPost_ret (v := .tuple #[.agg #[.string ⟨#[]⟩, .int .i64 0, .string ⟨#[]⟩], .int .i64 1300]) (by simp [results, Tryz.results31, go_sem, k0, k1, k2]) rfl ⟨by rw [unhide HF1, unhide HF2], unhide HQ3⟩
        · rw [hx] at HX
          obtain ⟨f1, f2⟩ := unhide HY (by rw [hok, hx]; rfl)
          have HF1 := hide f1
          have HF2 := hide f2
          clear HN HY hok e1 e2 f1 f2 hx zt
          generalize (⟨(rcT r).toArray⟩ : ByteArray) = xt at *
          go_wp2_with fail
          clear c0 c1 c2
          refine (unhide HP _).mono ?_
          rintro e w2 ⟨rfl, q2⟩
          have hb := (unhide HBZ).q q2
          have hg := (unhide HB).q q2
          have HQ2 := hide ((unhide HQ1).trans q2)
          have c0 := hb.cell 0 rfl
          have c1 := hb.cell 1 rfl
          have c2 := hb.cell 2 rfl
          have g0 := hb.frz 0
          have g1 := hb.frz 1
          have g2 := hb.frz 2
          have d0 := hg.cell 0 rfl
          have d1 := hg.cell 1 rfl
          have d2 := hg.cell 2 rfl
          have HB2 := hide hb
          clear hb hg q2
          have hx := unhide HX
          go_wp2_with fail
          obtain ⟨hb, fr⟩ := put3 (unhide HB2) (.string x1) (.int .i64 t) (.string x3)
          have HQ3 := hide (Below.trans (unhide HQ2) (fr.below (unhide HQ2).size (fun k hk => by omega)))
          have k0 := hb.cell 0 rfl
          have k1 := hb.cell 1 rfl
          have k2 := hb.cell 2 rfl
          clear c0 c1 c2 g0 g1 g2 d0 d1 d2 fr hb
          generalize ((w2.setCell ⟨w.heap.size, 0, none⟩ (.string x1)).setCell ⟨w.heap.size, 1, none⟩ (.int .i64 t)).setCell ⟨w.heap.size, 2, none⟩ (.string x3) = w3 at *
          exact bodyPost_ret (v := .tuple #[.agg #[.string x1, .int .i64 t, .string x3], .int .i64 0]) (by simp [results, Tryz.results31, go_sem, k0, k1, k2]) rfl ⟨by rw [unhide HF1, unhide HF2, unhide HV], unhide HQ3⟩
end Go.Proofs.YtgbegdgacjodcaaGreatDoor
