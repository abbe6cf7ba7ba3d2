/- What package logline's small functions answer: may a record be, a number's digits, a number out of its digits, a text cut at a 9, a record's line; the conditions: the library's tables lie as they were laid, texts are no longer than a string can be. -/
import Derived.Test.YtgbegdgacjodcaaGreatDoorBdPlain
import Derived.Test.YtgbegdgacjodcaaGreatDoorGfList
import Derived.Test.YtgbegdgacjodcaaGreatDoorAfQuiet
import Derived.Test.YtgbegdgacjodcaaGreatDoorShelf
import Derived.Test.YtgbegdgacjodcaaGreatDoorPut3
import Derived.Shelf.Strconv.Itoa3
import Derived.Shelf.Strconv.AtoiAll
import Derived.Shelf.Strings.Search2
import Derived.Shelf.Strings.Prefix
import Derived.Lib.AppendIntMem
import Derived.Lib.SmallJoins
namespace Go.Proofs.YtgbegdgacjodcaaGreatDoor
open Go.RowKit

abbrev rcV (r : Rc) : Value := .agg #[.string ⟨r.1.toArray⟩, .int .i64 r.2.1, .string ⟨r.2.2.toArray⟩]

/-- What the library's variables hold. -/
structure Vs (w : World) : Prop where
  t : Lib.TabIs Tryz.prog w "internal/strconv.uint64pow10" .u64 Lib.pow10Tab
  s : ∃ ev, w.cell? ⟨Tryz.laysC172_ren.g 15, 0, none⟩ = some ev ∧ (ev = .nilIface ∨ ∃ te pe, ev = .iface te pe)
  r : ∃ ev, w.cell? ⟨Tryz.laysC172_ren.g 16, 0, none⟩ = some ev ∧ (ev = .nilIface ∨ ∃ te pe, ev = .iface te pe)
theorem pow_at : Tryz.prog.globalNamed "internal/strconv.uint64pow10" = some (Tryz.laysM171_ren.g 17) := by kernel_rfl
theorem Vs.q {w w' : World} (h : Vs w) (q : Q w w') : Vs w' := by
  obtain ⟨h1, ⟨ev, h2, h3⟩, ⟨er, h4, h5⟩⟩ := h
  exact ⟨Go.Joins.tab_stays pow_at h1 q (Nat.le_refl _), ⟨ev, (q.cell (World.block_lt_of_cell? _ _ h2)).trans h2, h3⟩, ⟨er, (q.cell (World.block_lt_of_cell? _ _ h4)).trans h4, h5⟩⟩

theorem itoa_any (t : Int) (w : World) (hv : Vs w) (h : tmB1 t = true) : Calls Tryz.prog 36 #[.int .i64 t] w fun e w' => e = .returned (.string ⟨(dc t).toArray⟩) ∧ Q w w' := by
  rw [← dc_itoa h]
  unfold tmB1 at h
  rw [Bool.and_eq_true, decide_eq_true_iff, decide_eq_true_iff] at h
  have e0 : (-9223372036854775808 : Int) ≤ t := by omega
  have e1 : t ≤ 9223372036854775807 := by omega
  refine Calls.mono (Any.strconv_Itoa Tryz.laysM171 t e0 e1 w hv.t) ?_
  rintro e w' ⟨he, k, os, rfl⟩
  exact ⟨he, Lib.below_grow _ _ (Nat.le_refl _) k os⟩

theorem atoi_any (s : ByteArray) (w : World) (hv : Vs w) (hs : s.size ≤ 140737488355328) : Calls Tryz.prog 53 #[.string s] w fun e w' => (∃ ev, (ev = .nilIface ∨ ∃ te pe, ev = .iface te pe) ∧ e = .returned (.tuple #[.int .i64 (ctN (bl s)), ev])) ∧ Q w w' := by
  obtain ⟨_, ⟨ev, h2, h3⟩, ⟨er, h4, h5⟩⟩ := hv
  unfold ctN
  rcases h : Lib.atoiAll (bl s) with v | _ | _
  · refine Calls.mono (Any.strconv_Atoi_ok Tryz.laysC172 s (by omega) v h w) ?_
    rintro e w' ⟨rfl, hw⟩
    refine ⟨⟨_, Or.inl rfl, rfl⟩, ?_⟩
    rcases hw with rfl | ⟨t, rfl⟩
    · exact Q.refl _
    · exact Lib.bytesWorld_below _ _ _
  · refine Calls.mono (Any.strconv_Atoi_syntax Tryz.laysC172 s (by omega) h ev w h2 h3) ?_
    rintro e w' ⟨N, rfl, _, _, hb⟩
    exact ⟨⟨_, Or.inr ⟨_, _, rfl⟩, rfl⟩, hb⟩
  · refine Calls.mono (Any.strconv_Atoi_range Tryz.laysC172 s (by omega) h er w h4 h5) ?_
    rintro e w' ⟨N, rfl, _, _, hb⟩
    exact ⟨⟨_, Or.inr ⟨_, _, rfl⟩, rfl⟩, hb⟩

theorem trims_any (s : ByteArray) (w : World) (hs : s.size ≤ maxLen) : Calls Tryz.prog 54 #[.string s, .string ⟨#[10]⟩] w fun e w' => e = .returned (.string ⟨(ctS (bl s)).toArray⟩) ∧ w' = w :=
  Any.strings_TrimSuffix Tryz.lays102 s ⟨#[10]⟩ w (by unfold maxLen at hs; omega)

theorem ix_neg : ∀ l : Tx, (Lib.indexByte l 9 = -1 ∧ Lib.index l [9] = -1) ∨ ∃ k : Nat, k < l.length ∧ Lib.indexByte l 9 = (k : Int) ∧ Lib.index l [9] = (k : Int)
  | [] => Or.inl ⟨rfl, rfl⟩
  | x :: l => by
    rw [Lib.index_one]
    have ih := ix_neg l
    rw [Lib.index_one] at ih
    rw [Lib.indexByte]
    by_cases hx : (x == 9) = true
    · rw [if_pos hx]; exact Or.inr ⟨0, by simp, rfl, rfl⟩
    · rw [if_neg hx]
      rcases ih with ⟨h, _⟩ | ⟨k, h1, h2, _⟩
      · rw [h]; exact Or.inl ⟨rfl, rfl⟩
      · rw [h2, if_neg (by simp)]
        exact Or.inr ⟨k + 1, by simp; omega, by omega, by omega⟩

theorem ct_neg {l : Tx} (h : Lib.index l [9] = -1) : ctA l = l ∧ ctB l = [] := by
  unfold ctA ctB Lib.cut
  rw [h, if_neg (by decide)]
  exact ⟨rfl, rfl⟩
theorem ct_at {l : Tx} {k : Nat} (h : Lib.index l [9] = (k : Int)) : ctA l = l.take k ∧ ctB l = l.drop (k + 1) := by
  unfold ctA ctB Lib.cut
  rw [h, if_pos (by omega)]
  exact ⟨rfl, rfl⟩

set_option maxHeartbeats 1000000 in
theorem scut_any (s : ByteArray) (w : World) (hs : s.size ≤ maxLen) :
    Calls Tryz.prog 62 #[.string s, .string ⟨#[9]⟩] w fun e w' => (∃ b, e = .returned (.tuple #[.string ⟨(ctA (bl s)).toArray⟩, .string ⟨(ctB (bl s)).toArray⟩, .bool b])) ∧ Q w w' := by
  have HI := hide (fun w => Any.stringslite_Index_one Tryz.lays219 s 9 w)
  have HL := hide (bl_size s)
  unfold maxLen at hs
  rcases ix_neg (bl s) with ⟨h1, h2⟩ | ⟨k, hk, h1, h2⟩
  · have HC := hide (ct_neg h2)
    have h3 : Lib.indexByte s.data.toList 9 = -1 := h1
    rw [h3] at HI
    clear h1 h2 h3
    have HS : Hid (s = ⟨(bl s).toArray⟩) := of_bl rfl
    go_enter Tryz.func62, Tryz.ntmps62
    go_wp2_with (go_at_call 78; refine Calls.mono (unhide HI _) ?_; rintro e w' ⟨rfl, rfl⟩)
    go_ret3
    refine ⟨⟨false, ?_⟩, Q.refl _⟩
    rw [(unhide HC).1, (unhide HC).2, ← unhide HS]; rfl
  · have HC := hide (ct_at h2)
    have h3 : Lib.indexByte s.data.toList 9 = (k : Int) := h1
    rw [h3] at HI
    rw [bl_size] at hk
    clear h1 h2 h3
    have e1 : IntKind.i64.wrap ((k : Int) + 1) = (k : Int) + 1 := by rw [IntKind.wrap_i64]; omega
    have e2 : (0 : Int) ≤ (k : Int) + 1 := by omega
    have e3 : (k : Int) + 1 ≤ (s.size : Int) := by omega
    have e4 : ((k : Int) + 1).toNat = k + 1 := by omega
    have e5 : (k : Int) ≤ (s.size : Int) := by omega
    have e6 : (0 : Int) ≤ (k : Int) := by omega
    go_enter Tryz.func62, Tryz.ntmps62
    go_wp2_with (go_at_call 78; refine Calls.mono (unhide HI _) ?_; rintro e w' ⟨rfl, rfl⟩)
    go_quiet (fail)
    go_wp2
    go_ret3
    refine ⟨⟨true, ?_⟩, (Q.refl _).drewN _⟩
    rw [(unhide HC).1, (unhide HC).2]
    have g1 : s.extract 0 k = ⟨((bl s).take k).toArray⟩ := of_bl (by rw [bl_extract]; simp)
    have g2 : s.extract (k + 1) s.size = ⟨((bl s).drop (k + 1)).toArray⟩ := of_bl (by rw [bl_extract, List.take_of_length_le (by rw [bl_size]; exact Nat.le_refl _)])
    rw [← g1, ← g2]
    rfl

theorem cut9_any (s : ByteArray) (w : World) (hs : s.size ≤ maxLen) :
    Calls Tryz.prog 52 #[.string s, .string ⟨#[9]⟩] w fun e w' => (∃ b, e = .returned (.tuple #[.string ⟨(ctA (bl s)).toArray⟩, .string ⟨(ctB (bl s)).toArray⟩, .bool b])) ∧ Q w w' := by
  have HC := hide (scut_any s w hs)
  generalize (⟨(ctA (bl s)).toArray⟩ : ByteArray) = x1 at HC ⊢
  generalize (⟨(ctB (bl s)).toArray⟩ : ByteArray) = x2 at HC ⊢
  go_enter Tryz.func52, Tryz.ntmps52
  go_wp2_with fail
  refine (unhide HC).mono ?_
  rintro e w1 ⟨⟨b, rfl⟩, q⟩
  go_wp2_with fail
  go_ret3
  exact ⟨⟨b, rfl⟩, q⟩

theorem ctA_len (l : Tx) : (ctA l).length ≤ l.length := by
  rcases ix_neg l with ⟨_, h⟩ | ⟨k, hk, _, h⟩
  · rw [(ct_neg h).1]; exact Nat.le_refl _
  · rw [(ct_at h).1, List.length_take]; omega
theorem ctB_len (l : Tx) : (ctB l).length ≤ l.length := by
  rcases ix_neg l with ⟨_, h⟩ | ⟨k, hk, _, h⟩
  · rw [(ct_neg h).2]; simp
  · rw [(ct_at h).2, List.length_drop]; omega
theorem ctS_len (l : Tx) : (ctS l).length ≤ l.length := by
  unfold ctS Lib.trimSuffix
  split
  · rw [List.length_take]; omega
  · exact Nat.le_refl _

set_option maxHeartbeats 1000000 in
theorem lgcut_any (s : ByteArray) (w : World) (hv : Vs w) (hs : s.size ≤ 140737488355328) :
    Calls Tryz.prog 40 #[.string s] w fun e w' => e = .returned (rcV (cutG (bl s))) ∧ Q w w' := by
  have hl := bl_size s
  have l1 := ctA_len (bl s)
  have l2 := ctB_len (bl s)
  have l3 := ctA_len (ctB (bl s))
  have l4 := ctB_len (ctB (bl s))
  have H1 := hide (fun w => cut9_any s w (by unfold maxLen; omega))
  have H2 := hide (fun w => cut9_any ⟨(ctB (bl s)).toArray⟩ w (by rw [mk_size']; unfold maxLen; omega))
  have H3 := hide (fun w (hv : Vs w) => atoi_any ⟨(ctA (ctB (bl s))).toArray⟩ w hv (by rw [mk_size']; omega))
  have H4 := hide (fun w => trims_any ⟨(ctB (ctB (bl s))).toArray⟩ w (by rw [mk_size']; unfold maxLen; omega))
  rw [show bl (⟨(ctB (bl s)).toArray⟩ : ByteArray) = ctB (bl s) from rfl] at H2
  rw [show bl (⟨(ctA (ctB (bl s))).toArray⟩ : ByteArray) = ctA (ctB (bl s)) from rfl] at H3
  rw [show bl (⟨(ctB (ctB (bl s))).toArray⟩ : ByteArray) = ctB (ctB (bl s)) from rfl] at H4
  clear l1 l2 l3 l4 hl hs
  unfold rcV cutG
  dsimp only
  generalize ctN (ctA (ctB (bl s))) = n at *
  generalize (⟨(ctS (ctB (ctB (bl s)))).toArray⟩ : ByteArray) = x5 at *
  generalize (⟨(ctA (ctB (bl s))).toArray⟩ : ByteArray) = x3 at *
  generalize (⟨(ctB (ctB (bl s))).toArray⟩ : ByteArray) = x4 at *
  generalize (⟨(ctA (bl s)).toArray⟩ : ByteArray) = x1 at *
  generalize (⟨(ctB (bl s)).toArray⟩ : ByteArray) = x2 at *
  have HV := hide hv
  clear hv
  have b0 : Blk (w.alloc (.cells #[.string ⟨#[]⟩, .int .i64 0, .string ⟨#[]⟩] 31)) w.heap.size #[.string ⟨#[]⟩, .int .i64 0, .string ⟨#[]⟩] 31 := Blk.new w _ _
  have HQ := hide ((Q.refl w).alloc (.cells #[.string ⟨#[]⟩, .int .i64 0, .string ⟨#[]⟩] 31))
  have HB := hide b0
  clear b0
  go_enter Tryz.func40, Tryz.ntmps40
  go_wp2_with fail
  refine (unhide H1 _).mono ?_
  rintro e w1 ⟨⟨b, rfl⟩, q1⟩
  go_wp2_with fail
  refine (unhide H2 _).mono ?_
  rintro e w2 ⟨⟨b2, rfl⟩, q2⟩
  go_wp2_with fail
  have q12 := (unhide HQ).trans (q1.trans q2)
  refine (unhide H3 _ ((unhide HV).q q12)).mono ?_
  rintro e w3 ⟨⟨ev, hev, rfl⟩, q3⟩
  have hb := (unhide HB).q (q1.trans (q2.trans q3))
  have HQ3 := hide (q12.trans q3)
  have c0 := hb.cell 0 rfl
  have c1 := hb.cell 1 rfl
  have c2 := hb.cell 2 rfl
  have f0 := hb.frz 0
  have f1 := hb.frz 1
  have f2 := hb.frz 2
  have HB3 := hide hb
  clear hb q1 q2 q3 q12
  rcases hev with rfl | ⟨te, pe, rfl⟩
  all_goals
    go_wp2_with (go_at_call 54; refine (unhide H4 _).mono ?_; rintro e w3 ⟨rfl, rfl⟩)
    obtain ⟨hb, fr⟩ := put3 (unhide HB3) (.string x1) (.int .i64 n) (.string x5)
    have HQ4 := hide (Below.trans (unhide HQ3) (fr.below (unhide HQ3).size (fun k hk => by omega)))
    have g0 := hb.cell 0 rfl
    have g1 := hb.cell 1 rfl
    have g2 := hb.cell 2 rfl
    clear c0 c1 c2 f0 f1 f2 fr hb
    generalize ((w3.setCell ⟨w.heap.size, 0, none⟩ (.string x1)).setCell ⟨w.heap.size, 1, none⟩ (.int .i64 n)).setCell ⟨w.heap.size, 2, none⟩ (.string x5) = w4 at *
    go_wp2_with fail
    exact bodyPost_ret (v := .agg #[.string x1, .int .i64 n, .string x5]) (by simp [results, Tryz.results40, go_sem, g0, g1, g2]) rfl ⟨rfl, unhide HQ4⟩

end Go.Proofs.YtgbegdgacjodcaaGreatDoor
