/- Several texts of mine in one: EvShelf, NmWalks, RfWalks, LnShelf, IxWalks, PlSmall, LnSmall, NmMay, WdBut, WdShelf, WdSmall, MfSmall, PtKeep, PtClean, StAppend, GfSameT, GfBase, StrOne, GfStep, GfSameE, PtRef, GfHas. -/
import Derived.Shelf.Strings.Builder1
import Derived.Test.YtpddckgkaopnlaaGreatDoorProg
import Derived.Test.YtpddckgkaopnlaaGreatDoorChecked
import Derived.Test.YtpddckgkaopnlaaGreatDoorPk1
import Derived.WalkKit
import Derived.WalkSpells
import Derived.WalkLawsBesides
import Derived.Deep.AppendLies
import Derived.WalkSmall
import Derived.Test.YtpddckgkaopnlaaGreatDoorShelf
import Derived.Shelf.Strings.Builder2
import Derived.Shelf.Strings.Split
import Derived.Shelf.Strings.Trim
import Derived.Shelf.Strings.Prefix
import Derived.Shelf.Strings.Search3
import Derived.Shelf.Strings.Count
import Derived.Laws.IdiomStrings
import Derived.Lib.AppendStr
import Derived.Lib.BufferRead
import Derived.Shelf.Strconv.Clone
import Derived.RegionTactic
import Derived.ChangeAlike
import Derived.BigRegion
import Derived.Shelf.Strings.Search2
import Derived.Deep.Upon
import Derived.Deep.RegionLaw
/- The table of numbers by which the library's proved contract on a builder's WriteString speaks of this program: each library function's body is compared by the kernel; no conditions. -/
namespace Go.Proofs
open Go.Shelf
def Tryz.lays166_ren : Go.Shelf.Ren := ⟨fun | 166 => 125 | 240 => 156 | 276 => 167 | n => n, fun | 70 => 171 | 9 => 9 | 0 => 0 | 72 => 173 | 37 => 107 | 75 => 176 | 80 => 71 | 164 => 219 | 20 => 20 | 3 => 3 | 4 => 4 | 5 => 5 | n => n, fun | n => n⟩
theorem Tryz.lays166 : Go.Proofs.Lays.n166 Tryz.prog Tryz.lays166_ren := {
  mixed := by kernel_rfl
  f166 := Tryz.func125.trans (congrArg some (by kernel_rfl))
  f240 := Tryz.func156.trans (congrArg some (by kernel_rfl))
  f276 := Tryz.func167.trans (congrArg some (by kernel_rfl))
  t0 := Tryz.underlying0
  a0 := Tryz.isAgg0
  z0 := Tryz.sizeOf0
  v0 := Tryz.zeroValue0
  t3 := Tryz.underlying3
  a3 := Tryz.isAgg3
  z3 := Tryz.sizeOf3
  v3 := Tryz.zeroValue3
  t4 := Tryz.underlying4
  a4 := Tryz.isAgg4
  z4 := Tryz.sizeOf4
  v4 := Tryz.zeroValue4
  t9 := Tryz.underlying9
  a9 := Tryz.isAgg9
  z9 := Tryz.sizeOf9
  v9 := Tryz.zeroValue9
  t20 := Tryz.underlying20
  a20 := Tryz.isAgg20
  z20 := Tryz.sizeOf20
  v20 := Tryz.zeroValue20
  t37 := Tryz.underlying107
  a37 := Tryz.isAgg107
  z37 := Tryz.sizeOf107
  v37 := Tryz.zeroValue107
  t70 := Tryz.underlying171
  a70 := Tryz.isAgg171
  z70 := Tryz.sizeOf171
  v70 := Tryz.zeroValue171
  t72 := Tryz.underlying173
  a72 := Tryz.isAgg173
  z72 := Tryz.sizeOf173
  v72 := Tryz.zeroValue173
  t75 := Tryz.underlying176
  a75 := Tryz.isAgg176
  z75 := Tryz.sizeOf176
  v75 := Tryz.zeroValue176
  t164 := Tryz.underlying219
  a164 := Tryz.isAgg219
  z164 := Tryz.sizeOf219
  v164 := Tryz.zeroValue219 }
theorem Tryz.Builder_Extra_166 : Builder.Extra Tryz.prog Tryz.lays166_ren := {
  sizeBuilder := by kernel_rfl
  liesBuilder := by kernel_rfl
  t5 := Tryz.underlying5
  a5 := Tryz.isAgg5
  z5 := Tryz.sizeOf5
  v5 := Tryz.zeroValue5
  infoByte := by kernel_rfl
  cellsByte := by kernel_rfl
  sizeByte := by kernel_rfl
  neB5 := by decide }
end Go.Proofs

/- What each of the small functions under the statements on names answers, for every input: the byte test, the search for a bad byte, and package name's May; no conditions but that a byte fits its kind and a string its greatest length. -/
namespace Go.Proofs.YtpddckgkaopnlaaGreatDoor
open Go.RowKit

theorem Tryz.own : ownKnob Tryz.prog.godebug = none := by kernel_rfl

theorem ib_entry (s : ByteArray) (c : Int) (w : World) :
    (callFunc 158 #[.string s, .int .u8 c]).run Tryz.prog w = .ok (.value (.int .i64 (Lib.indexByte s.data.toList c.toNat.toUInt8))) w := by
  rw [run_callFunc_extern Tryz.func158 (by kernel_rfl) (by kernel_rfl) (by kernel_rfl) (e := Extern.BytealgIndexByte.indexByte) (by kernel_rfl), Lib.run_indexByteString]
  rfl

theorem lite_ib (s : ByteArray) (c : Int) (w : World) :
    Calls Tryz.prog 129 #[.string s, .int .u8 c] w fun e w' => e = .returned (.int .i64 (Lib.indexByte s.data.toList c.toNat.toUInt8)) ∧ w' = w := by
  have hd := ib_entry
  go_enter Tryz.func129, Tryz.ntmps129
  go_wp2
  go_ret
  exact ⟨rfl, rfl⟩

theorem str_ib (s : ByteArray) (c : Int) (w : World) :
    Calls Tryz.prog 102 #[.string s, .int .u8 c] w fun e w' => e = .returned (.int .i64 (Lib.indexByte s.data.toList c.toNat.toUInt8)) ∧ w' = w := by
  go_enter Tryz.func102, Tryz.ntmps102
  go_wp2_with (go_at_call 129; refine (lite_ib _ _ _).mono ?_; rintro e w' ⟨rfl, rfl⟩)
  go_ret
  exact ⟨rfl, rfl⟩

theorem num_any (k : Int) (w : World) :
    Calls Tryz.prog 7 #[.int .i64 k] w fun e w' => e = .returned (.int .i64 k) ∧ w' = w := by
  go_enter Tryz.func7, Tryz.ntmps7
  go_wp2
  go_ret
  exact ⟨rfl, rfl⟩

theorem small_any (c : Int) (w : World) :
    Calls Tryz.prog 90 #[.int .u8 c] w fun e w' => e = .returned (.bool (smallB c)) ∧ w' = w := by
  by_cases h1 : 97 ≤ c <;> by_cases h2 : c ≤ 122 <;> by_cases h3 : 48 ≤ c <;> by_cases h4 : c ≤ 57
  all_goals
    have hr : Hid (smallB c = (decide (97 ≤ c ∧ c ≤ 122) || decide (48 ≤ c ∧ c ≤ 57))) := rfl
    go_enter Tryz.func90, Tryz.ntmps90
    go_wp2
    go_ret
    refine ⟨?_, rfl⟩
    rw [hr.out]
    simp [h1, h2, h3, h4]

end Go.Proofs.YtpddckgkaopnlaaGreatDoor

/- What the document's own split and Join answer: a text cut at each sign; texts joined by a sign; the conditions: the text has at most 2^40 bytes, and so has what is joined. -/
namespace Go.Proofs.YtpddckgkaopnlaaGreatDoor
open Go.RowKit

theorem Tryz.infoS : (Tryz.prog.info? 9).map (fun i => (i.zero, i.size, i.bytes)) = some (some (.string ByteArray.empty), 1, 16) := by kernel_rfl

/-- Texts that lie in a row. -/
def RowS (w : World) (ao : Option Addr) (xs : List ByteArray) : Prop :=
  (xs = []) ∨ ∃ g o, ao = some ⟨g, o, none⟩ ∧ g < w.heap.size ∧ ∀ (j : Nat) x, xs[j]? = some x → w.cell? ⟨g, o + j, none⟩ = some (.string x)

theorem RowS.of_own {w : World} {B e cap : Nat} {ao : Option Addr} {ys : List ByteArray} (h : w.ownsRow B e 1 (.slice ao ys.length cap) ys.length (ys.map Value.string)) : RowS w ao ys := by
  have h' := h
  obtain ⟨h1, h2⟩ := h
  rcases h2 with ⟨_, h2⟩ | ⟨g, cap', cur, e1, hb, hh, hn, hm, hs, ht⟩
  · exact Or.inl (List.eq_nil_of_length_eq_zero h2)
  · cases e1
    refine Or.inr ⟨g, 0, rfl, ?_, ?_⟩
    · rcases Nat.lt_or_ge g w.heap.size with h | h
      · exact h
      · rw [Array.getElem?_eq_none h] at hh; cases hh
    · intro j x hx
      have hj : j < ys.length := by
        rcases Nat.lt_or_ge j ys.length with h | h
        · exact h
        · rw [List.getElem?_eq_none h] at hx; cases hx
      rw [Nat.zero_add, h'.cellAt j (by omega), List.getElem?_map, hx]; rfl

theorem RowS.below {w w' : World} {ao : Option Addr} {ys : List ByteArray} (h : RowS w ao ys) (q : Q w w') : RowS w' ao ys := by
  rcases h with h | ⟨g, o, rfl, hg, hc⟩
  · exact Or.inl h
  · exact Or.inr ⟨g, o, rfl, Nat.lt_of_lt_of_le hg q.size, fun j x hx => (q.cell (p := ⟨g, o + j, none⟩) hg).trans (hc j x hx)⟩

theorem own_cap {w : World} {B e n cap : Nat} {ao : Option Addr} {xs : List Value} (h : w.ownsRow B e 1 (.slice ao n cap) n xs) : n ≤ cap := by
  obtain ⟨h1, h2⟩ := h
  rcases h2 with ⟨e1, h2⟩ | ⟨g, cap', cur, e, hb, hh, hn, hm, hs, ht⟩
  · omega
  · cases e; omega

theorem byte_eq {a : UInt8} {d : UInt8} (h : ((a.toNat : Int) == (d.toNat : Int)) = true) : a = d := by
  have := beq_iff_eq.1 h
  exact UInt8.toNat_inj.1 (by omega)
theorem byte_ne {a : UInt8} {d : UInt8} (h : ((a.toNat : Int) == (d.toNat : Int)) = false) : a ≠ d := by
  intro e; subst e; simp at h

set_option maxHeartbeats 2000000 in
theorem rsplit_any (s : ByteArray) (d : UInt8) (w : World) (hs : s.size ≤ 1099511627776) :
    Calls Tryz.prog 39 #[.string s, .int .u8 (d.toNat : Int)] w fun e w' =>
      ∃ (ys : List ByteArray) (ao : Option Addr) (cap : Nat), ys.map bl = spc d (bl s) ∧ ys.length ≤ s.size + 1 ∧ e = .returned (.slice ao ys.length cap) ∧
        w'.ownsRow w.heap.size 9 1 (.slice ao ys.length cap) ys.length (ys.map Value.string) ∧ Q w w' := by
  obtain ⟨i0, hi, hz0, hz1, hz2⟩ := info_parts Tryz.infoS
  have hdl : (d.toNat : Int) ≤ 255 := by have := d.toNat_lt; omega
  have hsz := bl_size s
  have HSZ := hide hsz
  clear hsz
  go_enter Tryz.func39, Tryz.ntmps39
  go_wp2
  go_loopw [5, 6, 7] (fun v fr i wr => ∃ (k f : Nat) (ys : List ByteArray) (ao : Option Addr) (cap : Nat), i = .int .i64 k ∧ fr = .int .i64 f ∧ v = .slice ao ys.length cap ∧ ys.length ≤ k ∧
      wr.ownsRow w.heap.size 9 1 (.slice ao ys.length cap) ys.length (ys.map Value.string) ∧ Q w wr ∧ k ≤ s.size + 1 ∧ f ≤ k ∧
      Hid (k ≤ s.size → ys.map bl ++ spc d ((bl s).drop f) = spc d (bl s) ∧ d ∉ ((bl s).drop f).take (k - f)) ∧ Hid (k = s.size + 1 → ys.map bl = spc d (bl s)))
    (fun _ _ i _ => s.size + 1 - (intOf i).toNat)
  case atStart => exact ⟨0, 0, [], none, 0, rfl, rfl, rfl, by simp, World.ownsRow_nil _ _ _ _, Q.refl _, by omega, by omega, fun _ => by simp, fun h => by omega⟩
  case round =>
    obtain ⟨k, f, ys, ao, cap, rfl, rfl, rfl, hyk, hown, hq, hk, hf, HA, HB⟩ := hrel
    have hyc := own_cap hown
    by_cases hlt : k ≤ s.size
    · by_cases hend : k = s.size
      · subst hend
        have HN : Hid (∀ x : ByteArray, bl x = (bl s).drop f → (ys ++ [x]).map bl = spc d (bl s)) := by
          intro x hx
          obtain ⟨a1, a2⟩ := HA.out (by omega)
          rw [← a1, List.map_append, List.map_cons, List.map_nil, hx, spc_last d _ f (by rw [HSZ.out]; exact a2)]
        have hkk : ((s.size : Int) == (s.size : Int)) = true := by simp
        clear HA HB
        go_wp2_with (at_builtin; refine wpList_append_lies _ rfl _ _ 24 rfl w.heap.size 9 i0 (.string ByteArray.empty) 1 16 Tryz.underlying24 hi hz0 hz1 hz2 rfl (by decide) _ _ _ rfl (hown.alloc _) ⟨wr.heap.size, 0, none⟩ 1 1 [.string (s.extract f s.size)] rfl rfl ?c1 ?c2 (by decide) ?c3 ?c4 ?c5 (wr.heap.size + 1) (by simp) ?_)
        case c1 =>
          intro j u hj
          match j, hj with
          | 0, hj => simp at hj; subst hj; simp [Addr.add]
        case c2 => intro u hu; simp at hu; subst hu; rfl
        case c3 => unfold maxLen; omega
        case c4 => omega
        case c5 => have := hq.size; simp; omega
        intro g cp w1 hown1 hgrow hor hglt
        have hq1 : Q w w1 := Below.grown (hq.alloc _) hgrow (by have := hq.size; simp; omega) (fun r hr => (hown.lt r hr).1)
        have HO := hide hown1
        clear hown1 hgrow hown hor
        go_wp2
        go_roundw
        case rel => exact ⟨s.size + 1, s.size + 1, ys ++ [s.extract f s.size], some ⟨g, 0, none⟩, cp, by go_num, by go_num, by simp, by simp; omega, by have := unhide HO; simpa using this, hq1, by omega, by omega, fun h => by omega, fun _ => HN.out _ (by rw [bl_extract, List.take_of_length_le (by rw [HSZ.out]; exact Nat.le_refl _)])⟩
        case measure => simp [intOf]
      have hks : k < s.size := by omega
      have hne : ((k : Int) == (s.size : Int)) = false := beq_eq_false_iff_ne.2 (by omega)
      have hgk := hide (bl_getElem s k hks)
      cases hc : ((s[k].toNat : Int) == (d.toNat : Int))
      · have HN : Hid (k + 1 ≤ s.size → ys.map bl ++ spc d ((bl s).drop f) = spc d (bl s) ∧ d ∉ ((bl s).drop f).take (k + 1 - f)) := by
          intro _
          obtain ⟨a1, a2⟩ := HA.out (by omega)
          exact ⟨a1, no_next d _ f k hf _ (unhide hgk) (byte_ne hc) a2⟩
        clear HA HB
        go_wp2_with fail
        go_roundw
        case rel => exact ⟨k + 1, f, ys, ao, cap, by go_num, rfl, rfl, by omega, hown, hq, by omega, by omega, HN, fun h => by omega⟩
        case measure => simp [intOf]; omega
      · have HN : Hid (∀ x : ByteArray, bl x = ((bl s).take k).drop f → (ys ++ [x]).map bl ++ spc d ((bl s).drop (k + 1)) = spc d (bl s)) := by
          intro x hx
          obtain ⟨a1, a2⟩ := HA.out (by omega)
          have hk' := unhide hgk
          rw [byte_eq hc] at hk'
          rw [← a1, spc_hit d _ f k hf hk' a2, List.map_append, List.map_cons, List.map_nil, hx]; simp
        clear HA HB
        go_wp2_with (at_builtin; refine wpList_append_lies _ rfl _ _ 24 rfl w.heap.size 9 i0 (.string ByteArray.empty) 1 16 Tryz.underlying24 hi hz0 hz1 hz2 rfl (by decide) _ _ _ rfl (hown.alloc _) ⟨wr.heap.size, 0, none⟩ 1 1 [.string (s.extract f k)] rfl rfl ?d1 ?d2 (by decide) ?d3 ?d4 ?d5 (wr.heap.size + 1) (by simp) ?_)
        case d1 =>
          intro j u hj
          match j, hj with
          | 0, hj => simp at hj; subst hj; simp [Addr.add]
        case d2 => intro u hu; simp at hu; subst hu; rfl
        case d3 => unfold maxLen; omega
        case d4 => omega
        case d5 => have := hq.size; simp; omega
        intro g cp w1 hown1 hgrow hor hglt
        have hq1 : Q w w1 := Below.grown (hq.alloc _) hgrow (by have := hq.size; simp; omega) (fun r hr => (hown.lt r hr).1)
        have HO := hide hown1
        clear hown1 hgrow hown hor
        go_wp2
        go_roundw
        case rel => exact ⟨k + 1, k + 1, ys ++ [s.extract f k], some ⟨g, 0, none⟩, cp, by go_num, by go_num, by simp, by simp; omega, by have := unhide HO; simpa using this, hq1, by omega, by omega, fun h => ⟨HN.out _ (bl_extract _ _ _), by simp⟩, fun h => by omega⟩
        case measure => simp [intOf]; omega
    · have HF : Hid (ys.map bl = spc d (bl s)) := HB.out (by omega)
      go_wp2
      go_ret
      exact ⟨ys, ao, cap, HF.out, by omega, rfl, hown, hq⟩

set_option maxHeartbeats 2000000 in
theorem rjoin_any (ao : Option Addr) (cap : Nat) (xs : List ByteArray) (sep : ByteArray) (w : World) (hr : RowS w ao xs) (hn : xs.length ≤ 1099511627776) (hsep : sep.size ≤ 1099511627776)
    (hlen : (Lib.join (xs.map bl) (bl sep)).length ≤ 1099511627776) :
    Calls Tryz.prog 89 #[.slice ao xs.length cap, .string sep] w fun e w' => ∃ t : ByteArray, e = .returned (.string t) ∧ bl t = Lib.join (xs.map bl) (bl sep) ∧ w' = w := by
  rcases hr with rfl | ⟨g, o, rfl, hg, hcells⟩
  · go_enter Tryz.func89, Tryz.ntmps89
    go_wp2
    refine wp_loop_rounds 1 ?_
    rw [rounds_succ]
    go_wp2
    go_ret
    exact ⟨⟨#[]⟩, rfl, rfl, rfl⟩
  have HL : Hid (∀ k, (Lib.join ((xs.map bl).take k) (bl sep)).length ≤ 1099511627776) := fun k => Nat.le_trans (join_take_le _ _ _) hlen
  have HSS : Hid ((bl sep).length = sep.size) := bl_size sep
  clear hlen
  go_enter Tryz.func89, Tryz.ntmps89
  go_wp2
  go_loop [5, 6] (fun v i => ∃ (k : Nat) (t : ByteArray), k ≤ xs.length ∧ i = .int .i64 k ∧ v = .string t ∧ t.size ≤ 1099511627776 ∧ Hid (bl t = Lib.join ((xs.map bl).take k) (bl sep)))
    (fun _ i => xs.length - (intOf i).toNat)
  case atStart => exact ⟨0, ⟨#[]⟩, by omega, rfl, rfl, by decide, rfl⟩
  case round =>
    obtain ⟨k, t, hk, rfl, rfl, ht, HT⟩ := hrel
    by_cases hlt : k < xs.length
    · obtain ⟨x, hx⟩ : ∃ x, xs[k]? = some x := ⟨xs[k], List.getElem?_eq_getElem hlt⟩
      have hc : w.cell? ⟨g, o + k, none⟩ = some (.string x) := hcells k x hx
      have hj := join_next (bl sep) (xs.map bl) k (bl x) (by rw [List.getElem?_map, hx]; rfl)
      have hl := HL.out (k + 1)
      rw [hj] at hl
      have hxs : x.size ≤ 1099511627776 := by rw [← bl_size]; simp at hl; omega
      have HJ := hide hj
      have HLL := hide hl
      clear hj hx hcells hl
      by_cases h0 : k = 0
      · subst h0
        rw [Nat.add_zero] at hc
        have HN : Hid (bl (t ++ x) = Lib.join ((xs.map bl).take (0 + 1)) (bl sep)) := by
          show _ = _; rw [unhide HJ, bl_app, HT.out]; simp
        have HZ : (t ++ x).size ≤ 1099511627776 := by
          have := unhide HLL; rw [← bl_size, HN.out, unhide HJ]; exact this
        go_wp2_with fail
        go_round
        case rel => exact ⟨0 + 1, t ++ x, by omega, by go_num, rfl, HZ, HN⟩
        case measure => simp [intOf]; omega
      · have h0' : 0 < k := by omega
        have HN : Hid (bl (t ++ sep ++ x) = Lib.join ((xs.map bl).take (k + 1)) (bl sep)) := by
          show _ = _; rw [unhide HJ, bl_app, bl_app, HT.out, if_neg h0]
        have HZ : (t ++ sep ++ x).size ≤ 1099511627776 := by
          have := unhide HLL; rw [← bl_size, HN.out, unhide HJ]; exact this
        have hz2 : (t ++ sep).size ≤ 2199023255552 := by
          rw [← bl_size, bl_app, List.length_append, bl_size, bl_size]; omega
        go_wp2_with fail
        go_round
        case rel => exact ⟨k + 1, t ++ sep ++ x, by omega, by go_num, rfl, HZ, HN⟩
        case measure => simp [intOf]; omega
    · have HF : Hid (bl t = Lib.join (xs.map bl) (bl sep)) := by
        have := HT.out
        rw [List.take_of_length_le (by simp; omega)] at this
        exact this
      go_wp2
      go_ret
      exact ⟨t, rfl, HF.out, rfl⟩

end Go.Proofs.YtpddckgkaopnlaaGreatDoor

/- What the library's Split, Index, Count, TrimLeft, TrimRight, Trim and HasSuffix answer at one sign, for every text, and a builder's writes, in the words of lists of bytes; the conditions: the lengths. -/
namespace Go.Proofs.YtpddckgkaopnlaaGreatDoor
open Go.RowKit

theorem mk_blL (s : ByteArray) : (⟨(bl s).toArray⟩ : ByteArray) = s := (of_bl rfl).symm

theorem index_one_any (s : ByteArray) (d : UInt8) (w : World) :
    Calls Tryz.prog 99 #[.string s, .string ⟨#[d]⟩] w fun e w' => e = .returned (.int .i64 (Lib.index (bl s) [d])) ∧ w' = w := by
  rw [Lib.index_one]
  exact Any.strings_Index_one Tryz.lays143 s d w
theorem count_one_any (s : ByteArray) (d : UInt8) (w : World) :
    Calls Tryz.prog 98 #[.string s, .string ⟨#[d]⟩] w fun e w' => e = .returned (.int .i64 ((bl s).count d : Nat)) ∧ w' = w :=
  Any.strings_Count_one Tryz.lays138 s d w

theorem gsplit_one (s : ByteArray) (d : UInt8) (w : World) (hs : s.size < 4294967281) :
    Calls Tryz.prog 59 #[.string s, .string ⟨#[d]⟩, .int .i64 0, .int .i64 (-1)] w fun e w' =>
      ∃ xs : List ByteArray, xs.map bl = spc d (bl s) ∧ xs.length ≤ s.size + 1 ∧ e = .returned (.slice (some ⟨w.heap.size, 0, none⟩) xs.length xs.length) ∧ w' = w.alloc (.cells (xs.map Value.string).toArray 9) := by
  have hle := Lib.countB_le ⟨#[d]⟩ (Nat.le_refl 1) s.size s (Nat.le_refl _)
  have hlen := Lib.splitB_all ⟨#[d]⟩ (Nat.le_refl 1) 0 _ s rfl
  have e1 : ∀ x, Lib.indexB x ⟨#[d]⟩ = Lib.index (bl x) [d] := fun x => rfl
  have e3 : Lib.countB s ⟨#[d]⟩ = (bl s).count d := Lib.count_one d (bl s)
  have c := Any.strings_genSplit_core Tryz.lays221 Tryz.infoS s ⟨#[d]⟩ 0 (-1) (Lib.countB s ⟨#[d]⟩ + 1) w hs (Nat.le_refl 1) (Nat.zero_le _)
    (fun x c hx => (index_one_any x d _).mono fun e w' h => h)
    ((count_one_any s d w).mono fun e w' h => by rw [e3]; exact h) (by decide) (by decide) (by rw [if_pos (by decide)]; omega)
  rw [Nat.add_sub_cancel, hlen] at c
  have e2 : Lib.cellsOf (Lib.splitB ⟨#[d]⟩ 0 (Lib.countB s ⟨#[d]⟩) s) (Lib.countB s ⟨#[d]⟩ + 1) = ((Lib.splitB ⟨#[d]⟩ 0 (Lib.countB s ⟨#[d]⟩) s).map Value.string).toArray := by rw [← hlen]; exact Lib.cellsOf_full _
  rw [e2] at c
  refine Calls.mono c ?_
  rintro e w' ⟨rfl, rfl⟩
  refine ⟨_, splitB_spc d s, by rw [hlen]; omega, ?_, rfl⟩
  rw [hlen]

theorem split_one (s : ByteArray) (d : UInt8) (w : World) (hs : s.size < 4294967281) :
    Calls Tryz.prog 25 #[.string s, .string ⟨#[d]⟩] w fun e w' =>
      ∃ xs : List ByteArray, xs.map bl = spc d (bl s) ∧ xs.length ≤ s.size + 1 ∧ e = .returned (.slice (some ⟨w.heap.size, 0, none⟩) xs.length xs.length) ∧ w' = w.alloc (.cells (xs.map Value.string).toArray 9) := by
  go_enter Tryz.func25, Tryz.ntmps25
  go_wp2_with fail
  refine (gsplit_one s d _ hs).mono ?_
  rintro e w' ⟨xs, h1, h2, rfl, rfl⟩
  have H1 := hide h1
  clear h1
  go_wp2
  go_ret
  exact ⟨xs, unhide H1, h2, rfl, rfl⟩

theorem cells_blockL (w : World) (xs : List ByteArray) (t : TypeId) : ∀ (j : Nat) x, xs[j]? = some x → (w.alloc (.cells (xs.map Value.string).toArray t)).cell? ⟨w.heap.size, j, none⟩ = some (.string x) := by
  intro j x hx
  have e : (w.alloc (.cells (xs.map Value.string).toArray t)).heap[w.heap.size]? = some (.cells (xs.map Value.string).toArray t) := heap_alloc_new _ _
  simp only [World.cell?]
  rw [e]
  simp [hx]

theorem triml_any (s : ByteArray) (w : World) :
    Calls Tryz.prog 60 #[.string s, .string ⟨#[32]⟩] w fun e w' => e = .returned (.string ⟨(frL (bl s)).toArray⟩) ∧ w' = w :=
  Any.strings_TrimLeft_one Tryz.lays161 s 32 (by decide) w
theorem trimr_any (s : ByteArray) (w : World) (hs : s.size ≤ maxLen) :
    Calls Tryz.prog 100 #[.string s, .string ⟨#[36]⟩] w fun e w' => e = .returned (.string ⟨(Lib.trimRightB (bl s) 36).toArray⟩) ∧ w' = w :=
  Any.strings_TrimRight_one Tryz.lays162 s 36 (by decide) w (by unfold maxLen at hs; omega)
theorem trim_any (s : ByteArray) (w : World) (hs : s.size ≤ maxLen) :
    Calls Tryz.prog 33 #[.string s, .string ⟨#[32]⟩] w fun e w' => e = .returned (.string ⟨(trL (bl s)).toArray⟩) ∧ Q w w' := by
  refine (Any.strings_Trim_one Tryz.lays160 s 32 (by decide) w (by unfold maxLen at hs; omega)).mono ?_
  rintro e w' ⟨rfl, h⟩
  refine ⟨rfl, ?_⟩
  rcases h with rfl | rfl
  · exact Q.refl _
  · exact (Q.refl _).drew
theorem suff_any (s : ByteArray) (w : World) (hs : s.size ≤ maxLen) :
    Calls Tryz.prog 56 #[.string s, .string ⟨#[10]⟩] w fun e w' => e = .returned (.bool ((bl s).getLast? == some 10)) ∧ w' = w := by
  have e : ((bl s).getLast? == some 10) = Lib.hasSuffix (bl s) [10] := by
    unfold Lib.hasSuffix
    rw [Bool.eq_iff_iff, List.isSuffixOf_iff_suffix]
    constructor
    · intro h
      have h := beq_iff_eq.1 h
      obtain ⟨m, hm⟩ := List.getLast?_eq_some_iff.1 h
      exact ⟨m, hm.symm⟩
    · rintro ⟨m, hm⟩
      rw [← hm]; simp
  rw [e]
  exact Any.strings_HasSuffix Tryz.lays100 s ⟨#[10]⟩ w (by unfold maxLen at hs; omega)

theorem builder_qL {T e B b : Nat} {bs : List Value} {w w' : World} (h : Lib.IsBuilder T e B b bs w) (q : Q w w') : Lib.IsBuilder T e B b bs w' := by
  have go : ∀ p, Lib.BuilderAt T e B b p bs w → Lib.BuilderAt T e B b p bs w' := by
    rintro p ⟨hB, v, hb, hown, hne⟩
    exact ⟨hB, v, (q.block b (Array.getElem?_eq_some_iff.1 hb).1).trans hb, own_q hown q, hne⟩
  rcases h with h | h
  · exact Or.inl (go _ h)
  · exact Or.inr (go _ h)

theorem wstrL_any (B b : Nat) (l m : List UInt8) (w : World) (h : Lib.IsBuilder 173 5 B b (Lib.byteCells l) w) (hl : l.length + m.length ≤ 140737488355328) (hB : B ≤ w.heap.size) :
    Calls Tryz.prog 125 #[.pointer (some ⟨b, 0, none⟩), .string ⟨m.toArray⟩] w fun e w' => e = .returned (.tuple #[.int .i64 m.length, .nilIface]) ∧ Lib.IsBuilder 173 5 B b (Lib.byteCells (l ++ m)) w' ∧ Below B w w' := by
  refine (Any.Builder_WriteString Tryz.lays166 Tryz.Builder_Extra_166 B b (Lib.byteCells l) ⟨m.toArray⟩ w h (by rw [Lib.byteCells_length]; show l.length + m.toArray.size ≤ _; simpa using hl) hB).mono ?_
  rintro e w' ⟨rfl, h1, b1⟩
  refine ⟨rfl, Or.inr ?_, b1⟩
  rw [Lib.byteCells_append]
  exact h1
theorem wendL_any (B b : Nat) (l : List UInt8) (w : World) (h : Lib.IsBuilder 173 5 B b (Lib.byteCells l) w) (hB : B ≤ w.heap.size) :
    Calls Tryz.prog 126 #[.pointer (some ⟨b, 0, none⟩)] w fun e w' => e = .returned (.string ⟨l.toArray⟩) ∧ Below B w w' :=
  Any.Builder_String_any Tryz.lays169 Tryz.Builder_Extra_169 B b l w h hB
theorem wgrow_any (B b n : Nat) (w : World) (hB : B ≤ b) (hbk : w.heap[b]? = some (.cells #[.pointer none, .slice none 0 0] 173 (0, 0))) (hBw : B ≤ w.heap.size) (hn : n ≤ 281474976710656) :
    Calls Tryz.prog 124 #[.pointer (some ⟨b, 0, none⟩), .int .i64 n] w fun e w' => e = .returned (.tuple #[]) ∧ Lib.IsBuilder 173 5 B b (Lib.byteCells []) w' ∧ Below B w w' := by
  refine (Any.Builder_Grow_fresh Tryz.lays165 Tryz.Builder_Extra_165 B b n w hB hbk hBw hn).mono ?_
  rintro e w' ⟨rfl, h1, b1⟩
  exact ⟨rfl, Or.inr h1, b1⟩

end Go.Proofs.YtpddckgkaopnlaaGreatDoor

/- What slices.IndexFunc and slices.ContainsFunc answer over bytes, for whatever test that only answers: whether a byte that the test takes is there; the condition: the bytes lie in memory. -/
namespace Go.Proofs.YtpddckgkaopnlaaGreatDoor
open Go.RowKit

theorem bytesRow_get (s : ByteArray) (cap k : Nat) (h : k < s.size) : (bytesRow s cap)[k]? = some (.int .u8 (s[k].toNat : Int)) := by
  unfold bytesRow
  rw [Array.getElem?_append_left (by simpa using h)]
  rw [Array.getElem?_map]
  have e : s.data[k]? = some s[k] := by rw [Array.getElem?_eq_getElem (by simpa using h)]; rfl
  rw [e]; rfl

theorem cell_bytes (w : World) (s : ByteArray) (cap : Nat) (t : TypeId) (r : Nat × Nat) (k : Nat) (h : k < s.size) :
    (w.alloc (.cells (bytesRow s cap) t r)).cell? ⟨w.heap.size, k, none⟩ = some (.int .u8 (s[k].toNat : Int)) := by
  rw [← bytesRow_get s cap k h]
  have e : (w.alloc (.cells (bytesRow s cap) t r)).heap[w.heap.size]? = some (.cells (bytesRow s cap) t r) := heap_alloc_new _ _
  simp only [World.cell?]
  rw [e]
  rfl

def anyB (p : Int → Bool) (l : List UInt8) : Bool := l.any fun c => p (c.toNat : Int)

theorem anyB_take_succ (p : Int → Bool) (s : ByteArray) (k : Nat) (h : k < s.size) : anyB p ((bl s).take (k + 1)) = (anyB p ((bl s).take k) || p (s[k].toNat : Int)) := by
  show anyB p (s.data.toList.take (k + 1)) = (anyB p (s.data.toList.take k) || p (s[k].toNat : Int))
  rw [take_snoc s k h]; simp [anyB]
theorem anyB_hit (p : Int → Bool) (s : ByteArray) (k : Nat) (h : k < s.size) (hp : p (s[k].toNat : Int) = true) : anyB p (bl s) = true := by
  have := anyB_take_succ p s k h
  rw [hp, Bool.or_true] at this
  rw [← List.take_append_drop (k + 1) (bl s)]
  unfold anyB at this ⊢
  rw [List.any_append, this, Bool.true_or]

end Go.Proofs.YtpddckgkaopnlaaGreatDoor

/- What package plain's May, the document's own Plain and the library's Clone answer, for every text: is it short enough, are its bytes from 32 to 126; the same text; no conditions but that the text is no longer than a string can be. -/
namespace Go.Proofs.YtpddckgkaopnlaaGreatDoor
open Go.RowKit

def oddI (c : Int) : Bool := decide (c < 32) || decide (126 < c)

theorem odd_any (c : Int) (w : World) : Calls Tryz.prog 95 #[.int .u8 c] w fun e w' => e = .returned (.bool (oddI c)) ∧ w' = w := by
  have hr : Hid (oddI c = (decide (c < 32) || decide (126 < c))) := rfl
  by_cases h1 : c < 32 <;> by_cases h2 : 126 < c
  all_goals
    go_enter Tryz.func95, Tryz.ntmps95
    go_wp2
    go_ret
    refine ⟨ret_bool ?_, rfl⟩
    rw [hr.out]
    simp [h1, h2] <;> omega

theorem plain_any (s : ByteArray) : anyB oddI (bl s) = !plainL (bl s) := by
  unfold anyB plainL oddI
  induction bl s with
  | nil => rfl
  | cons c r ih =>
    rw [List.any_cons, List.all_cons, ih]
    have : (decide ((c.toNat : Int) < 32) || decide (126 < (c.toNat : Int))) = !(decide (32 ≤ (c.toNat : Int)) && decide ((c.toNat : Int) ≤ 126)) := by
      rw [Bool.eq_iff_iff]; simp <;> omega
    rw [this]; simp

set_option maxHeartbeats 1000000 in
theorem mbc_ix (p : Int → Bool) (hF : Hid (∀ c : Int, 0 ≤ c → c ≤ 255 → ∀ w, Calls Tryz.prog 95 #[.int .u8 c] w fun e w' => e = .returned (.bool (p c)) ∧ w' = w))
    (b : Nat) (s : ByteArray) (cap : Nat) (w : World) (hs : s.size ≤ maxLen)
    (hcell : ∀ (k : Nat) (h : k < s.size), w.cell? ⟨b, k, none⟩ = some (.int .u8 (s[k].toNat : Int))) :
    Calls Tryz.prog 123 #[.slice (some ⟨b, 0, none⟩) s.size cap, .func (.func 95) #[] #[]] w
      fun e w' => ∃ r : Int, e = .returned (.int .i64 r) ∧ decide (0 ≤ r) = anyB p (bl s) ∧ w' = w := by
  unfold maxLen at hs
  go_enter Tryz.func123, Tryz.ntmps123
  go_wp2
  go_loop [8] (fun i => ∃ k : Nat, k ≤ s.size ∧ i = .int .i64 k ∧ Hid (anyB p ((bl s).take k) = false)) (fun i => s.size - (intOf i).toNat)
  case atStart => exact ⟨0, Nat.zero_le _, rfl, rfl⟩
  case round =>
    obtain ⟨k, hk, rfl, hall⟩ := hrel
    by_cases hlt : k < s.size
    · have hc := hcell k hlt
      have hb : (s[k].toNat : Int) ≤ 255 := by have := s[k].toNat_lt; omega
      have hb0 : 0 ≤ (s[k].toNat : Int) := by omega
      have hcon := hide (hF.out (s[k].toNat : Int) hb0 hb w)
      cases hok : p (s[k].toNat : Int)
      · have HO : Hid (anyB p ((bl s).take (k + 1)) = false) := by
          show _ = false
          rw [anyB_take_succ p s k hlt, hok, hall.out]; rfl
        rw [hok] at hcon
        clear hok hcell
        go_wp2_with (go_at_call 95; refine (unhide hcon).mono ?_; rintro e w' ⟨rfl, rfl⟩)
        go_round
        case rel => exact ⟨k + 1, by omega, by go_num, HO⟩
        case measure => simp [intOf]; omega
      · have HO : Hid (anyB p (bl s) = true) := anyB_hit p s k hlt hok
        rw [hok] at hcon
        clear hok hcell
        go_wp2_with (go_at_call 95; refine (unhide hcon).mono ?_; rintro e w' ⟨rfl, rfl⟩)
        go_ret
        exact ⟨k, rfl, by rw [HO.out]; simp, rfl⟩
    · go_wp2
      go_ret
      refine ⟨-1, rfl, ?_, rfl⟩
      have := hall.out
      rw [List.take_of_length_le (by rw [bl_size]; omega)] at this
      rw [this]; rfl

theorem mbc_cx (p : Int → Bool) (hF : Hid (∀ c : Int, 0 ≤ c → c ≤ 255 → ∀ w, Calls Tryz.prog 95 #[.int .u8 c] w fun e w' => e = .returned (.bool (p c)) ∧ w' = w))
    (b : Nat) (s : ByteArray) (cap : Nat) (w : World) (hs : s.size ≤ maxLen)
    (hcell : ∀ (k : Nat) (h : k < s.size), w.cell? ⟨b, k, none⟩ = some (.int .u8 (s[k].toNat : Int))) :
    Calls Tryz.prog 94 #[.slice (some ⟨b, 0, none⟩) s.size cap, .func (.func 95) #[] #[]] w
      fun e w' => e = .returned (.bool (anyB p (bl s))) ∧ w' = w := by
  have hcon := hide (mbc_ix p hF b s cap w hs hcell)
  clear hcell hF
  go_enter Tryz.func94, Tryz.ntmps94
  go_wp2_with (go_at_call 123; refine (unhide hcon).mono ?_)
  rintro e w' ⟨r, rfl, hr, rfl⟩
  have HR := hide hr
  clear hr
  go_wp2
  go_ret
  exact ⟨ret_bool (unhide HR), rfl⟩


set_option maxHeartbeats 1000000 in
theorem pmay_any (s : ByteArray) (m : Int) (w : World) (hs : s.size ≤ maxLen) :
    Calls Tryz.prog 57 #[.string s, .int .i64 m] w fun e w' => e = .returned (.bool (decide ((s.size : Int) ≤ m) && plainL (bl s))) ∧ Q w w' := by
  unfold maxLen at hs
  by_cases h2 : m < (s.size : Int)
  · have hf : Hid ((decide ((s.size : Int) ≤ m) && plainL (bl s)) = false) := by show _ = false; rw [decide_eq_false (by omega)]; rfl
    go_enter Tryz.func57, Tryz.ntmps57
    go_wp2_with fail
    go_ret
    exact ⟨ret_bool hf.out.symm, Q.refl _⟩
  have hf : Hid ((decide ((s.size : Int) ≤ m) && plainL (bl s)) = !anyB oddI (bl s)) := by
    show _ = _; rw [plain_any, Bool.not_not, decide_eq_true (by omega), Bool.true_and]
  have hcv := fun w => run_bytes_of_string (P := Tryz.prog) w 9 107 5 s Tryz.underlying9 Tryz.underlying107 Tryz.underlying5
  go_enter Tryz.func57, Tryz.ntmps57
  go_wp2_with fail
  refine (mbc_cx oddI (fun c _ _ w => odd_any c w) _ s _ _ (by unfold maxLen; omega) ?_).mono ?_
  · intro k h
    exact cell_bytes _ _ _ _ _ _ h
  rintro e w' ⟨rfl, rfl⟩
  go_wp2
  go_ret
  exact ⟨ret_bool hf.out.symm, (Q.alloc (Q.refl _) _).drew⟩

theorem plainL_take_succ (s : ByteArray) (k : Nat) (h : k < s.size) : plainL ((bl s).take (k + 1)) = (plainL ((bl s).take k) && !oddI (s[k].toNat : Int)) := by
  show plainL (s.data.toList.take (k + 1)) = (plainL (s.data.toList.take k) && !oddI (s[k].toNat : Int))
  rw [take_snoc s k h, plainL_app]
  congr 1
  unfold plainL oddI
  rw [List.all_cons, List.all_nil, Bool.and_true, Bool.eq_iff_iff]; simp
theorem plainL_bad (s : ByteArray) (k : Nat) (h : k < s.size) (hb : oddI (s[k].toNat : Int) = true) : plainL (bl s) = false := by
  have := plainL_take_succ s k h
  rw [hb, Bool.not_true, Bool.and_false] at this
  rw [← List.take_append_drop (k + 1) (bl s), plainL_app, this, Bool.false_and]

set_option maxHeartbeats 1000000 in
theorem rplain_any (s : ByteArray) (a b : Int) (w : World) (hs : s.size ≤ maxLen) :
    Calls Tryz.prog 40 #[.string s, .int .i64 a, .int .i64 b] w fun e w' => e = .returned (.bool (plainL (bl s) && decide (a ≤ (s.size : Int)) && decide ((s.size : Int) ≤ b))) ∧ w' = w := by
  unfold maxLen at hs
  go_enter Tryz.func40, Tryz.ntmps40
  go_wp2
  go_loop [7] (fun i => ∃ k : Nat, k ≤ s.size ∧ i = .int .i64 k ∧ Hid (plainL ((bl s).take k) = true)) (fun i => s.size - (intOf i).toNat)
  case atStart => exact ⟨0, Nat.zero_le _, rfl, rfl⟩
  case round =>
    obtain ⟨k, hk, rfl, hall⟩ := hrel
    by_cases hlt : k < s.size
    · cases hok : oddI (s[k].toNat : Int)
      · have HO : Hid (plainL ((bl s).take (k + 1)) = true) := by
          show _ = true
          rw [plainL_take_succ s k hlt, hok, hall.out]; rfl
        have h1 : 32 ≤ (s[k].toNat : Int) ∧ (s[k].toNat : Int) ≤ 126 := by unfold oddI at hok; simp at hok; omega
        obtain ⟨h1, h2⟩ := h1
        clear hok hall
        go_wp2
        go_round
        case rel => exact ⟨k + 1, by omega, by go_num, HO⟩
        case measure => simp [intOf]; omega
      · have HO : Hid (plainL (bl s) = false) := plainL_bad s k hlt hok
        have h1 : (s[k].toNat : Int) < 32 ∨ (32 ≤ (s[k].toNat : Int) ∧ 126 < (s[k].toNat : Int)) := by unfold oddI at hok; simp at hok; omega
        clear hok hall
        rcases h1 with h1 | ⟨h1, h2⟩
        all_goals
          go_wp2
          go_ret
          exact ⟨ret_bool (by rw [HO.out]; rfl), rfl⟩
    · have HP : Hid (plainL (bl s) = true) := by
        have := hall.out
        rw [List.take_of_length_le (by rw [bl_size]; omega)] at this
        exact this
      clear hall
      by_cases h1 : a ≤ (s.size : Int) <;> by_cases h2 : (s.size : Int) ≤ b
      all_goals
        go_wp2
        go_ret
        refine ⟨ret_bool ?_, rfl⟩
        have hp := HP.out
        simp [hp, h1, h2] <;> omega

theorem clone_any (s : ByteArray) (w : World) (hs : s.size ≤ 281474976710656) :
    Calls Tryz.prog 113 #[.string s] w fun e w' => e = .returned (.string s) ∧ Q w w' := by
  have c : Calls Tryz.prog 143 #[.string s] w fun e w' => e = .returned (.string s) ∧ Below w.heap.size w w' := Any.stringslite_Clone Tryz.laysM316 s w hs
  have C := hide c
  clear c
  go_enter Tryz.func113, Tryz.ntmps113
  go_wp2_with fail
  refine (unhide C).mono ?_
  rintro e w' ⟨rfl, q⟩
  go_wp2
  go_ret
  exact ⟨rfl, q⟩

end Go.Proofs.YtpddckgkaopnlaaGreatDoor

/- What the library's ReplaceAll answers where one sign is taken out, and what package lines' small functions answer, for every text; the conditions: the lengths. -/
namespace Go.Proofs.YtpddckgkaopnlaaGreatDoor
open Go.RowKit

theorem wstr_b (B b : Nat) (l : List UInt8) (x : ByteArray) (w : World) (h : Lib.IsBuilder 173 5 B b (Lib.byteCells l) w) (hl : l.length + x.size ≤ 140737488355328) (hB : B ≤ w.heap.size) :
    Calls Tryz.prog 125 #[.pointer (some ⟨b, 0, none⟩), .string x] w fun e w' => e = .returned (.tuple #[.int .i64 x.size, .nilIface]) ∧ Lib.IsBuilder 173 5 B b (Lib.byteCells (l ++ bl x)) w' ∧ Below B w w' := by
  have := wstrL_any B b l (bl x) w h (by rw [bl_size]; exact hl) hB
  rw [mk_blL, bl_size] at this
  exact this

theorem ext_sz (s : ByteArray) (a b : Nat) (h1 : a ≤ b) (h2 : b ≤ s.size) : (s.extract a b).size = b - a := by
  rw [← bl_size, bl_extract, List.length_drop, List.length_take, bl_size]; omega

set_option maxHeartbeats 2000000 in
theorem replace_any (s : ByteArray) (w : World) (hs : s.size ≤ 1099511627776) :
    Calls Tryz.prog 96 #[.string s, .string ⟨#[10]⟩, .string ⟨#[]⟩, .int .i64 (-1)] w fun e w' => e = .returned (.string ⟨(without 10 (bl s)).toArray⟩) ∧ Q w w' := by
  have HSZ := hide (bl_size s)
  have hcl : (bl s).count 10 ≤ s.size := by rw [← bl_size]; exact List.count_le_length
  generalize hm : (bl s).count 10 = m at hcl
  have HM := hide hm
  clear hm
  have hne : ((⟨#[10]⟩ : ByteArray).toList == (⟨#[]⟩ : ByteArray).toList) = false := by decide +kernel
  by_cases h0 : m = 0
  · have HF : Hid (without 10 (bl s) = bl s) := without_zero 10 _ (by rw [unhide HM, h0])
    subst h0
    go_enter Tryz.func96, Tryz.ntmps96
    go_wp2_with fail
    refine (count_one_any s 10 _).mono ?_
    rintro e w1 ⟨rfl, rfl⟩
    rw [unhide HM]
    go_wp2_with fail
    go_ret
    rw [HF.out, mk_blL]
    exact ⟨rfl, Q.refl _⟩
  have hmz : ((m : Int) == 0) = false := beq_eq_false_iff_ne.2 (by omega)
  have HGR := hide (show ((s.size : Int) + -(m : Int)) = ((s.size - m : Nat) : Int) by omega)
  go_enter Tryz.func96, Tryz.ntmps96
  go_wp2_with fail
  refine (count_one_any s 10 _).mono ?_
  rintro e w1 ⟨rfl, rfl⟩
  rw [unhide HM]
  go_wp2_with fail
  rw [unhide HGR]
  refine (wgrow_any w1.heap.size w1.heap.size (s.size - m) _ (Nat.le_refl _) (heap_alloc_new _ _) (by simp) (by omega)).mono ?_
  rintro e w2 ⟨rfl, hb2, q2⟩
  have hq2 : Q w1 w2 := Below.trans ((Q.refl _).alloc _) q2
  have HB2 := hide hb2
  clear hb2 q2
  go_wp2_with fail
  go_loopw [11, 53] (fun st i wr => ∃ (k f : Nat), i = .int .i64 k ∧ st = .int .i64 f ∧ k ≤ m ∧ f ≤ s.size ∧ Q w1 wr ∧
      Hid (Lib.IsBuilder 173 5 w1.heap.size w1.heap.size (Lib.byteCells (without 10 ((bl s).take f))) wr) ∧ Hid (((bl s).drop f).count 10 + k = m))
    (fun _ i _ => m - (intOf i).toNat)
  case atStart => exact ⟨0, 0, rfl, rfl, by omega, by omega, hq2, unhide HB2, by show _ = _; rw [List.drop_zero, unhide HM]; rfl⟩
  case round =>
    obtain ⟨k, f, rfl, rfl, hk, hf, hq, HB, HC⟩ := hrel
    have hqs := hq.size
    have HLT : Hid ((without 10 ((bl s).take f)).length ≤ f) := Nat.le_trans (without_len _ _) (by rw [List.length_take]; omega)
    have HX : Hid (∀ b, b = s.size → bl (s.extract f b) = (bl s).drop f) := by
      rintro b rfl; rw [bl_extract, List.take_of_length_le (Nat.le_of_eq (unhide HSZ))]
    by_cases hlt : k < m
    · obtain ⟨i, hi⟩ := index_of_count 10 ((bl s).drop f) (by have := HC.out; omega)
      obtain ⟨g1, g2, g3⟩ := without_step 10 (bl s) f i hi
      rw [unhide HSZ] at g1
      have HI := hide hi
      have HG2 := hide g2
      have HG3 := hide g3
      clear hi g2 g3
      go_wp2_with fail
      refine (index_one_any _ 10 _).mono ?_
      rintro e w3 ⟨rfl, rfl⟩
      rw [HX.out _ rfl, unhide HI]
      go_wp2_with fail
      refine (wstr_b w1.heap.size w1.heap.size _ _ _ HB.out (by rw [ext_sz s _ _ (by omega) (by omega)]; have := HLT.out; omega) hqs).mono ?_
      rintro e w4 ⟨rfl, hb4, q4⟩
      have hq4 : Q w1 w4 := Below.trans hq q4
      have HB4 := hide hb4
      clear hb4 q4 HB hq hqs
      go_wp2_with fail
      refine (wstr_b w1.heap.size w1.heap.size _ _ _ (unhide HB4) (by rw [List.length_append, bl_size, ext_sz s _ _ (by omega) (by omega)]; have := HLT.out; show _ + 0 ≤ _; omega) hq4.size).mono ?_
      rintro e w5 ⟨rfl, hb5, q5⟩
      have hq5 : Q w1 w5 := Below.trans hq4 q5
      have HB5 : Hid (Lib.IsBuilder 173 5 w1.heap.size w1.heap.size (Lib.byteCells (without 10 ((bl s).take (f + i + 1)))) w5) := by
        show Lib.IsBuilder _ _ _ _ _ _
        rw [unhide HG2, ← bl_extract]
        have e0 : bl ⟨#[]⟩ = [] := rfl
        rw [e0, List.append_nil] at hb5
        exact hb5
      have HC5 : Hid (((bl s).drop (f + i + 1)).count 10 + (k + 1) = m) := by
        show _ = _
        have := HC.out; have := unhide HG3; omega
      clear hb5 q5 HB4 HC HG2 HG3 hq4
      go_wp2
      go_roundw
      case rel => exact ⟨k + 1, f + i + 1, by go_num, by go_num, by omega, by omega, hq5, HB5, HC5⟩
      case measure => simp [intOf]; omega
    · have HF : Hid (without 10 (bl s) = without 10 ((bl s).take f) ++ (bl s).drop f) := without_none 10 _ f (by have := HC.out; omega)
      clear HC
      go_wp2_with fail
      refine (wstr_b w1.heap.size w1.heap.size _ _ _ HB.out (by rw [ext_sz s _ _ (by omega) (by omega)]; have := HLT.out; omega) hqs).mono ?_
      rintro e w4 ⟨rfl, hb4, q4⟩
      rw [HX.out _ rfl, ← HF.out] at hb4
      have hq4 : Q w1 w4 := Below.trans hq q4
      have HB4 := hide hb4
      clear hb4 q4 HB
      go_wp2_with fail
      refine (wendL_any w1.heap.size w1.heap.size _ _ (unhide HB4) hq4.size).mono ?_
      rintro e w5 ⟨rfl, q5⟩
      have hq5 : Q w1 w5 := Below.trans hq4 q5
      clear q5 HB4
      go_wp2
      go_ret
      exact ⟨rfl, hq5⟩

theorem replall_any (s : ByteArray) (w : World) (hs : s.size ≤ 1099511627776) :
    Calls Tryz.prog 58 #[.string s, .string ⟨#[10]⟩, .string ⟨#[]⟩] w fun e w' => e = .returned (.string ⟨(without 10 (bl s)).toArray⟩) ∧ Q w w' := by
  go_enter Tryz.func58, Tryz.ntmps58
  go_wp2_with fail
  refine (replace_any s _ hs).mono ?_
  rintro e w1 ⟨rfl, q1⟩
  go_wp2
  go_ret
  exact ⟨rfl, q1⟩

theorem goes_any (s : ByteArray) (w : World) (hs : s.size ≤ maxLen) :
    Calls Tryz.prog 61 #[.string s] w fun e w' => e = .returned (.bool (goL (bl s))) ∧ w' = w := by
  have hs' := hs
  unfold maxLen at hs'
  have HC := hide (trimr_any s w hs)
  have hle : (Lib.trimRightB (bl s) 36).length ≤ s.size := by rw [← bl_size]; exact trimR_len _ _
  have HR : Hid (goL (bl s) = ((s.size - (Lib.trimRightB (bl s) 36).length) % 2 == 1)) := by show _ = _; unfold goL; rw [bl_size]
  have hz : (⟨(Lib.trimRightB (bl s) 36).toArray⟩ : ByteArray).size = (Lib.trimRightB (bl s) 36).length := by rw [← bl_size]; rfl
  generalize (Lib.trimRightB (bl s) 36).length = k at hle HR hz
  generalize (⟨(Lib.trimRightB (bl s) 36).toArray⟩ : ByteArray) = t at hz HC
  go_enter Tryz.func61, Tryz.ntmps61
  go_wp2_with fail
  refine (unhide HC).mono ?_
  rintro e w1 ⟨rfl, rfl⟩
  go_wp2
  go_ret
  refine ⟨ret_bool ?_, rfl⟩
  rw [HR.out, Bool.eq_iff_iff, beq_iff_eq, beq_iff_eq]
  omega

theorem lmay_any (s : ByteArray) (w : World) (hs : s.size ≤ maxLen) :
    Calls Tryz.prog 24 #[.string s] w fun e w' => e = .returned (.bool (decide (s.size ≤ 2048) && endL (bl s) && plainL (without 10 (bl s)))) ∧ Q w w' := by
  have hs' := hs
  unfold maxLen at hs'
  by_cases h1 : 2048 < s.size
  · have HR : Hid ((decide (s.size ≤ 2048) && endL (bl s) && plainL (without 10 (bl s))) = false) := by show _ = _; rw [decide_eq_false (by omega)]; rfl
    go_enter Tryz.func24, Tryz.ntmps24
    go_wp2_with fail
    go_ret
    exact ⟨ret_bool HR.out.symm, Q.refl _⟩
  have HSZ : Hid ((⟨(without 10 (bl s)).toArray⟩ : ByteArray).size ≤ 2048) := by
    show _ ≤ _; rw [← bl_size]; exact Nat.le_trans (without_len _ _) (by rw [bl_size]; omega)
  have HP : Hid ((decide (((⟨(without 10 (bl s)).toArray⟩ : ByteArray).size : Int) ≤ 2048) && plainL (bl ⟨(without 10 (bl s)).toArray⟩)) = plainL (without 10 (bl s))) := by
    show _ = _; rw [decide_eq_true (by have := HSZ.out; omega), Bool.true_and]; rfl
  by_cases h0 : bl s = []
  · have he : s.toList.isEmpty = true := by rw [bl_toList, h0]; rfl
    have HR : Hid ((decide (s.size ≤ 2048) && endL (bl s) && plainL (without 10 (bl s))) = plainL (without 10 (bl s))) := by show _ = _; rw [decide_eq_true (by omega), h0]; rfl
    clear h0
    go_enter Tryz.func24, Tryz.ntmps24
    go_wp2_with fail
    refine (replall_any s _ (by omega)).mono ?_
    rintro e w1 ⟨rfl, q1⟩
    go_wp2_with fail
    refine (pmay_any _ 2048 _ (by unfold maxLen; have := HSZ.out; omega)).mono ?_
    rintro e w2 ⟨rfl, q2⟩
    rw [HP.out]
    go_wp2
    go_ret
    exact ⟨ret_bool HR.out.symm, q1.trans q2⟩
  have he : s.toList.isEmpty = false := by rw [bl_toList]; simpa using h0
  cases hl : ((bl s).getLast? == some 10)
  · have HR : Hid ((decide (s.size ≤ 2048) && endL (bl s) && plainL (without 10 (bl s))) = false) := by
      show _ = _; unfold endL; rw [hl, ← bl_toList, he]; simp
    have HL := hide hl
    clear hl h0
    go_enter Tryz.func24, Tryz.ntmps24
    go_wp2_with fail
    refine (suff_any s _ hs).mono ?_
    rintro e w1 ⟨rfl, rfl⟩
    rw [unhide HL]
    go_wp2_with fail
    go_ret
    exact ⟨ret_bool HR.out.symm, Q.refl _⟩
  · have HR : Hid ((decide (s.size ≤ 2048) && endL (bl s) && plainL (without 10 (bl s))) = plainL (without 10 (bl s))) := by
      show _ = _; unfold endL; rw [hl, decide_eq_true (by omega)]; simp
    have HL := hide hl
    clear hl h0
    go_enter Tryz.func24, Tryz.ntmps24
    go_wp2_with fail
    refine (suff_any s _ hs).mono ?_
    rintro e w1 ⟨rfl, rfl⟩
    rw [unhide HL]
    go_wp2_with fail
    refine (replall_any s _ (by omega)).mono ?_
    rintro e w1 ⟨rfl, q1⟩
    go_wp2_with fail
    refine (pmay_any _ 2048 _ (by unfold maxLen; have := HSZ.out; omega)).mono ?_
    rintro e w2 ⟨rfl, q2⟩
    rw [HP.out]
    go_wp2
    go_ret
    exact ⟨ret_bool HR.out.symm, q1.trans q2⟩

/-- What a joined line tells, and whether. -/
def lnD (t : List UInt8) : Ln := (lnOf t).getD (false, [])

theorem cell_two {w w1 : World} {o : Obj} (q : Q (w.alloc o) w1) {b : Bool} {x : ByteArray} {t : TypeId} (e : o = .cells #[.bool b, .string x] t) :
    w1.cell? ⟨w.heap.size, 0, none⟩ = some (.bool b) ∧ w1.cell? ⟨w.heap.size, 1, none⟩ = some (.string x) ∧ w1.frozen? ⟨w.heap.size, 0, none⟩ = false ∧ w1.frozen? ⟨w.heap.size, 1, none⟩ = false := by
  subst e
  have hb := (q.block w.heap.size (by simp)).trans (heap_alloc_new _ _)
  exact ⟨by simp [World.cell?, hb], by simp [World.cell?, hb], frozen_of_row w1 _ _ _ _ hb, frozen_of_row w1 _ _ _ _ hb⟩

theorem lnOf_none {t : List UInt8} (h : lnOf t = none) : lnD t = (false, []) := by unfold lnD; rw [h]; rfl
theorem lnOf_some {t : List UInt8} {x : Ln} (h : lnOf t = some x) : lnD t = x := by unfold lnD; rw [h]; rfl

set_option maxHeartbeats 2000000 in
theorem lineOf_any (s : ByteArray) (w : World) (hs : s.size ≤ maxLen) :
    Calls Tryz.prog 27 #[.string s] w fun e w' => e = .returned (.tuple #[.agg #[.bool (lnD (bl s)).1, .string ⟨(lnD (bl s)).2.toArray⟩], .bool (lnOf (bl s)).isSome]) ∧ Q w w' := by
  have HC := hide (fun w => trim_any s w hs)
  have hs' := hs
  unfold maxLen at hs'
  by_cases h0 : trL (bl s) = []
  · have HR : Hid (lnOf (bl s) = none) := by show _ = _; unfold lnOf; rw [if_pos (Or.inl h0)]
    rw [h0] at HC
    clear h0
    go_enter Tryz.func27, Tryz.ntmps27
    go_wp2_with fail
    refine (unhide HC _).mono ?_
    rintro e w1 ⟨rfl, q1⟩
    obtain ⟨c0, c1, f0, f1⟩ := cell_two q1 rfl
    have q := (Q.alloc (Q.refl w) _).trans q1
    clear q1
    go_wp2_with fail
    rw [lnOf_none HR.out, HR.out]
    exact bodyPost_ret (v := .tuple #[.agg #[.bool false, .string ⟨#[]⟩], .bool false]) (by simp [results, Tryz.results27, go_sem, c0, c1]) rfl ⟨rfl, (q.setCell (Nat.le_refl _) _).setCell (Nat.le_refl _) _⟩
  have HN := hide h0
  obtain ⟨a, r, har⟩ := List.exists_cons_of_ne_nil h0
  obtain ⟨t, ht⟩ : ∃ t : ByteArray, t = ⟨(trL (bl s)).toArray⟩ := ⟨_, rfl⟩
  have htb : bl t = trL (bl s) := by rw [ht]; rfl
  have ht0 : 0 < t.size := by rw [← bl_size, htb, har]; simp
  have hta : t[0] = a := by
    have := bl_getElem t 0 ht0
    rw [htb, har] at this; simpa using this.symm
  have hte : t.toList.isEmpty = false := by rw [bl_toList, htb, har]; rfl
  rw [← ht] at HC
  have HT := hide htb
  clear htb ht
  by_cases h1 : a = 35
  · have HR : Hid (lnOf (bl s) = none) := by show _ = _; unfold lnOf; rw [if_pos (Or.inr (by rw [har, h1]; rfl))]
    have hb : ((t[0].toNat : Int) == 35) = true := by rw [hta, h1]; rfl
    clear h0 h1 har hta
    go_enter Tryz.func27, Tryz.ntmps27
    go_wp2_with fail
    refine (unhide HC _).mono ?_
    rintro e w1 ⟨rfl, q1⟩
    obtain ⟨c0, c1, f0, f1⟩ := cell_two q1 rfl
    have q := (Q.alloc (Q.refl w) _).trans q1
    clear q1
    go_wp2_with fail
    rw [lnOf_none HR.out, HR.out]
    exact bodyPost_ret (v := .tuple #[.agg #[.bool false, .string ⟨#[]⟩], .bool false]) (by simp [results, Tryz.results27, go_sem, c0, c1]) rfl ⟨rfl, (q.setCell (Nat.le_refl _) _).setCell (Nat.le_refl _) _⟩
  · have hs0 : 0 < s.size := by rw [← bl_size]; exact List.length_pos_iff.2 (tr_ne h0)
    have HR : Hid (lnOf (bl s) = some (((s[0].toNat : Int) == 32), trL (bl s))) := by
      show _ = _
      unfold lnOf
      rw [if_neg (by rintro (h | h); exact h0 h; rw [har] at h; exact h1 (by simpa using h))]
      have hh := bl_getElem s 0 hs0
      rw [← List.head?_eq_getElem?] at hh
      rw [hh]
      congr 2
      rw [Bool.eq_iff_iff, decide_eq_true_iff, beq_iff_eq]
      exact ⟨fun h => by rw [Option.some.inj h]; rfl, fun h => congrArg some (UInt8.toNat_inj.1 (by show s[0].toNat = 32; omega))⟩
    have hb : ((t[0].toNat : Int) == 35) = false := beq_eq_false_iff_ne.2 fun e => h1 (by rw [← hta]; exact UInt8.toNat_inj.1 (by show t[0].toNat = 35; omega))
    clear h0 h1 har hta
    go_enter Tryz.func27, Tryz.ntmps27
    go_wp2_with fail
    refine (unhide HC _).mono ?_
    rintro e w1 ⟨rfl, q1⟩
    obtain ⟨c0, c1, f0, f1⟩ := cell_two q1 rfl
    have q := (Q.alloc (Q.refl w) _).trans q1
    clear q1
    go_wp2_with fail
    rw [lnOf_some HR.out, HR.out, ← unhide HT, mk_blL]
    exact bodyPost_ret (v := .tuple #[.agg #[.bool ((s[0].toNat : Int) == 32), .string t], .bool true]) (by simp [results, Tryz.results27, go_sem, c0, c1]) rfl ⟨rfl, (q.setCell (Nat.le_refl _) _).setCell (Nat.le_refl _) _⟩

end Go.Proofs.YtpddckgkaopnlaaGreatDoor

/- What package name's May answers, for every string: whether it has one to sixteen bytes, each a small letter, a digit or one of four signs; no conditions but that the string is no longer than a string can be. -/
namespace Go.Proofs.YtpddckgkaopnlaaGreatDoor
open Go.RowKit

set_option maxHeartbeats 1000000 in
theorem bad_small (c : Int) (h : (97 ≤ c ∧ c ≤ 122) ∨ (48 ≤ c ∧ c ≤ 57)) (w : World) :
    Calls Tryz.prog 101 #[.int .u8 c] w fun e w' => e = .returned (.bool false) ∧ w' = w := by
  rcases h with ⟨h1, h2⟩ | ⟨h1, h2⟩
  · by_cases h3 : c ≤ 57
    · omega
    go_enter Tryz.func101, Tryz.ntmps101
    go_wp2_with (go_at_call 102; refine (str_ib _ _ _).mono ?_; rintro e w' ⟨rfl, rfl⟩)
    go_ret
    exact ⟨rfl, rfl⟩
  · have h3 : ¬ 97 ≤ c := by omega
    go_enter Tryz.func101, Tryz.ntmps101
    go_wp2_with (go_at_call 102; refine (str_ib _ _ _).mono ?_; rintro e w' ⟨rfl, rfl⟩)
    go_ret
    exact ⟨rfl, rfl⟩

theorem okb_far (c : Int) (h : ¬ ((97 ≤ c ∧ c ≤ 122) ∨ (48 ≤ c ∧ c ≤ 57))) (h0 : 0 ≤ c) (h1 : c ≤ 255) :
    decide (Lib.indexByte [46, 95, 45, 47] c.toNat.toUInt8 < 0) = !okb c := by
  rw [signs_index c h0 h1]
  have e : smallB c = false := by unfold smallB; simp; omega
  rw [okb_not_small c e]
  by_cases a : c = 46
  · subst a; decide
  by_cases b : c = 95
  · subst b; decide
  by_cases d : c = 45
  · subst d; decide
  by_cases f : c = 47
  · subst f; decide
  simp [a, b, d, f]

set_option maxHeartbeats 1000000 in
theorem bad_far (c : Int) (h : ¬ ((97 ≤ c ∧ c ≤ 122) ∨ (48 ≤ c ∧ c ≤ 57))) (h0 : 0 ≤ c) (h255 : c ≤ 255) (w : World) :
    Calls Tryz.prog 101 #[.int .u8 c] w fun e w' => e = .returned (.bool (!okb c)) ∧ w' = w := by
  have he : Hid (decide (Lib.indexByte [46, 95, 45, 47] c.toNat.toUInt8 < 0) = !okb c) := okb_far c h h0 h255
  have fin : ∀ w', w' = w → (Ending.returned (.bool (decide (Lib.indexByte [46, 95, 45, 47] c.toNat.toUInt8 < 0))) = .returned (.bool (!okb c)) ∧ w' = w) := by
    intro w' hw; rw [he.out]; exact ⟨rfl, hw⟩
  have FIN := hide fin
  clear fin
  by_cases h1 : 97 ≤ c <;> by_cases h2 : c ≤ 122 <;> by_cases h3 : 48 ≤ c <;> by_cases h4 : c ≤ 57
  all_goals first
    | omega
    | (clear h
       go_enter Tryz.func101, Tryz.ntmps101
       go_wp2_with (go_at_call 102; refine (str_ib _ _ _).mono ?_; rintro e w' ⟨rfl, rfl⟩)
       go_ret
       exact unhide FIN _ rfl)

theorem bad_any (c : Int) (h0 : 0 ≤ c) (h255 : c ≤ 255) (w : World) :
    Calls Tryz.prog 101 #[.int .u8 c] w fun e w' => e = .returned (.bool (!okb c)) ∧ w' = w := by
  by_cases h : (97 ≤ c ∧ c ≤ 122) ∨ (48 ≤ c ∧ c ≤ 57)
  · have e : okb c = true := okb_small c (by unfold smallB; simpa using h)
    rw [e]; exact bad_small c h w
  · exact bad_far c h h0 h255 w

set_option maxHeartbeats 1000000 in
theorem indexFunc_any (b : Nat) (s : ByteArray) (cap : Nat) (w : World) (hs : s.size ≤ maxLen)
    (hcell : ∀ (k : Nat) (h : k < s.size), w.cell? ⟨b, k, none⟩ = some (.int .u8 (s[k].toNat : Int))) :
    Calls Tryz.prog 123 #[.slice (some ⟨b, 0, none⟩) s.size cap, .func (.func 101) #[] #[]] w
      fun e w' => ∃ r : Int, e = .returned (.int .i64 r) ∧ decide (0 ≤ r) = !allOk s.data.toList ∧ w' = w := by
  unfold maxLen at hs
  go_enter Tryz.func123, Tryz.ntmps123
  go_wp2
  go_loop [8] (fun i => ∃ k : Nat, k ≤ s.size ∧ i = .int .i64 k ∧ Hid (allOk (s.data.toList.take k) = true)) (fun i => s.size - (intOf i).toNat)
  case atStart => exact ⟨0, Nat.zero_le _, rfl, rfl⟩
  case round =>
    obtain ⟨k, hk, rfl, hall⟩ := hrel
    by_cases hlt : k < s.size
    · have hc := hcell k hlt
      have hb : (s[k].toNat : Int) ≤ 255 := by have := s[k].toNat_lt; omega
      have hb0 : 0 ≤ (s[k].toNat : Int) := by omega
      cases hok : okb (s[k].toNat : Int)
      · have HO : Hid (allOk s.data.toList = false) := allOk_bad s k hlt hok
        have hcon := hide (bad_any (s[k].toNat : Int) hb0 hb w)
        rw [show (!okb (s[k].toNat : Int)) = true by rw [hok]; rfl] at hcon
        clear hok hcell
        go_wp2_with (go_at_call 101; refine (unhide hcon).mono ?_; rintro e w' ⟨rfl, rfl⟩)
        go_ret
        exact ⟨k, rfl, by rw [HO.out]; simp, rfl⟩
      · have HO : Hid (allOk (s.data.toList.take (k + 1)) = true) := by
          show allOk _ = true
          rw [allOk_take_succ s k hlt, hok, hall.out]; rfl
        have hcon := hide (bad_any (s[k].toNat : Int) hb0 hb w)
        rw [show (!okb (s[k].toNat : Int)) = false by rw [hok]; rfl] at hcon
        clear hok hcell
        go_wp2_with (go_at_call 101; refine (unhide hcon).mono ?_; rintro e w' ⟨rfl, rfl⟩)
        go_round
        case rel => exact ⟨k + 1, by omega, by go_num, HO⟩
        case measure => simp [intOf]; omega
    · go_wp2
      go_ret
      refine ⟨-1, rfl, ?_, rfl⟩
      rw [← allOk_full s k (by omega), hall.out]; rfl

theorem containsFunc_any (b : Nat) (s : ByteArray) (cap : Nat) (w : World) (hs : s.size ≤ maxLen)
    (hcell : ∀ (k : Nat) (h : k < s.size), w.cell? ⟨b, k, none⟩ = some (.int .u8 (s[k].toNat : Int))) :
    Calls Tryz.prog 94 #[.slice (some ⟨b, 0, none⟩) s.size cap, .func (.func 101) #[] #[]] w
      fun e w' => e = .returned (.bool (!allOk s.data.toList)) ∧ w' = w := by
  have hcon := hide (indexFunc_any b s cap w hs hcell)
  clear hcell
  go_enter Tryz.func94, Tryz.ntmps94
  go_wp2_with (go_at_call 123; refine (unhide hcon).mono ?_)
  rintro e w' ⟨r, rfl, hr, rfl⟩
  have HR := hide hr
  clear hr
  go_wp2
  go_ret
  exact ⟨ret_bool (unhide HR), rfl⟩

set_option maxHeartbeats 1000000 in
theorem may_any (s : ByteArray) (w : World) (hs : s.size ≤ maxLen) :
    Calls Tryz.prog 62 #[.string s] w fun e w' => e = .returned (.bool (mayB s)) ∧ Q w w' := by
  unfold maxLen at hs
  by_cases h1 : s.size < 1
  · have hf : Hid (mayB s = false) := by show mayB s = false; unfold mayB; simp; omega
    go_enter Tryz.func62, Tryz.ntmps62
    go_wp2_with fail
    go_ret
    exact ⟨ret_bool hf.out.symm, Q.refl _⟩
  by_cases h2 : 16 < s.size
  · have hf : Hid (mayB s = false) := by show mayB s = false; unfold mayB; simp; omega
    go_enter Tryz.func62, Tryz.ntmps62
    go_wp2_with fail
    go_ret
    exact ⟨ret_bool hf.out.symm, Q.refl _⟩
  have hf : Hid (mayB s = allOk s.data.toList) := by show mayB s = _; unfold mayB; simp; omega
  have hcv := fun w => run_bytes_of_string (P := Tryz.prog) w 9 107 5 s Tryz.underlying9 Tryz.underlying107 Tryz.underlying5
  go_enter Tryz.func62, Tryz.ntmps62
  go_wp2_with fail
  refine (containsFunc_any _ s _ _ (by unfold maxLen; omega) ?_).mono ?_
  · intro k h
    exact cell_bytes _ _ _ _ _ _ h
  rintro e w' ⟨rfl, rfl⟩
  go_wp2
  go_ret
  exact ⟨ret_bool (by rw [hf.out]), (Q.alloc (Q.refl _) _).drew⟩

set_option maxHeartbeats 1000000 in
theorem nameMay_any (s : ByteArray) (w : World) (hs : s.size ≤ maxLen) :
    Calls Tryz.prog 51 #[.string s] w fun e w' => e = .returned (.bool (mayB s)) ∧ w' = w := by
  unfold maxLen at hs
  go_enter Tryz.func51, Tryz.ntmps51
  go_wp2
  go_loop [3] (fun i => ∃ k : Nat, k ≤ s.size ∧ i = .int .i64 k ∧ Hid (allOk (s.data.toList.take k) = true)) (fun i => s.size - (intOf i).toNat)
  case atStart => exact ⟨0, Nat.zero_le _, rfl, rfl⟩
  case round =>
    obtain ⟨k, hk, rfl, hall⟩ := hrel
    by_cases hlt : k < s.size
    · have hb : (s[k].toNat : Int) ≤ 255 := by have := s[k].toNat_lt; omega
      have hb0 : 0 ≤ (s[k].toNat : Int) := by omega
      cases hok : okb (s[k].toNat : Int)
      · have HO : Hid (mayB s = false) := by show mayB s = false; unfold mayB; rw [allOk_bad s k hlt hok]; simp
        obtain ⟨g0, g1, g2, g3, g4⟩ := okb_false _ hok
        clear hok
        go_wp2_with (go_at_call 90; refine (small_any _ _).mono ?_; rintro e w' ⟨rfl, rfl⟩)
        go_ret
        exact ⟨ret_bool HO.out.symm, rfl⟩
      · have HO : Hid (allOk (s.data.toList.take (k + 1)) = true) := by
          show allOk _ = true
          rw [allOk_take_succ s k hlt, hok, hall.out]; rfl
        rcases okb_true _ hok with g0 | ⟨g0, g1⟩ | ⟨g0, g1, g2⟩ | ⟨g0, g1, g2, g3⟩ | ⟨g0, g1, g2, g3, g4⟩
        all_goals
          clear hok
          go_wp2_with (go_at_call 90; refine (small_any _ _).mono ?_; rintro e w' ⟨rfl, rfl⟩)
          go_round
          case rel => exact ⟨k + 1, by omega, by go_num, HO⟩
          case measure => simp [intOf]; omega
    · have hf : Hid (mayB s = (decide (1 ≤ (s.size : Int)) && decide ((s.size : Int) ≤ 16))) := by
        show mayB s = _; unfold mayB; rw [← allOk_full s k (by omega), hall.out, Bool.and_true]
        rw [Bool.eq_iff_iff]; simp; omega
      rcases (by omega : s.size < 1 ∨ (1 ≤ s.size ∧ s.size ≤ 16) ∨ (1 ≤ s.size ∧ 16 < s.size)) with h1 | ⟨h1, h2⟩ | ⟨h1, h2⟩
      all_goals
        go_wp2
        go_ret
        refine ⟨ret_bool ?_, rfl⟩
        rw [hf.out, Bool.eq_iff_iff]; simp <;> omega

end Go.Proofs.YtpddckgkaopnlaaGreatDoor

/- Memory of which one block alone is written: what was there beside it is as it was; a row of two texts in such a block; rows of texts that a call owns; no conditions. -/
namespace Go.Proofs.YtpddckgkaopnlaaGreatDoor
open Go.RowKit

/-- But for block g all that was there is as it was. -/
structure But (g : Nat) (w w' : World) : Prop where
  os : w'.os = w.os
  tape : w'.tape = w.tape
  output : w'.output = w.output
  size : w.heap.size ≤ w'.heap.size
  block : ∀ k, k < w.heap.size → k ≠ g → w'.heap[k]? = w.heap[k]?

theorem But.refl (g : Nat) (w : World) : But g w w := ⟨rfl, rfl, rfl, Nat.le_refl _, fun _ _ _ => rfl⟩
theorem But.trans {g : Nat} {a b c : World} (h : But g a b) (k : But g b c) : But g a c :=
  ⟨k.os.trans h.os, k.tape.trans h.tape, k.output.trans h.output, Nat.le_trans h.size k.size, fun i hi hn => (k.block i (Nat.lt_of_lt_of_le hi h.size) hn).trans (h.block i hi hn)⟩
theorem But.of_q {g : Nat} {w w' : World} (h : Q w w') : But g w w' := ⟨h.os, h.tape, h.output, h.size, fun k hk _ => h.block k hk⟩
theorem But.q {g : Nat} {a b c : World} (h : But g a b) (k : Q b c) : But g a c := h.trans (But.of_q k)
theorem But.set {g : Nat} {a w : World} (h : But g a w) (o : Nat) (u : Value) : But g a (w.setCell ⟨g, o, none⟩ u) :=
  h.trans ⟨rfl, rfl, rfl, by simp [World.setCell], fun k _ hn => Below.heap_setCell _ _ _ _ hn⟩
theorem But.drewN {g : Nat} {a b : World} (h : But g a b) (n : Nat) : But g a (b.drewN n) := ⟨h.os, h.tape, h.output, h.size, h.block⟩
theorem But.drew {g : Nat} {a b : World} (h : But g a b) : But g a b.drew := ⟨h.os, h.tape, h.output, h.size, h.block⟩
theorem But.below {g B : Nat} {w w' : World} (h : But g w w') (hg : B ≤ g) (hB : B ≤ w.heap.size) : Below B w w' :=
  ⟨h.os, h.tape, h.output, h.size, fun k hk => h.block k (by omega) (by omega)⟩
/-- A new block, and then nothing but it. -/
theorem But.new {w w' : World} {o : Obj} (h : But w.heap.size (w.alloc o) w') : Q w w' :=
  Below.trans ((Q.refl w).alloc o) (h.below (Nat.le_refl _) (by simp))
/-- An append to a row of the call's own. -/
theorem But.grown {g B : Nat} {a w w' : World} {row : Option Nat} (h : But g a w) (hg : w.grownBy w' row) (hB : a.heap.size ≤ B) (hr : ∀ k, row = some k → B ≤ k) : But g a w' :=
  ⟨hg.os.trans h.os, hg.tape.trans h.tape, hg.output.trans h.output, Nat.le_trans h.size hg.size, fun k hk hn => (hg.block k (Nat.lt_of_lt_of_le hk h.size) (fun e => by have := hr k e.symm; omega)).trans (h.block k hk hn)⟩

theorem own_but {g : Nat} {w w' : World} {B e size n : Nat} {v : Value} {xs : List Value} (h : w.ownsRow B e size v n xs) (hb : But g w w') (hg : g < B) : w'.ownsRow B e size v n xs := by
  have hl := fun k hk => h.lt k hk
  obtain ⟨h1, h2⟩ := h
  rcases h2 with hn | ⟨k, cap, cur, e1, hk, hgg, rest⟩
  · exact ⟨h1, Or.inl hn⟩
  · have hlt : k < w.heap.size := (hl k (by rw [e1]; rfl)).2
    exact ⟨h1, Or.inr ⟨k, cap, cur, e1, hk, (hb.block k hlt (by omega)).trans hgg, rest⟩⟩

/-- Two texts that lie in block g. -/
structure AtW (w : World) (g : Nat) (a b : ByteArray) : Prop where
  hi : g < w.heap.size
  c0 : w.cell? ⟨g, 0, none⟩ = some (.string a)
  c1 : w.cell? ⟨g, 1, none⟩ = some (.string b)
  frz : ∀ r, w.frozen? ⟨g, r, none⟩ = false

theorem AtW.q {w w' : World} {g : Nat} {a b : ByteArray} (h : AtW w g a b) (hq : Q w w') : AtW w' g a b :=
  ⟨Nat.lt_of_lt_of_le h.hi hq.size, (hq.cell (p := ⟨g, 0, none⟩) h.hi).trans h.c0, (hq.cell (p := ⟨g, 1, none⟩) h.hi).trans h.c1, fun r => (hq.frozen (p := ⟨g, r, none⟩) h.hi).trans (h.frz r)⟩
theorem AtW.set0 {w : World} {g : Nat} {a b : ByteArray} (h : AtW w g a b) (x : ByteArray) : AtW (w.setCell ⟨g, 0, none⟩ (.string x)) g x b :=
  ⟨by simpa using h.hi, World.cell?_setCell_same' w ⟨g, 0, none⟩ (.string x) (by rw [h.c0]; rfl),
   (World.cell?_setCell_other w ⟨g, 0, none⟩ ⟨g, 1, none⟩ (.string x) (by intro e; cases e)).trans h.c1, fun r => by rw [← h.frz r]; simp⟩
theorem AtW.set1 {w : World} {g : Nat} {a b : ByteArray} (h : AtW w g a b) (x : ByteArray) : AtW (w.setCell ⟨g, 1, none⟩ (.string x)) g a x :=
  ⟨by simpa using h.hi, (World.cell?_setCell_other w ⟨g, 1, none⟩ ⟨g, 0, none⟩ (.string x) (by intro e; cases e)).trans h.c0,
   World.cell?_setCell_same' w ⟨g, 1, none⟩ (.string x) (by rw [h.c1]; rfl), fun r => by rw [← h.frz r]; simp⟩
theorem AtW.drewN {w : World} {g : Nat} {a b : ByteArray} (h : AtW w g a b) (n : Nat) : AtW (w.drewN n) g a b := ⟨h.hi, h.c0, h.c1, h.frz⟩
theorem AtW.drew {w : World} {g : Nat} {a b : ByteArray} (h : AtW w g a b) : AtW w.drew g a b := ⟨h.hi, h.c0, h.c1, h.frz⟩
theorem AtW.grown {w w' : World} {g : Nat} {a b : ByteArray} {row : Option Nat} (h : AtW w g a b) (hg : w.grownBy w' row) (hr : some g ≠ row) : AtW w' g a b :=
  ⟨Nat.lt_of_lt_of_le h.hi hg.size, (hg.cell_far ⟨g, 0, none⟩ h.hi hr).trans h.c0, (hg.cell_far ⟨g, 1, none⟩ h.hi hr).trans h.c1, fun r => (hg.frozen_far ⟨g, r, none⟩ h.hi hr).trans (h.frz r)⟩

/-- What is left of a line lies in block g. -/
def Lf (w : World) (g n : Nat) (ws : Ws) : Prop := ∃ a b : ByteArray, AtW w g a b ∧ StW (bl a) (bl b) ws ∧ a.size ≤ n ∧ b.size ≤ n

/-- Rows of texts. -/
def tv (x : List UInt8) : List Value := [.string ⟨x.toArray⟩]
theorem tv_len (x : List UInt8) : (tv x).length = 1 := rfl

abbrev OwnT (w : World) (B : Nat) (ao : Option Addr) (cap : Nat) (xs : Ws) : Prop := w.ownsRow B 9 1 (.slice ao xs.length cap) xs.length (lay tv xs)
abbrev RowT (w : World) (ao : Option Addr) (xs : Ws) : Prop := RowG tv 1 w ao xs

theorem OwnT.row {w : World} {B : Nat} {ao : Option Addr} {cap : Nat} {xs : Ws} (h : OwnT w B ao cap xs) : RowT w ao xs := RowG.own tv_len (by decide) h

theorem OwnT.snoc {w : World} {B cap : Nat} {ao : Option Addr} {xs : Ws} {x : ByteArray} (h : w.ownsRow B 9 1 (.slice ao (xs.length + 1) cap) (xs.length + 1) (lay tv xs ++ [.string x])) : OwnT w B ao cap (xs ++ [bl x]) := by
  show w.ownsRow B _ 1 (.slice ao (xs ++ [bl x]).length cap) (xs ++ [bl x]).length (lay tv (xs ++ [bl x]))
  rw [lay_snoc, List.length_append, show tv (bl x) = [Value.string x] from by unfold tv; rw [(of_bl rfl : x = ⟨(bl x).toArray⟩).symm]]
  exact h

theorem lay_tv (ys : List ByteArray) : lay tv (ys.map bl) = ys.map Value.string := by
  induction ys with
  | nil => rfl
  | cons y r ih => rw [List.map_cons, lay_cons, ih, List.map_cons]; unfold tv; rw [(of_bl rfl : y = ⟨(bl y).toArray⟩).symm]; rfl

end Go.Proofs.YtpddckgkaopnlaaGreatDoor

/- What the library's TrimLeft at a blank and Clone answer, for every text; the conditions: the lengths. -/
namespace Go.Proofs.YtpddckgkaopnlaaGreatDoor
open Go.RowKit

theorem mk_blW (s : ByteArray) : (⟨(bl s).toArray⟩ : ByteArray) = s := (of_bl rfl).symm

theorem trimlW_any (s : ByteArray) (w : World) :
    Calls Tryz.prog 60 #[.string s, .string ⟨#[32]⟩] w fun e w' => e = .returned (.string ⟨(Lib.trimLeftB (bl s) 32).toArray⟩) ∧ w' = w :=
  Any.strings_TrimLeft_one Tryz.lays161 s 32 (by decide) w

theorem cloneW_any (s : ByteArray) (w : World) (hs : s.size ≤ 281474976710656) :
    Calls Tryz.prog 113 #[.string s] w fun e w' => e = .returned (.string s) ∧ Q w w' := by
  have c : Calls Tryz.prog 143 #[.string s] w fun e w' => e = .returned (.string s) ∧ Below w.heap.size w w' := Any.stringslite_Clone Tryz.laysM316 s w hs
  have C := hide c
  clear c
  go_enter Tryz.func113, Tryz.ntmps113
  go_wp2_with fail
  refine (unhide C).mono ?_
  rintro e w' ⟨rfl, q⟩
  go_wp2
  go_ret
  exact ⟨rfl, q⟩

end Go.Proofs.YtpddckgkaopnlaaGreatDoor

/- What package words' small functions do to the row of what is left; the conditions: the lengths. -/
namespace Go.Proofs.YtpddckgkaopnlaaGreatDoor
open Go.RowKit

theorem ext_all (t : ByteArray) : bl (t.extract 0 t.size) = bl t := by rw [bl_extract, List.drop_zero, List.take_of_length_le (by rw [bl_size]; exact Nat.le_refl _)]
theorem ext_none (t : ByteArray) : bl (t.extract t.size t.size) = [] := by rw [bl_extract, List.drop_of_length_le]; rw [List.length_take, bl_size]; omega
theorem ext_end (t : ByteArray) (i : Nat) : bl (t.extract i t.size) = (bl t).drop i := by rw [bl_extract, List.take_of_length_le (by rw [bl_size]; exact Nat.le_refl _)]
theorem ext_front (t : ByteArray) (i : Nat) : bl (t.extract 0 i) = (bl t).take i := by rw [bl_extract, List.drop_zero]
theorem ext_le (t : ByteArray) (i j : Nat) : (t.extract i j).size ≤ t.size := by rw [← bl_size, ← bl_size, bl_extract, List.length_drop, List.length_take]; omega

theorem index_byte (l : List UInt8) : Lib.index l [32] = Lib.indexByte l 32 := Lib.index_one l 32

set_option maxHeartbeats 2000000 in
theorem next_any (g : Nat) (a b : ByteArray) (w : World) (h : AtW w g a b) (hb : b.size ≤ 1152921504606846976) :
    Calls Tryz.prog 161 #[.pointer (some ⟨g, 0, none⟩)] w fun e w' => e = .returned (.tuple #[]) ∧
      (∃ x y : ByteArray, AtW w' g x y ∧ StW (bl x) (bl y) (wdL (bl b)) ∧ x.size ≤ b.size ∧ y.size ≤ b.size) ∧ But g w w' := by
  obtain ⟨t, ht⟩ : ∃ t : ByteArray, t = ⟨(Lib.trimLeftB (bl b) 32).toArray⟩ := ⟨_, rfl⟩
  have htb : bl t = Lib.trimLeftB (bl b) 32 := by rw [ht]; rfl
  have htz : t.size ≤ b.size := by rw [← bl_size, ← bl_size, htb]; exact (List.dropWhile_sublist _).length_le
  have HT := hide (fun w => trimlW_any b w)
  rw [← ht] at HT
  have HB := hide htb
  have HA := hide h
  have c0 := h.c0
  have c1 := h.c1
  have f0 := h.frz 0
  have f1 := h.frz 1
  clear ht htb h
  by_cases hi : Lib.indexByte (bl t) 32 = -1
  · have HS : Hid (StW (bl t) [] (wdL (bl b))) := by
      have := StW.of_none (l := bl b) (by rw [index_byte, ← unhide HB]; exact hi)
      rw [← unhide HB] at this; exact this
    have HI := hide hi
    clear hi
    go_enter Tryz.func161, Tryz.ntmps161
    go_wp2_with fail
    refine (unhide HT _).mono ?_
    rintro e w2 ⟨rfl, rfl⟩
    go_wp2_with fail
    refine (str_ib t 32 _).mono ?_
    rintro e w2 ⟨rfl, rfl⟩
    rw [show Lib.indexByte t.data.toList (32 : Int).toNat.toUInt8 = -1 from unhide HI]
    go_wp2_with fail
    go_region
    go_end0
    exact ⟨rfl, ⟨t, ByteArray.empty, ((HA.out.set0 t).set1 ByteArray.empty).drew, HS.out, htz, by show 0 ≤ _; omega⟩, (((But.refl g w2).set 0 _).set 1 _).drew⟩
  · have hge := Lib.indexByte_ge (bl t) 32
    obtain ⟨i, hin⟩ : ∃ i : Nat, Lib.indexByte (bl t) 32 = i := ⟨(Lib.indexByte (bl t) 32).toNat, by omega⟩
    have HS : Hid (StW (bl (t.extract 0 i)) (bl (t.extract i t.size)) (wdL (bl b))) := by
      have := StW.of_some (l := bl b) (i := i) (by rw [index_byte, ← unhide HB]; exact hin)
      rw [← unhide HB] at this
      show StW _ _ _
      rw [ext_front, ext_end]; exact this
    have hit : i ≤ t.size := by
      have := (next_some (l := bl b) (i := i) (by rw [index_byte, ← unhide HB]; exact hin)).1
      rw [← unhide HB, bl_size] at this; omega
    have z1 : (t.extract 0 i).size ≤ b.size := Nat.le_trans (ext_le _ _ _) htz
    have z2 : (t.extract i t.size).size ≤ b.size := Nat.le_trans (ext_le _ _ _) htz
    have Z1 := hide z1
    have Z2 := hide z2
    have HI := hide hin
    clear hi hge hin z1 z2
    go_enter Tryz.func161, Tryz.ntmps161
    go_wp2_with fail
    refine (unhide HT _).mono ?_
    rintro e w2 ⟨rfl, rfl⟩
    go_wp2_with fail
    refine (str_ib t 32 _).mono ?_
    rintro e w2 ⟨rfl, rfl⟩
    rw [show Lib.indexByte t.data.toList (32 : Int).toNat.toUInt8 = i from unhide HI]
    go_wp2_with fail
    go_region
    go_end0
    exact ⟨rfl, ⟨t.extract 0 i, t.extract i t.size, ((HA.out.set0 _).set1 _).drew, HS.out, unhide Z1, unhide Z2⟩, (((But.refl g w2).set 0 _).set 1 _).drew⟩

/-- What is left goes on to the next word. -/
theorem next_lf (g n : Nat) (ws : Ws) (w : World) (h : Lf w g n ws) (hn : n ≤ 1152921504606846976) :
    Calls Tryz.prog 161 #[.pointer (some ⟨g, 0, none⟩)] w fun e w' => e = .returned (.tuple #[]) ∧ Lf w' g n ws.tail ∧ But g w w' := by
  obtain ⟨a, b, h1, h2, h3, h4⟩ := h
  refine (next_any g a b w h1 (by omega)).mono ?_
  rintro e w' ⟨rfl, ⟨x, y, k1, k2, k3, k4⟩, k5⟩
  rw [h2.2.1] at k2
  exact ⟨rfl, ⟨x, y, k1, k2, by omega, by omega⟩, k5⟩

set_option maxHeartbeats 2000000 in
theorem over_any (g n : Nat) (ws : Ws) (w : World) (h : Lf w g n ws) :
    Calls Tryz.prog 142 #[.pointer (some ⟨g, 0, none⟩)] w fun e w' => e = .returned (.bool ws.isEmpty) ∧ w' = w := by
  obtain ⟨a, b, h1, h2, h3, h4⟩ := h
  have c0 := h1.c0
  have HN := hide h2.of_nil
  clear h1 h2 h3 h4
  cases hw : ws.isEmpty
  · have ha : bl a ≠ [] := by rw [Ne, unhide HN]; intro e; rw [e] at hw; cases hw
    have e1 : a.toList.isEmpty = false := by rw [bl_toList]; cases hx : bl a with
      | nil => exact absurd hx ha
      | cons x y => rfl
    have e2 : (a.toList == []) = false := by rw [bl_toList]; exact beq_eq_false_iff_ne.2 ha
    clear ha hw HN
    go_enter Tryz.func142, Tryz.ntmps142
    go_wp2_with fail
    go_ret
    exact ⟨rfl, rfl⟩
  · have ha : bl a = [] := by rw [unhide HN]; exact List.isEmpty_iff.1 hw
    have ha' : a = ⟨#[]⟩ := of_bl ha
    subst ha'
    clear ha hw HN
    go_enter Tryz.func142, Tryz.ntmps142
    go_wp2_with fail
    go_ret
    exact ⟨rfl, rfl⟩

set_option maxHeartbeats 2000000 in
theorem sign_yes (g n : Nat) (ws : Ws) (x : ByteArray) (w : World) (h : Lf w g n ws) (hn : n ≤ 1152921504606846976) (hx : ws.head? = some (bl x)) :
    Calls Tryz.prog 139 #[.pointer (some ⟨g, 0, none⟩), .string x] w fun e w' => e = .returned (.bool true) ∧ Lf w' g n ws.tail ∧ But g w w' := by
  have H := hide h
  obtain ⟨a, b, h1, h2, h3, h4⟩ := h
  have c0 := h1.c0
  have ha : a = x := by
    have e : bl a = bl x := by
      rw [h2.1]; cases ws with
      | nil => cases hx
      | cons y r => simpa using hx
    rw [of_bl e, mk_blW]
  subst ha
  clear h1 h2 h3 h4 hx
  go_enter Tryz.func139, Tryz.ntmps139
  go_wp2_with fail
  refine (next_lf g n ws w (unhide H) hn).mono ?_
  rintro e w2 ⟨rfl, hl, hb⟩
  have HL := hide hl
  clear hl
  go_wp2_with fail
  go_ret
  exact ⟨rfl, unhide HL, hb⟩

set_option maxHeartbeats 2000000 in
theorem sign_no (g n : Nat) (ws : Ws) (x : ByteArray) (w : World) (h : Lf w g n ws) (hx0 : bl x ≠ []) (hx : ws.head? ≠ some (bl x)) :
    Calls Tryz.prog 139 #[.pointer (some ⟨g, 0, none⟩), .string x] w fun e w' => e = .returned (.bool false) ∧ w' = w := by
  obtain ⟨a, b, h1, h2, h3, h4⟩ := h
  have c0 := h1.c0
  have hne : bl a ≠ bl x := by rw [Ne, h2.is _ hx0]; exact hx
  have e1 : (a.toList == x.toList) = false := by rw [bl_toList, bl_toList]; exact beq_eq_false_iff_ne.2 hne
  have e2 : (a.toList != x.toList) = true := by unfold bne; rw [e1]; rfl
  clear h1 h2 h3 h4 hx hx0 hne
  go_enter Tryz.func139, Tryz.ntmps139
  go_wp2_with fail
  go_ret
  exact ⟨rfl, rfl⟩

set_option maxHeartbeats 2000000 in
theorem name_no (g n : Nat) (ws : Ws) (w : World) (h : Lf w g n ws) (hn : n ≤ 1152921504606846976) (hx : okN (ws.headD []) = false) :
    Calls Tryz.prog 140 #[.pointer (some ⟨g, 0, none⟩)] w fun e w' => e = .returned (.tuple #[.string ⟨#[]⟩, .bool false]) ∧ Q w w' := by
  obtain ⟨a, b, h1, h2, h3, h4⟩ := h
  have c0 := h1.c0
  have HM : Hid (mayB a = false) := by show _ = _; rw [may_okN, h2.1]; exact hx
  clear h1 h2 h4 hx
  go_enter Tryz.func140, Tryz.ntmps140
  go_wp2_with fail
  refine (may_any a _ (by unfold maxLen; omega)).mono ?_
  rintro e w2 ⟨rfl, hq⟩
  rw [HM.out]
  go_wp2_with fail
  go_ret2
  exact ⟨rfl, hq⟩

theorem Lf.q {w w' : World} {g n : Nat} {ws : Ws} (h : Lf w g n ws) (hq : Q w w') : Lf w' g n ws := by
  obtain ⟨a, b, h1, h2, h3, h4⟩ := h
  exact ⟨a, b, h1.q hq, h2, h3, h4⟩

set_option maxHeartbeats 2000000 in
theorem name_yes (g n : Nat) (ws : Ws) (w : World) (h : Lf w g n ws) (hn : n ≤ 1152921504606846976) (hx : okN (ws.headD []) = true) :
    Calls Tryz.prog 140 #[.pointer (some ⟨g, 0, none⟩)] w fun e w' => e = .returned (.tuple #[.string ⟨(ws.headD []).toArray⟩, .bool true]) ∧ Lf w' g n ws.tail ∧ But g w w' := by
  have H := hide h
  obtain ⟨a, b, h1, h2, h3, h4⟩ := h
  have c0 := h1.c0
  have HA := hide h1
  have HM : Hid (mayB a = true) := by show _ = _; rw [may_okN, h2.1]; exact hx
  have HE : Hid ((⟨(ws.headD []).toArray⟩ : ByteArray) = a) := by show _ = _; rw [← h2.1, mk_blW]
  have ha16 : a.size ≤ 16 := by rw [← bl_size, h2.1]; exact (okN_len hx).2.1
  clear h1 h2 h4 hx
  go_enter Tryz.func140, Tryz.ntmps140
  go_wp2_with fail
  refine (may_any a _ (by unfold maxLen; omega)).mono ?_
  rintro e w2 ⟨rfl, hq⟩
  rw [HM.out]
  have c2 : w2.cell? ⟨g, 0, none⟩ = some (.string a) := ((unhide HA).q hq).c0
  go_wp2_with fail
  refine (cloneW_any a _ (by omega)).mono ?_
  rintro e w3 ⟨rfl, hq3⟩
  go_wp2_with fail
  refine (next_lf g n ws w3 (((unhide H).q hq).q hq3) hn).mono ?_
  rintro e w4 ⟨rfl, hl, hb⟩
  have HL := hide hl
  clear hl
  go_wp2_with fail
  go_ret2
  rw [HE.out]
  exact ⟨rfl, unhide HL, (But.of_q (hq.trans hq3)).trans hb⟩

set_option maxHeartbeats 2000000 in
theorem rowOf_any (s : ByteArray) (w : World) (hs : s.size ≤ 1152921504606846976) :
    Calls Tryz.prog 137 #[.string s] w fun e w' => e = .returned (.pointer (some ⟨w.heap.size, 0, none⟩)) ∧ Lf w' w.heap.size s.size (wdL (bl s)) ∧ Q w w' ∧ w.heap.size < w'.heap.size := by
  have HA : ∀ t, Hid (AtW (w.alloc (.cells #[.string ⟨#[]⟩, .string s] t)) w.heap.size ⟨#[]⟩ s) := fun t => ⟨by simp, by simp, by simp, fun r => by simp⟩
  go_enter Tryz.func137, Tryz.ntmps137
  go_wp2_with fail
  refine (next_any w.heap.size ⟨#[]⟩ s _ (HA _).out hs).mono ?_
  rintro e w2 ⟨rfl, ⟨x, y, k1, k2, k3, k4⟩, k5⟩
  have HL : Hid (Lf w2 w.heap.size s.size (wdL (bl s))) := ⟨x, y, k1, k2, k3, k4⟩
  have hq : Q w w2 := k5.new
  have hlt : w.heap.size < w2.heap.size := k1.hi
  clear k1 k2 k3 k4 k5 HA
  go_wp2_with fail
  go_ret
  exact ⟨rfl, HL.out, hq, hlt⟩

end Go.Proofs.YtpddckgkaopnlaaGreatDoor

/- What package manifest's small functions answer, and the library's Cut at a sign; the conditions: the lengths. -/
namespace Go.Proofs.YtpddckgkaopnlaaGreatDoor
open Go.RowKit

theorem slIndex_any (s : ByteArray) (d : UInt8) (w : World) :
    Calls Tryz.prog 103 #[.string s, .string ⟨#[d]⟩] w fun e w' => e = .returned (.int .i64 (Lib.indexByte (bl s) d)) ∧ w' = w :=
  Any.stringslite_Index_one Tryz.lays219 s d w

/-- What Cut answers. -/
def cutT (l : Tx) (d : UInt8) : Tx × Tx × Bool := match ctL d l with | some x => (x.1, x.2, true) | none => (l, [], false)

set_option maxHeartbeats 2000000 in
theorem slCut_any (s : ByteArray) (d : UInt8) (w : World) (hs : s.size ≤ maxLen) :
    Calls Tryz.prog 63 #[.string s, .string ⟨#[d]⟩] w fun e w' => ∃ x y : ByteArray, e = .returned (.tuple #[.string x, .string y, .bool (cutT (bl s) d).2.2]) ∧ bl x = (cutT (bl s) d).1 ∧ bl y = (cutT (bl s) d).2.1 ∧ x.size ≤ s.size ∧ y.size ≤ s.size ∧ Q w w' := by
  unfold maxLen at hs
  have hC := hide (slIndex_any s d w)
  by_cases hi : Lib.indexByte (bl s) d = -1
  · have HK : Hid (cutT (bl s) d = (bl s, [], false)) := by show _ = _; unfold cutT; rw [ctL_none hi]
    rw [hi] at hC
    clear hi
    go_enter Tryz.func63, Tryz.ntmps63
    go_wp2_with fail
    refine (unhide hC).mono ?_
    rintro e w2 ⟨rfl, rfl⟩
    go_wp2_with fail
    go_ret3
    rw [HK.out]
    exact ⟨s, ⟨#[]⟩, rfl, rfl, rfl, Nat.le_refl _, by show 0 ≤ _; omega, Q.refl _⟩
  · have hge := Lib.indexByte_ge (bl s) d
    obtain ⟨i, hin⟩ : ∃ i : Nat, Lib.indexByte (bl s) d = i := ⟨(Lib.indexByte (bl s) d).toNat, by omega⟩
    obtain ⟨hc, hlt⟩ := ctL_some hin
    have HK : Hid (cutT (bl s) d = ((bl s).take i, (bl s).drop (i + 1), true)) := by show _ = _; unfold cutT; rw [hc]
    rw [bl_size] at hlt
    rw [hin] at hC
    have c0 : (i : Int) + 1 ≤ s.size := by omega
    have c1 : (0 : Int) ≤ (i : Int) + 1 := by omega
    have c2 : (i : Int) ≤ s.size := by omega
    have c3 : ((i : Int) + 1).toNat = i + 1 := by omega
    clear hi hge hin hc
    go_enter Tryz.func63, Tryz.ntmps63
    go_wp2_with fail
    refine (unhide hC).mono ?_
    rintro e w2 ⟨rfl, rfl⟩
    go_wp2_with fail
    go_region
    go_wp2_with fail
    go_ret3
    rw [HK.out]
    refine ⟨s.extract 0 i, s.extract (i + 1) s.size, rfl, ext_front _ _, ext_end _ _, ext_le _ _ _, ext_le _ _ _, (Q.refl _).drew⟩

set_option maxHeartbeats 2000000 in
theorem cut1_any (s : ByteArray) (d : UInt8) (w : World) (hs : s.size ≤ maxLen) :
    Calls Tryz.prog 31 #[.string s, .string ⟨#[d]⟩] w fun e w' => ∃ x y : ByteArray, e = .returned (.tuple #[.string x, .string y, .bool (cutT (bl s) d).2.2]) ∧ bl x = (cutT (bl s) d).1 ∧ bl y = (cutT (bl s) d).2.1 ∧ x.size ≤ s.size ∧ y.size ≤ s.size ∧ Q w w' := by
  have hC := hide (slCut_any s d w hs)
  generalize cutT (bl s) d = z at hC ⊢
  go_enter Tryz.func31, Tryz.ntmps31
  go_wp2_with fail
  refine (unhide hC).mono ?_
  rintro e w2 ⟨x, y, rfl, hx, hy, hxs, hys, q⟩
  have HX := hide hx
  have HY := hide hy
  clear hx hy
  go_wp2_with fail
  go_ret3
  exact ⟨x, y, rfl, unhide HX, unhide HY, hxs, hys, q⟩

end Go.Proofs.YtpddckgkaopnlaaGreatDoor

/- What package path's keep answers: the pieces that stay, from the left, or that two points have none to take away; the condition: the pieces lie in memory that stands, and are no more than a thousand. -/
namespace Go.Proofs.YtpddckgkaopnlaaGreatDoor
open Go.RowKit

theorem kst_empty {ks : List (List UInt8)} {x : ByteArray} (h : x.toList.isEmpty = true) : kst ks (bl x) = some ks := by
  rw [bl_toList] at h; unfold kst; rw [if_pos (Or.inl (List.isEmpty_iff.1 h))]
theorem kst_dot {ks : List (List UInt8)} {x : ByteArray} (h : (x.toList == [46]) = true) : kst ks (bl x) = some ks := by
  rw [bl_toList] at h; unfold kst; rw [if_pos (Or.inr (beq_iff_eq.1 h))]
theorem kst_dots_none {x : ByteArray} (h : (x.toList == [46, 46]) = true) : kst [] (bl x) = none := by
  rw [bl_toList] at h; unfold kst; rw [beq_iff_eq.1 h]; simp
theorem kst_dots {ks : List (List UInt8)} {x : ByteArray} (h : (x.toList == [46, 46]) = true) (hk : ks ≠ []) : kst ks (bl x) = some ks.dropLast := by
  rw [bl_toList] at h; unfold kst; rw [beq_iff_eq.1 h]; simp [hk]
theorem kst_other {ks : List (List UInt8)} {x : ByteArray} (h : x.toList.isEmpty = false) (h1 : (x.toList == [46]) = false) (h2 : (x.toList == [46, 46]) = false) : kst ks (bl x) = some (ks ++ [bl x]) := by
  rw [bl_toList] at h h1 h2; unfold kst
  rw [if_neg (by rintro (e | e); rw [e] at h; cases h; rw [e] at h1; simp at h1), if_neg (by intro e; rw [e] at h2; simp at h2)]

theorem take_map_snoc (xs : List ByteArray) (k : Nat) (x : ByteArray) (h : xs[k]? = some x) : (xs.take (k + 1)).map bl = (xs.take k).map bl ++ [bl x] := by
  rw [List.take_add_one, h]; simp
theorem map_parts (xs : List ByteArray) (k : Nat) (x : ByteArray) (h : xs[k]? = some x) : xs.map bl = (xs.take k).map bl ++ bl x :: (xs.drop (k + 1)).map bl := by
  have hl : k < xs.length := by
    rcases Nat.lt_or_ge k xs.length with h' | h'
    · exact h'
    · rw [List.getElem?_eq_none h'] at h; cases h
  rw [← List.map_cons, ← List.map_append]
  congr 1
  conv => lhs; rw [← List.take_append_drop k xs]
  rw [List.drop_eq_getElem_cons hl]
  rw [List.getElem?_eq_getElem hl] at h
  cases h; rfl

theorem own_pop {w : World} {B : Nat} {ao : Option Addr} {cap : Nat} {ys : List ByteArray} (hy : ys ≠ []) (h : w.ownsRow B 9 1 (.slice ao ys.length cap) ys.length (ys.map Value.string)) :
    w.ownsRow B 9 1 (.slice ao (ys.length - 1) cap) ys.dropLast.length (ys.dropLast.map Value.string) := by
  obtain ⟨h1, h2⟩ := h
  have hl : 0 < ys.length := List.length_pos_iff.2 hy
  rcases h2 with ⟨_, h2⟩ | ⟨g, cap', cur, e, hb, hh, hn, hm, hs, ht⟩
  · omega
  · cases e
    refine ⟨by simp, Or.inr ⟨g, cap, cur, by simp, hb, hh, by simp; omega, hm, hs, ?_⟩⟩
    have e2 : (ys.map Value.string).take (ys.length - 1) = ys.dropLast.map Value.string := by
      rw [← List.map_take, List.dropLast_eq_take]
    rw [← e2, ← ht, List.take_take]
    simp

set_option maxHeartbeats 2000000 in
theorem keep_any (bk c : Nat) (xs : List ByteArray) (w : World) (hbk : bk < w.heap.size) (hn : xs.length ≤ 1000)
    (hcells : ∀ (j : Nat) x, xs[j]? = some x → w.cell? ⟨bk, j, none⟩ = some (.string x)) :
    Calls Tryz.prog 151 #[.slice (some ⟨bk, 0, none⟩) xs.length c] w fun e w' =>
      (kf [] (xs.map bl) = none ∧ e = .returned (.tuple #[.slice none 0 0, .bool false]) ∧ Q w w') ∨
      (∃ (ys : List ByteArray) (ao : Option Addr) (cap : Nat), kf [] (xs.map bl) = some (ys.map bl) ∧ e = .returned (.tuple #[.slice ao ys.length cap, .bool true]) ∧ ys.length ≤ 1000 ∧
        w'.ownsRow w.heap.size 9 1 (.slice ao ys.length cap) ys.length (ys.map Value.string) ∧ Q w w') := by
  obtain ⟨i0, hi, hz0, hz1, hz2⟩ := info_parts Tryz.infoS
  go_enter Tryz.func151, Tryz.ntmps151
  go_wp2
  go_loopw [4, 9] (fun v i wr => ∃ (k : Nat) (ys : List ByteArray) (ao : Option Addr) (cap : Nat), k ≤ xs.length ∧ i = .int .i64 k ∧ v = .slice ao ys.length cap ∧ ys.length ≤ k ∧
      Hid (kf [] ((xs.take k).map bl) = some (ys.map bl)) ∧ wr.ownsRow w.heap.size 9 1 (.slice ao ys.length cap) ys.length (ys.map Value.string) ∧ Q w wr)
    (fun _ i _ => xs.length - (intOf i).toNat)
  case atStart => exact ⟨0, [], none, 0, Nat.zero_le _, rfl, rfl, by simp, rfl, World.ownsRow_nil _ _ _ _, Q.refl _⟩
  case round =>
    obtain ⟨k, ys, ao, cap, hk, rfl, rfl, hyk, HK, hown, hq⟩ := hrel
    have hyc := own_cap hown
    by_cases hlt : k < xs.length
    · obtain ⟨x, hx⟩ : ∃ x, xs[k]? = some x := ⟨xs[k], List.getElem?_eq_getElem hlt⟩
      have hc : wr.cell? ⟨bk, k, none⟩ = some (.string x) := (hq.cell (p := ⟨bk, k, none⟩) hbk).trans (hcells k x hx)
      have HS := hide (take_map_snoc xs k x hx)
      have HP := hide (map_parts xs k x hx)
      clear hx hcells
      by_cases c1 : x.toList.isEmpty = true
      · have HN : Hid (kf [] ((xs.take (k + 1)).map bl) = some (ys.map bl)) := by
          show _ = _; rw [unhide HS]; exact kf_snoc HK.out (kst_empty c1)
        go_wp2_with fail
        go_roundw
        case rel => exact ⟨k + 1, ys, ao, cap, by omega, by go_num, rfl, by omega, HN, hown, hq⟩
        case measure => simp [intOf]; omega
      have c1 : x.toList.isEmpty = false := by simpa using c1
      by_cases c2 : (x.toList == [46]) = true
      · have HN : Hid (kf [] ((xs.take (k + 1)).map bl) = some (ys.map bl)) := by
          show _ = _; rw [unhide HS]; exact kf_snoc HK.out (kst_dot c2)
        go_wp2_with fail
        go_roundw
        case rel => exact ⟨k + 1, ys, ao, cap, by omega, by go_num, rfl, by omega, HN, hown, hq⟩
        case measure => simp [intOf]; omega
      have c2 : (x.toList == [46]) = false := by simpa using c2
      by_cases c3 : (x.toList == [46, 46]) = true
      · by_cases hy : ys = []
        · subst hy
          have HN : Hid (kf [] (xs.map bl) = none) := by
            show _ = _; rw [unhide HP]; exact kf_fail HK.out (kst_dots_none c3)
          go_wp2_with fail
          go_ret2
          exact Or.inl ⟨HN.out, rfl, hq⟩
        · have HN : Hid (kf [] ((xs.take (k + 1)).map bl) = some (ys.dropLast.map bl)) := by
            show _ = _; rw [unhide HS]
            have := kf_snoc HK.out (kst_dots c3 (ks := ys.map bl) (by simpa using hy))
            rw [this, List.map_dropLast]
          have hown' := hide (own_pop hy hown)
          have hl : 1 ≤ ys.length := List.length_pos_iff.2 hy
          have hl0 : ((ys.length : Int) == 0) = false := beq_eq_false_iff_ne.2 (by omega)
          clear hown
          go_wp2_with fail
          go_roundw
          case rel => exact ⟨k + 1, ys.dropLast, ao, cap, by omega, by go_num, by simp, by simp; omega, HN, by have := unhide hown'; simpa using this, hq⟩
          case measure => simp [intOf]; omega
      have c3 : (x.toList == [46, 46]) = false := by simpa using c3
      have HN : Hid (kf [] ((xs.take (k + 1)).map bl) = some ((ys ++ [x]).map bl)) := by
        show _ = _; rw [unhide HS]
        have := kf_snoc HK.out (kst_other c1 c2 c3)
        rw [this]; simp
      go_wp2_with (at_builtin; refine wpList_append_lies _ rfl _ _ 24 rfl w.heap.size 9 i0 (.string ByteArray.empty) 1 16 Tryz.underlying24 hi hz0 hz1 hz2 rfl (by decide) _ _ _ rfl (hown.alloc _) ⟨wr.heap.size, 0, none⟩ 1 1 [.string x] rfl rfl ?c1 ?c2 (by decide) ?c3 ?c4 ?c5 (wr.heap.size + 1) (by simp) ?_)
      case c1 =>
        intro j u hj
        match j, hj with
        | 0, hj => simp at hj; subst hj; simp [Addr.add]
      case c2 => intro u hu; simp at hu; subst hu; rfl
      case c3 => unfold maxLen; omega
      case c4 => omega
      case c5 => have := hq.size; simp; omega
      intro g cp w1 hown1 hgrow hor hglt
      have hq1 : Q w w1 := Below.grown (hq.alloc _) hgrow (by have := hq.size; simp; omega) (fun r hr => (hown.lt r hr).1)
      have HO := hide hown1
      clear hown1 hgrow hown hor
      go_wp2
      go_roundw
      case rel => exact ⟨k + 1, ys ++ [x], some ⟨g, 0, none⟩, cp, by omega, by go_num, by simp, by simp; omega, HN, by have := unhide HO; simpa using this, hq1⟩
      case measure => simp [intOf]; omega
    · have HF : Hid (kf [] (xs.map bl) = some (ys.map bl)) := by
        have := HK.out
        rw [List.take_of_length_le (by omega)] at this
        exact this
      go_wp2
      go_ret2
      exact Or.inr ⟨ys, ao, cap, HF.out, rfl, by omega, hown, hq⟩

end Go.Proofs.YtpddckgkaopnlaaGreatDoor

/- What package path's Clean answers, for every text: the path that the name stands for, or that there is none; no conditions but that the text is no longer than a string can be. -/
namespace Go.Proofs.YtpddckgkaopnlaaGreatDoor
open Go.RowKit

theorem indexB_slash (x : ByteArray) : Lib.indexB x ⟨#[47]⟩ = Lib.indexByte x.data.toList 47 := Lib.index_one _ _
theorem countB_slash (x : ByteArray) : Lib.countB x ⟨#[47]⟩ = Lib.countByte x.data.toList 47 := Lib.count_one _ _

theorem gsplit_slash (s : ByteArray) (w : World) (hs : s.size < 4294967281) :
    Calls Tryz.prog 59 #[.string s, .string ⟨#[47]⟩, .int .i64 0, .int .i64 (-1)] w fun e w' =>
      ∃ xs : List ByteArray, xs.map bl = sp (bl s) ∧ xs.length ≤ s.size + 1 ∧ e = .returned (.slice (some ⟨w.heap.size, 0, none⟩) xs.length xs.length) ∧ w' = w.alloc (.cells (xs.map Value.string).toArray 9) := by
  have hle := Lib.countB_le ⟨#[47]⟩ (by decide) s.size s (Nat.le_refl _)
  have hlen := Lib.splitB_all ⟨#[47]⟩ (by decide) 0 _ s rfl
  have c := Any.strings_genSplit_core Tryz.lays221 Tryz.infoS s ⟨#[47]⟩ 0 (-1) (Lib.countB s ⟨#[47]⟩ + 1) w hs (by decide) (by decide)
    (fun x c hx => (Any.strings_Index_one Tryz.lays143 x 47 _).mono fun e w' h => by rw [indexB_slash]; exact h)
    ((Any.strings_Count_one Tryz.lays138 s 47 w).mono fun e w' h => by rw [countB_slash]; exact h) (by decide) (by decide) (by rw [if_pos (by decide)]; omega)
  rw [Nat.add_sub_cancel, hlen] at c
  have e2 : Lib.cellsOf (Lib.splitB ⟨#[47]⟩ 0 (Lib.countB s ⟨#[47]⟩) s) (Lib.countB s ⟨#[47]⟩ + 1) = ((Lib.splitB ⟨#[47]⟩ 0 (Lib.countB s ⟨#[47]⟩) s).map Value.string).toArray := by rw [← hlen]; exact Lib.cellsOf_full _
  rw [e2] at c
  refine Calls.mono c ?_
  rintro e w' ⟨rfl, rfl⟩
  refine ⟨_, splitB_sp s, by rw [hlen]; omega, ?_, rfl⟩
  rw [hlen]

theorem split_slash (s : ByteArray) (w : World) (hs : s.size < 4294967281) :
    Calls Tryz.prog 25 #[.string s, .string ⟨#[47]⟩] w fun e w' =>
      ∃ xs : List ByteArray, xs.map bl = sp (bl s) ∧ xs.length ≤ s.size + 1 ∧ e = .returned (.slice (some ⟨w.heap.size, 0, none⟩) xs.length xs.length) ∧ w' = w.alloc (.cells (xs.map Value.string).toArray 9) := by
  go_enter Tryz.func25, Tryz.ntmps25
  go_wp2_with fail
  refine (gsplit_slash s _ hs).mono ?_
  rintro e w' ⟨xs, h1, h2, rfl, rfl⟩
  have H1 := hide h1
  clear h1
  go_wp2
  go_ret
  exact ⟨xs, unhide H1, h2, rfl, rfl⟩

theorem cloneP_any (s : ByteArray) (w : World) (hs : s.size ≤ 281474976710656) :
    Calls Tryz.prog 113 #[.string s] w fun e w' => e = .returned (.string s) ∧ Q w w' := by
  have c : Calls Tryz.prog 143 #[.string s] w fun e w' => e = .returned (.string s) ∧ Below w.heap.size w w' := Any.stringslite_Clone Tryz.laysM316 s w hs
  have C := hide c
  clear c
  go_enter Tryz.func113, Tryz.ntmps113
  go_wp2_with fail
  refine (unhide C).mono ?_
  rintro e w' ⟨rfl, q⟩
  go_wp2
  go_ret
  exact ⟨rfl, q⟩

theorem join_slash (g o c : Nat) (xs : List ByteArray) (w : World) (hcells : ∀ (j : Nat) x, xs[j]? = some x → w.cell? ⟨g, o + j, none⟩ = some (.string x)) (hg : g < w.heap.size) (hN : xs.length ≤ 1000) (hcap : xs.length ≤ c)
    (hlen : (Lib.join (xs.map bl) [47]).length ≤ 1000) :
    Calls Tryz.prog 117 #[.slice (some ⟨g, o, none⟩) xs.length c, .string ⟨#[47]⟩] w fun e w' => e = .returned (.string ⟨(Lib.join (xs.map bl) [47]).toArray⟩) ∧ Q w w' :=
  Any.strings_Join Tryz.lays156 Tryz.Builder_Extra_156 g o c xs ⟨#[47]⟩ w hcells hg (by omega) hcap (Nat.le_trans hlen (by decide))

theorem clean_no1 {l : List UInt8} (h : mayL l = false) : cstr l = [] ∧ cerr l = 200 := by
  have e : cleanL l = none := by unfold cleanL; rw [if_neg (by rw [h]; simp)]
  unfold cstr cerr; rw [e]; exact ⟨rfl, rfl⟩
theorem clean_no2 {l : List UInt8} (h : l.head? = some 47) : cstr l = [] ∧ cerr l = 200 := by
  have e : cleanL l = none := by unfold cleanL; rw [if_neg (by rw [h]; simp)]
  unfold cstr cerr; rw [e]; exact ⟨rfl, rfl⟩
theorem clean_no3 {l : List UInt8} (h : kf [] (sp l) = none) : cstr l = [] ∧ cerr l = 200 := by
  have e : cleanL l = none := by unfold cleanL; rw [h]; simp
  unfold cstr cerr; rw [e]; exact ⟨rfl, rfl⟩
theorem clean_no4 {l : List UInt8} (h : kf [] (sp l) = some []) : cstr l = [] ∧ cerr l = 200 := by
  have e : cleanL l = none := by unfold cleanL; rw [h]; simp
  unfold cstr cerr; rw [e]; exact ⟨rfl, rfl⟩
theorem clean_yes {l : List UInt8} {ks : List (List UInt8)} (hm : mayL l = true) (hh : l.head? ≠ some 47) (h : kf [] (sp l) = some ks) (h0 : ks ≠ []) :
    cstr l = Lib.join ks [47] ∧ cerr l = 0 ∧ cleanL l = some (Lib.join ks [47]) := by
  have e : cleanL l = some (Lib.join ks [47]) := by
    unfold cleanL; rw [if_pos ⟨hm, hh⟩, h]
    cases ks with
    | nil => exact absurd rfl h0
    | cons p ps => rfl
  unfold cstr cerr; rw [e]; exact ⟨rfl, rfl, rfl⟩

theorem ret_clean {l a : List UInt8} {n : Int} (h : cstr l = a ∧ cerr l = n) : Ending.returned (.tuple #[.string ⟨a.toArray⟩, .int .i64 n]) = .returned (.tuple #[.string ⟨(cstr l).toArray⟩, .int .i64 (cerr l)]) := by
  rw [h.1, h.2]

theorem cells_block (w : World) (xs : List ByteArray) (t : TypeId) : ∀ (j : Nat) x, xs[j]? = some x → (w.alloc (.cells (xs.map Value.string).toArray t)).cell? ⟨w.heap.size, j, none⟩ = some (.string x) := by
  intro j x hx
  have e : (w.alloc (.cells (xs.map Value.string).toArray t)).heap[w.heap.size]? = some (.cells (xs.map Value.string).toArray t) := heap_alloc_new _ _
  simp only [World.cell?]
  rw [e]
  simp [hx]

theorem head_byte (s : ByteArray) (h : 0 < s.size) : (bl s).head? = some s[0] := by
  have := bl_getElem s 0 h
  rw [← List.head?_eq_getElem?] at this
  exact this

set_option maxHeartbeats 2000000 in
theorem clean_any (s : ByteArray) (w : World) (hs : s.size ≤ maxLen) :
    Calls Tryz.prog 118 #[.string s] w fun e w' => e = .returned (.tuple #[.string ⟨(cstr (bl s)).toArray⟩, .int .i64 (cerr (bl s))]) ∧ Q w w' := by
  have hmb := mayB_mayL s
  have hs' := hs
  unfold maxLen at hs'
  cases hm : mayB s
  · have HF := hide (clean_no1 (l := bl s) (by rw [hm] at hmb; exact hmb.symm))
    clear hmb
    go_enter Tryz.func118, Tryz.ntmps118
    go_wp2_with fail
    refine (may_any s _ hs).mono ?_
    rintro e w1 ⟨rfl, q1⟩
    rw [hm]
    go_wp2_with fail
    go_ret2
    exact ⟨ret_clean (unhide HF), q1⟩
  have hml : mayL (bl s) = true := by rw [hm] at hmb; exact hmb.symm
  have hsz : 1 ≤ s.size ∧ s.size ≤ 16 := by
    unfold mayB at hm; simp at hm; omega
  obtain ⟨hsz1, hsz2⟩ := hsz
  have hh := head_byte s (by omega)
  have HM := hide hm
  have HML := hide hml
  clear hmb hm hml
  by_cases h0 : s[0] = 47
  · have HF := hide (clean_no2 (l := bl s) (by rw [hh, h0]))
    have h0' : ((s[0].toNat : Int) == 47) = true := by rw [h0]; rfl
    clear hh h0
    go_enter Tryz.func118, Tryz.ntmps118
    go_wp2_with fail
    refine (may_any s _ hs).mono ?_
    rintro e w1 ⟨rfl, q1⟩
    rw [unhide HM]
    go_wp2_with fail
    go_ret2
    exact ⟨ret_clean (unhide HF), q1⟩
  have h0' : ((s[0].toNat : Int) == 47) = false := beq_eq_false_iff_ne.2 (fun e => h0 (UInt8.toNat_inj.1 (by simpa using (by omega : s[0].toNat = 47))))
  have HH : Hid ((bl s).head? ≠ some 47) := by show _ ≠ _; rw [hh]; simpa using h0
  clear hh h0
  go_enter Tryz.func118, Tryz.ntmps118
  go_wp2_with fail
  refine (may_any s _ hs).mono ?_
  rintro e w1 ⟨rfl, q1⟩
  rw [unhide HM]
  go_wp2_with fail
  refine (split_slash s _ (by omega)).mono ?_
  rintro e w2 ⟨xs, hx1, hx2, rfl, rfl⟩
  have HX := hide hx1
  clear hx1
  go_wp2_with fail
  refine (keep_any w1.heap.size xs.length xs _ (by simp) (by omega) (cells_block w1 xs 9)).mono ?_
  have q2 : Q w (w1.alloc (.cells (xs.map Value.string).toArray 9)) := q1.alloc _
  rintro e w3 (⟨hk, rfl, q3⟩ | ⟨ys, ao, cap, hk, rfl, hyl, hown, q3⟩)
  · have HF := hide (clean_no3 (l := bl s) (by rw [← unhide HX]; exact hk))
    have q4 := q2.trans q3
    clear hk q3 q2 q1
    go_wp2_with fail
    go_ret2
    exact ⟨ret_clean (unhide HF), q4⟩
  have q4 := q2.trans q3
  rw [unhide HX] at hk
  by_cases hy : ys = []
  · subst hy
    have HF := hide (clean_no4 hk)
    clear hk q3 q2 q1 hown
    go_wp2_with fail
    go_ret2
    exact ⟨ret_clean (unhide HF), q4⟩
  have hl1 : 1 ≤ ys.length := List.length_pos_iff.2 hy
  have hl0 : ((ys.length : Int) == 0) = false := beq_eq_false_iff_ne.2 (by omega)
  have hyes := clean_yes (unhide HML) HH.out hk (by simpa using hy)
  have hle := clean_le hyes.2.2
  rw [bl_size] at hle
  have hjl : (Lib.join (ys.map bl) [47]).length ≤ 1000 := by omega
  have HF := hide (And.intro hyes.1 hyes.2.1)
  have hyc := own_cap hown
  rcases RowS.of_own hown with hy' | ⟨g, o, rfl, hg, hcells⟩
  · exact absurd hy' hy
  have HC := hide hcells
  have HJL := hide hjl
  clear hk q3 q2 q1 hown hyes hle hcells hjl hy
  go_wp2_with fail
  refine (join_slash g o cap ys _ (unhide HC) hg hyl hyc (unhide HJL)).mono ?_
  rintro e w5 ⟨rfl, q5⟩
  go_wp2_with fail
  refine (cloneP_any _ _ (by have := unhide HJL; simp only [ByteArray.size, List.size_toArray]; omega)).mono ?_
  rintro e w6 ⟨rfl, q6⟩
  go_wp2_with fail
  go_ret2
  exact ⟨ret_clean (unhide HF), q4.trans (q5.trans q6)⟩

theorem clean_of {a : List UInt8} {n : Int} (s : ByteArray) (w : World) (hs : s.size ≤ maxLen) (h : cstr (bl s) = a ∧ cerr (bl s) = n) :
    Calls Tryz.prog 118 #[.string s] w fun e w' => e = .returned (.tuple #[.string ⟨a.toArray⟩, .int .i64 n]) ∧ Q w w' := by
  have := clean_any s w hs
  rw [h.1, h.2] at this
  exact this

end Go.Proofs.YtpddckgkaopnlaaGreatDoor

/- A law of append for a row that the call owns, whatever row, empty or not, is appended to it: what the walk asks; the conditions: the lengths. -/
namespace Go.Proofs.YtpddckgkaopnlaaGreatDoor
open Go.RowKit

/-- Cells that are to be appended. -/
def SrcRow (w : World) (size : Nat) (bo : Option Addr) (m : Nat) (news : List Value) : Prop :=
  news.length = m * size ∧ ((m = 0 ∧ news = []) ∨ ∃ ad, bo = some ad ∧ ∀ j u, news[j]? = some u → w.cell? (ad.add j) = some u)

theorem SrcRow.row {α : Type} {f : α → List Value} {sz : Nat} (hf : ∀ x, (f x).length = sz) (hz : 0 < sz) {w : World} {bo : Option Addr} {xs : List α} (h : RowG f sz w bo xs) : SrcRow w sz bo xs.length (lay f xs) := by
  refine ⟨lay_length hf xs, ?_⟩
  rcases h with h | ⟨g, o, e, hg, hc⟩
  · left; rw [h]; exact ⟨rfl, rfl⟩
  · right
    refine ⟨_, e, ?_⟩
    intro j u hj
    have hjl : j < xs.length * sz := by rw [← lay_length hf]; exact (List.getElem?_eq_some_iff.1 hj).1
    have hd : j / sz < xs.length := (Nat.div_lt_iff_lt_mul hz).2 hjl
    have hm : j % sz < sz := Nat.mod_lt _ hz
    have e2 : j / sz * sz + j % sz = j := by rw [Nat.mul_comm]; exact Nat.div_add_mod j sz
    have hg2 := lay_get hf xs (j / sz) (j % sz) xs[j / sz] (List.getElem?_eq_getElem hd) hm
    rw [e2, hj] at hg2
    have := hc (j / sz) (j % sz) xs[j / sz] u (List.getElem?_eq_getElem hd) hm hg2.symm
    rw [e2] at this
    rw [← this]
    congr 1
    unfold Addr.add
    split
    · rename_i h; rw [h]; rfl
    · rfl

section
variable {P : Program} {w : World}

theorem wp_append_row {o : Oper} {a : Act} {K : Act → World → Prop} {Q : Exit → Act → World → Prop} (s x : Operand) (t : TypeId)
    (ho : o.op = .call { callee := .builtin .append, args := #[s, x], argTypes := #[t, t] })
    (base : Nat) (e : TypeId) (i : TypeInfo) (z : Value) (size bytes : Nat) (ht : P.underlying t = some (.slice e)) (hi : P.info? e = some i) (hz : i.zero = some z)
    (hsize : i.size = size) (hby : i.bytes = bytes) (hzs : z.cells.size = size) (hsz : 0 < size)
    (ao : Option Addr) (n cap : Nat) (xs : List Value) (hs : a.eval s = .slice ao n cap) (hown : w.ownsRow base e size (.slice ao n cap) n xs)
    (bo : Option Addr) (m c : Nat) (news : List Value) (hx : a.eval x = .slice bo m c) (hsrc : SrcRow w size bo m news) (h1 : ∀ u ∈ news, u.oneCell' = true)
    (h63 : n + m ≤ maxLen) (hbytes : (n + m) * bytes ≤ 140737488355328) (hbase : base ≤ w.heap.size)
    (h : ∀ ao' cap' w', w'.ownsRow base e size (.slice ao' (n + m) cap') (n + m) (xs ++ news) → w.grownBy w' (Value.slice ao n cap).ownBlock → K (a.put o.dst (.slice ao' (n + m) cap')) w') : o.wp P a w K Q := by
  obtain ⟨hl, hs2⟩ := hsrc
  by_cases hm : m = 0
  · subst hm
    have hn : news = [] := List.eq_nil_of_length_eq_zero (by rw [hl, Nat.zero_mul])
    subst hn
    have hle := (own_le hown).1
    have src : Src P i.size t (.slice bo 0 c) 0 [] w := by
      cases bo with
      | none => exact Src.ofNil w ht c
      | some ad => exact Src.ofSlice w ht ad 0 c [] (by simp) (fun j u hj => by simp at hj) (fun u hu => by simp at hu)
    have hr := run_append_nothing (P := P) w t t o.type e i ht hi ao n cap hle (.slice bo 0 c) src
    unfold Oper.wp execOp
    simp only [ho, resolve, invoke, builtin, Sem.run_bind, Sem.run_pure, Result.andThen_ok, List.map_toArray, List.map_cons, List.map_nil, hs, hx, hr]
    exact h ao cap w (by rw [List.append_nil]; exact hown) ⟨rfl, rfl, rfl, Nat.le_refl _, fun _ _ _ => rfl⟩
  · rcases hs2 with ⟨h0, _⟩ | ⟨ad, rfl, hnews⟩
    · exact absurd h0 hm
    · exact wp_append_lies w s x t ho base e i z size bytes ht hi hz hsize hby hzs hsz (.slice ao n cap) n xs hs hown ad m c news hx hl hnews h1 (by omega) h63 hbytes hbase w.heap.size rfl
        (fun g cp w' h2 h3 _ _ => h (some ⟨g, 0, none⟩) cp w' h2 h3)

theorem wpList_append_row {ops : Array Oper} {rest : List Oper} {o : Oper} {a : Act} {Q : Exit → Act → World → Prop} (hgd : o.guard = none) (s x : Operand) (t : TypeId)
    (ho : o.op = .call { callee := .builtin .append, args := #[s, x], argTypes := #[t, t] })
    (base : Nat) (e : TypeId) (i : TypeInfo) (z : Value) (size bytes : Nat) (ht : P.underlying t = some (.slice e)) (hi : P.info? e = some i) (hz : i.zero = some z)
    (hsize : i.size = size) (hby : i.bytes = bytes) (hzs : z.cells.size = size) (hsz : 0 < size)
    (ao : Option Addr) (n cap : Nat) (xs : List Value) (hs : a.eval s = .slice ao n cap) (hown : w.ownsRow base e size (.slice ao n cap) n xs)
    (bo : Option Addr) (m c : Nat) (news : List Value) (hx : a.eval x = .slice bo m c) (hsrc : SrcRow w size bo m news) (h1 : ∀ u ∈ news, u.oneCell' = true)
    (h63 : n + m ≤ maxLen) (hbytes : (n + m) * bytes ≤ 140737488355328) (hbase : base ≤ w.heap.size)
    (h : ∀ ao' cap' w', w'.ownsRow base e size (.slice ao' (n + m) cap') (n + m) (xs ++ news) → w.grownBy w' (Value.slice ao n cap).ownBlock → wpList P ops Q rest (a.put o.dst (.slice ao' (n + m) cap')) w') : wpList P ops Q (o :: rest) a w :=
  wpList_plain hgd fun _ hK => wp_append_row s x t ho base e i z size bytes ht hi hz hsize hby hzs hsz ao n cap xs hs hown bo m c news hx hsrc h1 h63 hbytes hbase fun ao' cap' w' h2 h3 => hK _ _ (h ao' cap' w' h2 h3)

end

end Go.Proofs.YtpddckgkaopnlaaGreatDoor

/- What the statements' own SameTexts answers; the conditions: the rows lie in memory. -/
namespace Go.Proofs.YtpddckgkaopnlaaGreatDoor
open Go.RowKit

theorem take_twoT {ps qs : Ws} {k : Nat} {p r : List UInt8} (ht : ps.take k = qs.take k) (hp : ps[k]? = some p) (hr : qs[k]? = some r) : (p = r → ps.take (k + 1) = qs.take (k + 1)) ∧ (p ≠ r → ps ≠ qs) := by
  refine ⟨?_, ?_⟩
  · intro h; rw [List.take_add_one, List.take_add_one, ht, hp, hr, h]
  · intro h e; subst e; rw [hp] at hr; exact h (Option.some.inj hr)

set_option maxHeartbeats 4000000 in
theorem sameT_any (ao bo : Option Addr) (cap bcap : Nat) (ps qs : Ws) (w : World) (ha : RowT w ao ps) (hb : RowT w bo qs) (hn : ps.length ≤ 1152921504606846976) :
    Calls Tryz.prog 19 #[.slice ao ps.length cap, .slice bo qs.length bcap] w fun e w' => e = .returned (.bool (decide (ps = qs))) ∧ Q w w' := by
  by_cases hl : ps.length = qs.length
  · have hl' : ((ps.length : Int) == (qs.length : Int)) = true := by simp [hl]
    have hl2 : ((ps.length : Int) != (qs.length : Int)) = false := by simp [hl]
    have HL := hide hl
    clear hl
    go_enter Tryz.func19, Tryz.ntmps19
    go_wp2_with fail
    go_loopw [5] (fun i wr => ∃ k : Nat, k ≤ ps.length ∧ i = .int .i64 k ∧ Hid (ps.take k = qs.take k) ∧ Q w wr) (fun i _ => ps.length - (intOf i).toNat)
    case atStart => exact ⟨0, Nat.zero_le _, rfl, by show _ = _; simp, Q.refl _⟩
    case round =>
      obtain ⟨k, hk, rfl, HT, hq⟩ := hrel
      by_cases hlt : k < ps.length
      · have hlq : k < qs.length := by have := unhide HL; omega
        rcases ha.q hq with he | ⟨g, o, rfl, hg, hc⟩
        · rw [he] at hlt; simp at hlt
        rcases hb.q hq with he | ⟨g2, o2, rfl, hg2, hc2⟩
        · rw [he] at hlq; simp at hlq
        obtain ⟨p, hp⟩ : ∃ p, ps[k]? = some p := ⟨ps[k], List.getElem?_eq_getElem hlt⟩
        obtain ⟨r, hr⟩ : ∃ r, qs[k]? = some r := ⟨qs[k], List.getElem?_eq_getElem hlq⟩
        have c1 : wr.cell? ⟨g, o + k, none⟩ = some (.string ⟨p.toArray⟩) := by simpa using hc k 0 p _ hp (by decide) rfl
        have d1 : wr.cell? ⟨g2, o2 + k, none⟩ = some (.string ⟨r.toArray⟩) := by simpa using hc2 k 0 r _ hr (by decide) rfl
        have hlq' : (k : Int) < (qs.length : Int) := by omega
        clear hc hc2
        have HTK := hide (take_twoT HT.out hp hr)
        have hqq : ∀ n, Q w (wr.drewN n) := fun n => hq.drewN n
        have HP := hide (bl_mk p)
        have HR := hide (bl_mk r)
        generalize (⟨p.toArray⟩ : ByteArray) = x at c1 HP
        generalize (⟨r.toArray⟩ : ByteArray) = y at d1 HR
        clear ha hb HT hp hr
        by_cases hpr : p = r
        · have HN := hide ((unhide HTK).1 hpr)
          have e1 : (x.toList == y.toList) = true := by rw [bl_toList, bl_toList, unhide HP, unhide HR, hpr]; exact beq_self_eq_true _
          have e2 : (x.toList != y.toList) = false := by unfold bne; rw [e1]; rfl
          clear HTK hpr
          go_wp2_with fail
          go_quiet (fail)
          go_wp2_with fail
          go_roundw
          case rel => exact ⟨k + 1, by omega, by go_num, HN, hqq _⟩
          case measure => simp [intOf]; omega
        · have HF : Hid (decide (ps = qs) = false) := decide_eq_false ((unhide HTK).2 hpr)
          have e1 : (x.toList == y.toList) = false := by rw [bl_toList, bl_toList, unhide HP, unhide HR]; exact beq_eq_false_iff_ne.2 hpr
          have e2 : (x.toList != y.toList) = true := by unfold bne; rw [e1]; rfl
          clear HTK hpr
          go_wp2_with fail
          go_quiet (fail)
          go_wp2_with fail
          go_ret
          exact ⟨ret_bool HF.out.symm, hqq _⟩
      · have HF : Hid (decide (ps = qs) = true) := by
          have h1 := HT.out
          rw [List.take_of_length_le (by omega), List.take_of_length_le (by have := unhide HL; omega)] at h1
          exact decide_eq_true h1
        clear HT
        go_wp2_with fail
        go_ret
        exact ⟨ret_bool HF.out.symm, hq⟩
  · have HF : Hid (decide (ps = qs) = false) := decide_eq_false (fun h => hl (by rw [h]))
    have hl' : ((ps.length : Int) == (qs.length : Int)) = false := beq_eq_false_iff_ne.2 (by omega)
    have hl2 : ((ps.length : Int) != (qs.length : Int)) = true := by unfold bne; rw [hl']; rfl
    clear hl
    go_enter Tryz.func19, Tryz.ntmps19
    go_wp2_with fail
    go_ret
    exact ⟨ret_bool HF.out.symm, Q.refl _⟩

end Go.Proofs.YtpddckgkaopnlaaGreatDoor

/- How edges and blocks lie in memory, and what stays of them when other blocks are written; no conditions. -/
namespace Go.Proofs.YtpddckgkaopnlaaGreatDoor
open Go.RowKit

/-- But for the blocks of P all that was there is as it was. -/
structure Fr (P : Nat → Prop) (w w' : World) : Prop where
  os : w'.os = w.os
  tape : w'.tape = w.tape
  output : w'.output = w.output
  size : w.heap.size ≤ w'.heap.size
  block : ∀ k, k < w.heap.size → ¬ P k → w'.heap[k]? = w.heap[k]?

theorem Fr.refl (P : Nat → Prop) (w : World) : Fr P w w := ⟨rfl, rfl, rfl, Nat.le_refl _, fun _ _ _ => rfl⟩
theorem Fr.trans {P : Nat → Prop} {a b c : World} (h : Fr P a b) (k : Fr P b c) : Fr P a c :=
  ⟨k.os.trans h.os, k.tape.trans h.tape, k.output.trans h.output, Nat.le_trans h.size k.size, fun i hi hn => (k.block i (Nat.lt_of_lt_of_le hi h.size) hn).trans (h.block i hi hn)⟩
theorem Fr.mono {P P' : Nat → Prop} {a b : World} (h : Fr P a b) (hp : ∀ k, P k → P' k) : Fr P' a b := ⟨h.os, h.tape, h.output, h.size, fun k hk hn => h.block k hk (fun x => hn (hp k x))⟩
theorem Fr.of_q {P : Nat → Prop} {w w' : World} (h : Q w w') : Fr P w w' := ⟨h.os, h.tape, h.output, h.size, fun k hk _ => h.block k hk⟩
theorem Fr.q {P : Nat → Prop} {a b c : World} (h : Fr P a b) (k : Q b c) : Fr P a c := h.trans (Fr.of_q k)
theorem Fr.grown {w w' : World} {row : Option Nat} (h : w.grownBy w' row) : Fr (fun k => row = some k) w w' := ⟨h.os, h.tape, h.output, h.size, fun k hk hn => h.block k hk (fun e => hn e.symm)⟩
theorem Fr.set (w : World) (g o : Nat) (u : Value) : Fr (fun k => k = g) w (w.setCell ⟨g, o, none⟩ u) :=
  ⟨rfl, rfl, rfl, by simp [World.setCell], fun k _ hn => Below.heap_setCell _ _ _ _ hn⟩
theorem Fr.below {P : Nat → Prop} {w w' : World} {B : Nat} (h : Fr P w w') (hB : B ≤ w.heap.size) (hp : ∀ k, P k → B ≤ k) : Below B w w' :=
  ⟨h.os, h.tape, h.output, h.size, fun k hk => h.block k (by omega) (fun x => by have := hp k x; omega)⟩
theorem Fr.drew {P : Nat → Prop} {a b : World} (h : Fr P a b) : Fr P a b.drew := ⟨h.os, h.tape, h.output, h.size, h.block⟩

theorem own_fr {P : Nat → Prop} {w w' : World} {B e size n : Nat} {v : Value} {xs : List Value} (h : w.ownsRow B e size v n xs) (hf : Fr P w w') (hn : ∀ k, v.ownBlock = some k → ¬ P k) : w'.ownsRow B e size v n xs := by
  have hl := fun k hk => h.lt k hk
  obtain ⟨h1, h2⟩ := h
  rcases h2 with h0 | ⟨g, cap, cur, e1, hg, hgg, rest⟩
  · exact ⟨h1, Or.inl h0⟩
  · have hg2 : v.ownBlock = some g := by rw [e1]; rfl
    exact ⟨h1, Or.inr ⟨g, cap, cur, e1, hg, (hf.block g (hl g hg2).2 (hn g hg2)).trans hgg, rest⟩⟩

/-- A block, whole. -/
def Blk (w : World) (g : Nat) (cs : Array Value) (t : TypeId) : Prop := w.heap[g]? = some (.cells cs t (0, 0))
theorem Blk.hi {w : World} {g : Nat} {cs : Array Value} {t : TypeId} (h : Blk w g cs t) : g < w.heap.size := (Array.getElem?_eq_some_iff.1 h).1
theorem Blk.fr {P : Nat → Prop} {w w' : World} {g : Nat} {cs : Array Value} {t : TypeId} (h : Blk w g cs t) (hf : Fr P w w') (hn : ¬ P g) : Blk w' g cs t := (hf.block g h.hi hn).trans h
theorem Blk.q {w w' : World} {g : Nat} {cs : Array Value} {t : TypeId} (h : Blk w g cs t) (hq : Q w w') : Blk w' g cs t := (hq.block g h.hi).trans h
theorem Blk.set {w : World} {g : Nat} {cs : Array Value} {t : TypeId} (h : Blk w g cs t) (i : Nat) (u : Value) : Blk (w.setCell ⟨g, i, none⟩ u) g (cs.setIfInBounds i u) t := heap_setCell_same w g i cs t u h
theorem Blk.other {w : World} {g k : Nat} {cs : Array Value} {t : TypeId} (h : Blk w g cs t) (hne : g ≠ k) (i : Nat) (u : Value) : Blk (w.setCell ⟨k, i, none⟩ u) g cs t := (Below.heap_setCell _ _ _ _ hne).trans h
theorem Blk.cell {w : World} {g : Nat} {cs : Array Value} {t : TypeId} (h : Blk w g cs t) (i : Nat) {v : Value} (hv : cs[i]? = some v) : w.cell? ⟨g, i, none⟩ = some v := (cell_of_row w g i cs t _ h).trans hv
theorem Blk.frz {w : World} {g : Nat} {cs : Array Value} {t : TypeId} (h : Blk w g cs t) (i : Nat) : w.frozen? ⟨g, i, none⟩ = false := frozen_of_row w g i cs t h
theorem Blk.drew {w : World} {g : Nat} {cs : Array Value} {t : TypeId} (h : Blk w g cs t) : Blk w.drew g cs t := h
theorem Blk.new (w : World) (cs : Array Value) (t : TypeId) : Blk (w.alloc (.cells cs t)) w.heap.size cs t := heap_alloc_new w _
theorem Blk.ne {w : World} {g k : Nat} {cs ds : Array Value} {t u : TypeId} (h : Blk w g cs t) (h2 : Blk w k ds u) (hne : t ≠ u) : g ≠ k := by
  rintro rfl
  have e := h.symm.trans h2
  simp only [Option.some.injEq, Obj.cells.injEq] at e
  exact hne e.2.1
theorem Blk.row {w : World} {g : Nat} {cs : Array Value} {t : TypeId} (h : Blk w g cs t) {B e size n : Nat} {v : Value} {xs : List Value} (h2 : w.ownsRow B e size v n xs) (hne : t ≠ e) : ∀ k, v.ownBlock = some k → k ≠ g := by
  intro k hk
  rcases h2.2 with ⟨rfl, _⟩ | ⟨g', cap, cur, rfl, hb, hg, _⟩
  · cases hk
  · cases hk
    exact (Blk.ne h hg hne).symm
theorem own_ne {w : World} {B B' e e' size size' n n' : Nat} {v v' : Value} {xs xs' : List Value} (h : w.ownsRow B e size v n xs) (h' : w.ownsRow B' e' size' v' n' xs') (hne : e ≠ e') : ∀ k, v.ownBlock = some k → v'.ownBlock ≠ some k := by
  intro k hk hk'
  rcases own_apart h h' hne with h1 | h1
  · rw [hk] at h1; cases h1
  · exact h1 (hk.trans hk'.symm)

/-- An edge, and where its four rows lie. -/
abbrev Pa := Option Addr × Nat
abbrev EdA := Ed × Pa × Pa × Pa × Pa
def EdA.v1 (x : EdA) : Value := .slice x.2.1.1 x.1.1.length x.2.1.2
def EdA.v2 (x : EdA) : Value := .slice x.2.2.1.1 x.1.2.1.length x.2.2.1.2
def EdA.v3 (x : EdA) : Value := .slice x.2.2.2.1.1 x.1.2.2.1.length x.2.2.2.1.2
def EdA.v4 (x : EdA) : Value := .slice x.2.2.2.2.1 x.1.2.2.2.1.length x.2.2.2.2.2
def ev (x : EdA) : List Value := [x.v1, x.v2, x.v3, x.v4, .string ⟨x.1.2.2.2.2.1.toArray⟩, .bool x.1.2.2.2.2.2.1, .string ⟨x.1.2.2.2.2.2.2.toArray⟩]
theorem ev_len (x : EdA) : (ev x).length = 7 := rfl
def edB (x : EdA) : List Nat := x.v1.ownBlock.toList ++ x.v2.ownBlock.toList ++ x.v3.ownBlock.toList ++ x.v4.ownBlock.toList

structure EdR (w : World) (B : Nat) (x : EdA) : Prop where
  a : OwnT w B x.2.1.1 x.2.1.2 x.1.1
  b : OwnT w B x.2.2.1.1 x.2.2.1.2 x.1.2.1
  c : OwnT w B x.2.2.2.1.1 x.2.2.2.1.2 x.1.2.2.1
  d : OwnT w B x.2.2.2.2.1 x.2.2.2.2.2 x.1.2.2.2.1

theorem mem_edB {x : EdA} {k : Nat} : k ∈ edB x ↔ x.v1.ownBlock = some k ∨ x.v2.ownBlock = some k ∨ x.v3.ownBlock = some k ∨ x.v4.ownBlock = some k := by
  unfold edB; simp
theorem EdR.fr {P : Nat → Prop} {w w' : World} {B : Nat} {x : EdA} (h : EdR w B x) (hf : Fr P w w') (hn : ∀ k ∈ edB x, ¬ P k) : EdR w' B x :=
  ⟨own_fr h.a hf (fun k hk => hn k (mem_edB.2 (Or.inl hk))), own_fr h.b hf (fun k hk => hn k (mem_edB.2 (Or.inr (Or.inl hk)))),
   own_fr h.c hf (fun k hk => hn k (mem_edB.2 (Or.inr (Or.inr (Or.inl hk))))), own_fr h.d hf (fun k hk => hn k (mem_edB.2 (Or.inr (Or.inr (Or.inr hk)))))⟩
theorem EdR.lt {w : World} {B : Nat} {x : EdA} (h : EdR w B x) : ∀ k ∈ edB x, B ≤ k ∧ k < w.heap.size := by
  intro k hk
  rcases mem_edB.1 hk with e | e | e | e
  · exact h.a.lt k e
  · exact h.b.lt k e
  · exact h.c.lt k e
  · exact h.d.lt k e
theorem EdR.blk {w : World} {B g : Nat} {x : EdA} {cs : Array Value} {t : TypeId} (h : EdR w B x) (hb : Blk w g cs t) (ht : t ≠ 9) : ∀ k ∈ edB x, k ≠ g := by
  intro k hk
  rcases mem_edB.1 hk with e | e | e | e
  · exact hb.row h.a ht k e
  · exact hb.row h.b ht k e
  · exact hb.row h.c ht k e
  · exact hb.row h.d ht k e
theorem EdR.row {w : World} {B B' e size n : Nat} {v : Value} {xs : List Value} {x : EdA} (h : EdR w B x) (h2 : w.ownsRow B' e size v n xs) (ht : e ≠ 9) : ∀ k ∈ edB x, v.ownBlock ≠ some k := by
  intro k hk hv
  rcases mem_edB.1 hk with e | e | e | e
  · exact own_ne h2 h.a ht k hv e
  · exact own_ne h2 h.b ht k hv e
  · exact own_ne h2 h.c ht k hv e
  · exact own_ne h2 h.d ht k hv e

/-- Edges in memory, to be read. -/
structure EdRd (w : World) (x : EdA) : Prop where
  a : RowT w x.2.1.1 x.1.1
  b : RowT w x.2.2.1.1 x.1.2.1
  c : RowT w x.2.2.2.1.1 x.1.2.2.1
  d : RowT w x.2.2.2.2.1 x.1.2.2.2.1
theorem EdR.rd {w : World} {B : Nat} {x : EdA} (h : EdR w B x) : EdRd w x := ⟨h.a.row, h.b.row, h.c.row, h.d.row⟩
theorem EdRd.q {w w' : World} {x : EdA} (h : EdRd w x) (q : Q w w') : EdRd w' x := ⟨h.a.q q, h.b.q q, h.c.q q, h.d.q q⟩

def al (w : World) : List (Array Value × TypeId) → World
  | [] => w
  | x :: r => al (w.alloc (.cells x.1 x.2)) r
theorem al_q : ∀ (l : List (Array Value × TypeId)) (w : World), Q w (al w l)
  | [], w => Q.refl w
  | _ :: r, w => ((Q.refl w).alloc _).trans (al_q r _)
theorem al_blk : ∀ (l : List (Array Value × TypeId)) (w : World) (i : Nat) (x : Array Value × TypeId), l[i]? = some x → Blk (al w l) (w.heap.size + i) x.1 x.2
  | [], w, i, x, h => by simp at h
  | y :: r, w, 0, x, h => by
    simp at h; subst h
    exact (Blk.new w y.1 y.2).q (al_q r _)
  | y :: r, w, i + 1, x, h => by
    have := al_blk r (w.alloc (.cells y.1 y.2)) i x (by simpa using h)
    rw [size_alloc] at this
    rwa [Nat.add_assoc, Nat.add_comm 1 i] at this
theorem rowB {α : Type} {f : α → List Value} {sz : Nat} (hf : ∀ x, (f x).length = sz) {w : World} {g : Nat} {cs : Array Value} {t : TypeId} (h : Blk w g cs t) (ps : List α) (he : cs = (lay f ps).toArray) : RowG f sz w (some ⟨g, 0, none⟩) ps := by
  refine Or.inr ⟨g, 0, rfl, h.hi, fun j i x v hx hi hv => ?_⟩
  rw [Nat.zero_add]
  exact h.cell (j * sz + i) (by rw [he, List.getElem?_toArray, lay_get hf ps j i x hx hi]; exact hv)

theorem one_layT (xs : Ws) : ∀ u ∈ lay tv xs, u.oneCell' = true := by
  intro u hu
  obtain ⟨y, _, hy⟩ := List.mem_flatMap.1 hu
  simp [tv] at hy; subst hy; rfl
theorem own_new0 {w : World} {B e size : Nat} (hB : B ≤ w.heap.size) : (w.alloc (.cells #[] e)).ownsRow B e size (.slice (some ⟨w.heap.size, 0, none⟩) 0 0) 0 [] :=
  ⟨by simp, Or.inr ⟨w.heap.size, 0, #[], rfl, hB, heap_alloc_new _ _, Nat.le_refl _, Nat.zero_le _, by simp, by simp⟩⟩
theorem one_layE (xs : List EdA) : ∀ u ∈ lay ev xs, u.oneCell' = true := by
  intro u hu
  obtain ⟨y, _, hy⟩ := List.mem_flatMap.1 hu
  simp only [ev, EdA.v1, EdA.v2, EdA.v3, EdA.v4, List.mem_cons, List.not_mem_nil, or_false] at hy
  rcases hy with rfl | rfl | rfl | rfl | rfl | rfl | rfl <;> rfl

end Go.Proofs.YtpddckgkaopnlaaGreatDoor

/- A string made of one byte that the call lays down; no conditions. -/
namespace Go.Proofs.YtpddckgkaopnlaaGreatDoor
open Go.RowKit

theorem str_one (c : UInt8) (W : World) :
    (convert 107 9 (.slice (some ⟨W.heap.size, 0, none⟩) 1 1)).run Tryz.prog (W.alloc (.cells #[.int .u8 (c.toNat : Int)] 5)) = .ok (.string ⟨#[c]⟩) (W.alloc (.cells #[.int .u8 (c.toNat : Int)] 5)) := by
  refine run_convert_bytes_back _ _ _ 5 ⟨W.heap.size, 0, none⟩ 1 [c] Tryz.underlying107 Tryz.underlying5 Tryz.underlying9 ?_
  intro j hj
  exact news_new W #[.int .u8 (c.toNat : Int)] 5 j _ (by
    have : j = 0 := by simpa using hj
    subst this; rfl)

theorem str_one' (c : UInt8) (W : World) :
    (convert 107 9 (.slice (some ⟨W.heap.size, 0, none⟩) 1 1)).run Tryz.prog (W.alloc (.cells #[.int .u8 (c.toNat : Int)] 5)).drew = .ok (.string ⟨#[c]⟩) (W.alloc (.cells #[.int .u8 (c.toNat : Int)] 5)).drew := by
  refine run_convert_bytes_back _ _ _ 5 ⟨W.heap.size, 0, none⟩ 1 [c] Tryz.underlying107 Tryz.underlying5 Tryz.underlying9 ?_
  intro j hj
  exact news_new W #[.int .u8 (c.toNat : Int)] 5 j _ (by
    have : j = 0 := by simpa using hj
    subst this; rfl)

theorem str_int (z : Int) (h0 : 0 ≤ z) (h1 : z ≤ 255) : ∃ c : UInt8, (c.toNat : Int) = z ∧ ∀ W : World,
    (convert 107 9 (.slice (some ⟨W.heap.size, 0, none⟩) 1 1)).run Tryz.prog (W.alloc (.cells #[.int .u8 z] 5)) = .ok (.string ⟨#[c]⟩) (W.alloc (.cells #[.int .u8 z] 5)) := by
  have e : ((UInt8.ofNat z.toNat).toNat : Int) = z := by
    rw [UInt8.toNat_ofNat']; omega
  refine ⟨UInt8.ofNat z.toNat, e, fun W => ?_⟩
  have := str_one (UInt8.ofNat z.toNat) W
  rw [e] at this
  exact this

end Go.Proofs.YtpddckgkaopnlaaGreatDoor

/- An append within a statement that draws its order; no conditions. -/
namespace Go.Proofs.YtpddckgkaopnlaaGreatDoor
open Go.RowKit

theorem step_row {P : Program} {w : World} {ops : Array Oper} {o : Oper} {a : Act} {K : Act → World → Prop} {Q' : Exit → Act → World → Prop} {E : Prop} (hg : o.guard = none) (s x : Operand) (t : TypeId)
    (ho : o.op = .call { callee := .builtin .append, args := #[s, x], argTypes := #[t, t] })
    (base : Nat) (e : TypeId) (i : TypeInfo) (z : Value) (size bytes : Nat) (ht : P.underlying t = some (.slice e)) (hi : P.info? e = some i) (hz : i.zero = some z)
    (hsize : i.size = size) (hby : i.bytes = bytes) (hzs : z.cells.size = size) (hsz : 0 < size)
    (ao : Option Addr) (n cap : Nat) (xs : List Value) (hs : a.eval s = .slice ao n cap) (hown : w.ownsRow base e size (.slice ao n cap) n xs)
    (bo : Option Addr) (m c : Nat) (news : List Value) (hx : a.eval x = .slice bo m c) (hsrc : SrcRow w size bo m news) (h1 : ∀ u ∈ news, u.oneCell' = true)
    (h63 : n + m ≤ maxLen) (hbytes : (n + m) * bytes ≤ 140737488355328) (hbase : base ≤ w.heap.size)
    (h : ∀ ao' cap' w', w'.ownsRow base e size (.slice ao' (n + m) cap') (n + m) (xs ++ news) → w.grownBy w' (Value.slice ao n cap).ownBlock → K (a.put o.dst (.slice ao' (n + m) cap')) w') :
    if Region.wanted o (yielded ops a.tmps) = true then Oper.wp P o a w K Q' else E := by
  have hw : Region.wanted o (yielded ops a.tmps) = true := by simp [Region.wanted, hg]
  rw [if_pos hw]
  exact wp_append_row s x t ho base e i z size bytes ht hi hz hsize hby hzs hsz ao n cap xs hs hown bo m c news hx hsrc h1 h63 hbytes hbase h

theorem SrcRow.new (w : World) (cs : Array Value) (t : TypeId) (size : Nat) (h : cs.size = 1 * size) : SrcRow (w.alloc (.cells cs t)) size (some ⟨w.heap.size, 0, none⟩) 1 cs.toList :=
  ⟨by simpa using h, Or.inr ⟨_, rfl, news_new w cs t⟩⟩

theorem Blk.grown {w w1 w' : World} {row : Option Nat} {g : Nat} {cs : Array Value} {t : TypeId} (h : Blk w g cs t) (hq : Q w w1) (hg : w1.grownBy w' row) (hn : ∀ k, row = some k → k ≠ g) : Blk w' g cs t :=
  (h.q hq).fr (Fr.grown hg) (fun e => hn g e rfl)

/-- What was grown lies in no block of another type. -/
theorem own_new_ne {w : World} {B e size n : Nat} {v : Value} {xs : List Value} {g : Nat} {cs : Array Value} {t : TypeId} (h : w.ownsRow B e size v n xs) (hb : Blk w g cs t) (hne : t ≠ e := by decide) : ∀ k, v.ownBlock = some k → ¬ k = g := fun k hk => hb.row h hne k hk

end Go.Proofs.YtpddckgkaopnlaaGreatDoor

/- What the statements' own SameEdge answers; the conditions: the edges lie in memory. -/
namespace Go.Proofs.YtpddckgkaopnlaaGreatDoor
open Go.RowKit

/-- Two edges, boxed. -/
def bxE (w : World) (x y : EdA) : World := (w.alloc (.cells (ev x).toArray 65)).alloc (.cells (ev y).toArray 65)
theorem bxE_facts (w : World) (x y : EdA) : Blk (bxE w x y) w.heap.size (ev x).toArray 65 ∧ Blk (bxE w x y) (w.heap.size + 1) (ev y).toArray 65 ∧ Q w (bxE w x y) := by
  refine ⟨(Blk.new w _ _).q ((Q.refl _).alloc _), ?_, ((Q.refl w).alloc _).alloc _⟩
  have := Blk.new (w.alloc (.cells (ev x).toArray 65)) (ev y).toArray 65
  rwa [size_alloc] at this

set_option maxHeartbeats 4000000 in
theorem sameE_any (x y : EdA) (w : World) (hx : EdRd w x) (hy : EdRd w y) (l1 : x.1.1.length ≤ 140737488355328) (l2 : x.1.2.1.length ≤ 140737488355328) (l3 : x.1.2.2.1.length ≤ 140737488355328) (l4 : x.1.2.2.2.1.length ≤ 140737488355328) :
    Calls Tryz.prog 17 #[.agg #[.slice x.2.1.1 x.1.1.length x.2.1.2, .slice x.2.2.1.1 x.1.2.1.length x.2.2.1.2, .slice x.2.2.2.1.1 x.1.2.2.1.length x.2.2.2.1.2, .slice x.2.2.2.2.1 x.1.2.2.2.1.length x.2.2.2.2.2, .string ⟨x.1.2.2.2.2.1.toArray⟩, .bool x.1.2.2.2.2.2.1, .string ⟨x.1.2.2.2.2.2.2.toArray⟩], .agg #[.slice y.2.1.1 y.1.1.length y.2.1.2, .slice y.2.2.1.1 y.1.2.1.length y.2.2.1.2, .slice y.2.2.2.1.1 y.1.2.2.1.length y.2.2.2.1.2, .slice y.2.2.2.2.1 y.1.2.2.2.1.length y.2.2.2.2.2, .string ⟨y.1.2.2.2.2.1.toArray⟩, .bool y.1.2.2.2.2.2.1, .string ⟨y.1.2.2.2.2.2.2.toArray⟩]] w fun e w' => e = .returned (.bool (eqEd x.1 y.1)) ∧ Q w w' := by
  have S0 := hide (fun w2 (q : Q w w2) => sameT_any x.2.1.1 y.2.1.1 x.2.1.2 y.2.1.2 x.1.1 y.1.1 w2 (hx.a.q q) (hy.a.q q) (by omega))
  have S1 := hide (fun w2 (q : Q w w2) => sameT_any x.2.2.1.1 y.2.2.1.1 x.2.2.1.2 y.2.2.1.2 x.1.2.1 y.1.2.1 w2 (hx.b.q q) (hy.b.q q) (by omega))
  have S2 := hide (fun w2 (q : Q w w2) => sameT_any x.2.2.2.1.1 y.2.2.2.1.1 x.2.2.2.1.2 y.2.2.2.1.2 x.1.2.2.1 y.1.2.2.1 w2 (hx.c.q q) (hy.c.q q) (by omega))
  have S3 := hide (fun w2 (q : Q w w2) => sameT_any x.2.2.2.2.1 y.2.2.2.2.1 x.2.2.2.2.2 y.2.2.2.2.2 x.1.2.2.2.1 y.1.2.2.2.1 w2 (hx.d.q q) (hy.d.q q) (by omega))
  obtain ⟨b1, b2, qb⟩ := bxE_facts w x y
  have HB1 := hide (fun w2 (q : Q (bxE w x y) w2) => b1.q q)
  have HB2 := hide (fun w2 (q : Q (bxE w x y) w2) => b2.q q)
  clear b1 b2 hx hy
  go_enter Tryz.func17, Tryz.ntmps17
  go_wp2_with fail
  change Calls _ _ _ (bxE w x y) _
  generalize bxE w x y = wb at *
  generalize hG : w.heap.size = G at HB1 HB2 ⊢
  clear hG
  by_cases h1 : x.1.1 = y.1.1
  case neg =>
    have HF : Hid (eqEd x.1 y.1 = false) := by show _ = _; unfold eqEd; rw [decide_eq_false h1]; simp
    have HC := hide (unhide S0 _ qb)
    rw [decide_eq_false h1] at HC
    clear h1
    refine (unhide HC).mono ?_
    rintro e w9 ⟨rfl, q9⟩
    go_wp2_with fail
    go_ret
    exact ⟨ret_bool HF.out.symm, qb.trans q9⟩
  case pos =>
    have HC1 := hide (unhide S0 _ qb)
    rw [decide_eq_true h1] at HC1
    have H1 := hide h1
    clear h1
    refine (unhide HC1).mono ?_
    rintro e w1 ⟨rfl, q1⟩
    have qq1 := qb.trans q1
    have qw1 : Q wb w1 := q1
    have c1a : w1.cell? ⟨G, 1, none⟩ = some (.slice x.2.2.1.1 x.1.2.1.length x.2.2.1.2) := (unhide HB1 _ qw1).cell 1 rfl
    have c1b : w1.cell? ⟨G + 1, 1, none⟩ = some (.slice y.2.2.1.1 y.1.2.1.length y.2.2.1.2) := (unhide HB2 _ qw1).cell 1 rfl
    by_cases h2 : x.1.2.1 = y.1.2.1
    case neg =>
      have HF : Hid (eqEd x.1 y.1 = false) := by show _ = _; unfold eqEd; rw [decide_eq_false h2]; simp
      have HC := hide (unhide S1 _ qq1)
      rw [decide_eq_false h2] at HC
      clear h2
      go_wp2_with fail
      refine (unhide HC).mono ?_
      rintro e w9 ⟨rfl, q9⟩
      go_wp2_with fail
      go_ret
      exact ⟨ret_bool HF.out.symm, qq1.trans q9⟩
    case pos =>
      have HC2 := hide (unhide S1 _ qq1)
      rw [decide_eq_true h2] at HC2
      have H2 := hide h2
      clear h2
      go_wp2_with fail
      refine (unhide HC2).mono ?_
      rintro e w2 ⟨rfl, q2⟩
      have qq2 := qq1.trans q2
      have qw2 : Q wb w2 := qw1.trans q2
      have c2a : w2.cell? ⟨G, 2, none⟩ = some (.slice x.2.2.2.1.1 x.1.2.2.1.length x.2.2.2.1.2) := (unhide HB1 _ qw2).cell 2 rfl
      have c2b : w2.cell? ⟨G + 1, 2, none⟩ = some (.slice y.2.2.2.1.1 y.1.2.2.1.length y.2.2.2.1.2) := (unhide HB2 _ qw2).cell 2 rfl
      by_cases h3 : x.1.2.2.1 = y.1.2.2.1
      case neg =>
        have HF : Hid (eqEd x.1 y.1 = false) := by show _ = _; unfold eqEd; rw [decide_eq_false h3]; simp
        have HC := hide (unhide S2 _ qq2)
        rw [decide_eq_false h3] at HC
        clear h3
        go_wp2_with fail
        refine (unhide HC).mono ?_
        rintro e w9 ⟨rfl, q9⟩
        go_wp2_with fail
        go_ret
        exact ⟨ret_bool HF.out.symm, qq2.trans q9⟩
      case pos =>
        have HC3 := hide (unhide S2 _ qq2)
        rw [decide_eq_true h3] at HC3
        have H3 := hide h3
        clear h3
        go_wp2_with fail
        refine (unhide HC3).mono ?_
        rintro e w3 ⟨rfl, q3⟩
        have qq3 := qq2.trans q3
        have qw3 : Q wb w3 := qw2.trans q3
        have c3a : w3.cell? ⟨G, 3, none⟩ = some (.slice x.2.2.2.2.1 x.1.2.2.2.1.length x.2.2.2.2.2) := (unhide HB1 _ qw3).cell 3 rfl
        have c3b : w3.cell? ⟨G + 1, 3, none⟩ = some (.slice y.2.2.2.2.1 y.1.2.2.2.1.length y.2.2.2.2.2) := (unhide HB2 _ qw3).cell 3 rfl
        by_cases h4 : x.1.2.2.2.1 = y.1.2.2.2.1
        case neg =>
          have HF : Hid (eqEd x.1 y.1 = false) := by show _ = _; unfold eqEd; rw [decide_eq_false h4]; simp
          have HC := hide (unhide S3 _ qq3)
          rw [decide_eq_false h4] at HC
          clear h4
          go_wp2_with fail
          refine (unhide HC).mono ?_
          rintro e w9 ⟨rfl, q9⟩
          go_wp2_with fail
          go_ret
          exact ⟨ret_bool HF.out.symm, qq3.trans q9⟩
        case pos =>
          have HC4 := hide (unhide S3 _ qq3)
          rw [decide_eq_true h4] at HC4
          have H4 := hide h4
          clear h4
          go_wp2_with fail
          refine (unhide HC4).mono ?_
          rintro e w4 ⟨rfl, q4⟩
          have qq4 := qq3.trans q4
          have qw4 : Q wb w4 := qw3.trans q4
          have d4a : w4.cell? ⟨G, 4, none⟩ = some (.string ⟨x.1.2.2.2.2.1.toArray⟩) := (unhide HB1 _ qw4).cell 4 rfl
          have d4b : w4.cell? ⟨G + 1, 4, none⟩ = some (.string ⟨y.1.2.2.2.2.1.toArray⟩) := (unhide HB2 _ qw4).cell 4 rfl
          have d5a : w4.cell? ⟨G, 5, none⟩ = some (.bool x.1.2.2.2.2.2.1) := (unhide HB1 _ qw4).cell 5 rfl
          have d5b : w4.cell? ⟨G + 1, 5, none⟩ = some (.bool y.1.2.2.2.2.2.1) := (unhide HB2 _ qw4).cell 5 rfl
          have d6a : w4.cell? ⟨G, 6, none⟩ = some (.string ⟨x.1.2.2.2.2.2.2.toArray⟩) := (unhide HB1 _ qw4).cell 6 rfl
          have d6b : w4.cell? ⟨G + 1, 6, none⟩ = some (.string ⟨y.1.2.2.2.2.2.2.toArray⟩) := (unhide HB2 _ qw4).cell 6 rfl
          have HD : Hid (eqEd x.1 y.1 = (x.1.2.2.2.2.1 == y.1.2.2.2.2.1 && (x.1.2.2.2.2.2.1 == y.1.2.2.2.2.2.1 && x.1.2.2.2.2.2.2 == y.1.2.2.2.2.2.2))) := by
            show _ = _
            unfold eqEd; rw [decide_eq_true (unhide H1), decide_eq_true (unhide H2), decide_eq_true (unhide H3), decide_eq_true (unhide H4)]; rfl
          cases g1 : (x.1.2.2.2.2.1 == y.1.2.2.2.2.1)
          all_goals cases g2 : (x.1.2.2.2.2.2.1 == y.1.2.2.2.2.2.1)
          all_goals cases g3 : (x.1.2.2.2.2.2.2 == y.1.2.2.2.2.2.2)
          all_goals
            have HE := hide HD.out
            rw [g1, g2, g3] at HE
            go_wp2_with fail
            go_ret
            exact ⟨ret_bool (unhide HE).symm, qq4⟩

theorem box2 (w : World) (cs ds : Array Value) (t : TypeId) : Blk ((w.alloc (.cells cs t)).alloc (.cells ds t)) w.heap.size cs t ∧ Blk ((w.alloc (.cells cs t)).alloc (.cells ds t)) (w.heap.size + 1) ds t ∧ Q w ((w.alloc (.cells cs t)).alloc (.cells ds t)) := by
  refine ⟨(Blk.new w _ _).q ((Q.refl _).alloc _), ?_, ((Q.refl w).alloc _).alloc _⟩
  have := Blk.new (w.alloc (.cells cs t)) ds t
  rwa [size_alloc] at this
theorem take_twoE {ps qs : List EdA} {k : Nat} {p r : EdA} (ht : (ps.take k).map Prod.fst = (qs.take k).map Prod.fst) (hp : ps[k]? = some p) (hr : qs[k]? = some r) : (eqEd p.1 r.1 = true → (ps.take (k + 1)).map Prod.fst = (qs.take (k + 1)).map Prod.fst) ∧ (eqEd p.1 r.1 = false → ps.map Prod.fst ≠ qs.map Prod.fst) := by
  refine ⟨fun h => ?_, fun h e => ?_⟩
  · rw [List.take_add_one, List.take_add_one, List.map_append, List.map_append, ht, hp, hr]
    show _ ++ [p.1] = _ ++ [r.1]
    rw [(eqEd_iff _ _).1 h]
  · have h1 : (ps.map Prod.fst)[k]? = some p.1 := by rw [List.getElem?_map, hp]; rfl
    have h2 : (qs.map Prod.fst)[k]? = some r.1 := by rw [List.getElem?_map, hr]; rfl
    rw [e, h2] at h1
    have := (eqEd_iff p.1 r.1).2 (Option.some.inj h1).symm
    rw [h] at this; cases this

end Go.Proofs.YtpddckgkaopnlaaGreatDoor

/- What the document's own CleanPath answers, for every text: the same path, or the same number; no conditions but that the text is no longer than a string can be. -/
namespace Go.Proofs.YtpddckgkaopnlaaGreatDoor
open Go.RowKit

set_option maxHeartbeats 4000000 in
set_option maxRecDepth 20000 in
theorem cleanPath_any (s : ByteArray) (w : World) (hs : s.size ≤ maxLen) :
    Calls Tryz.prog 92 #[.string s] w fun e w' => e = .returned (.tuple #[.string ⟨(cstr (bl s)).toArray⟩, .int .i64 (cerr (bl s))]) ∧ Q w w' := by
  have hmb := mayB_mayL s
  have hs' := hs
  unfold maxLen at hs'
  obtain ⟨i0, hi, hz0, hz1, hz2⟩ := info_parts Tryz.infoS
  cases hm : mayB s
  · have HF := hide (clean_no1 (l := bl s) (by rw [hm] at hmb; exact hmb.symm))
    clear hmb
    go_enter Tryz.func92, Tryz.ntmps92
    go_wp2_with fail
    refine (nameMay_any s _ hs).mono ?_
    rintro e w1 ⟨rfl, rfl⟩
    rw [hm]
    go_wp2_with fail
    go_ret2
    exact ⟨ret_clean (unhide HF), Q.refl _⟩
  have hml : mayL (bl s) = true := by rw [hm] at hmb; exact hmb.symm
  have hsz : 1 ≤ s.size ∧ s.size ≤ 16 := by
    unfold mayB at hm; simp at hm; omega
  obtain ⟨hsz1, hsz2⟩ := hsz
  have hh := head_byte s (by omega)
  have HM := hide hm
  have HML := hide hml
  clear hmb hm hml
  by_cases h0 : s[0] = 47
  · have HF := hide (clean_no2 (l := bl s) (by rw [hh, h0]))
    have h0' : ((s[0].toNat : Int) == 47) = true := by rw [h0]; rfl
    clear hh h0
    go_enter Tryz.func92, Tryz.ntmps92
    go_wp2_with fail
    refine (nameMay_any s _ hs).mono ?_
    rintro e w1 ⟨rfl, rfl⟩
    rw [unhide HM]
    go_wp2_with fail
    go_ret2
    exact ⟨ret_clean (unhide HF), Q.refl _⟩
  have h0' : ((s[0].toNat : Int) == 47) = false := beq_eq_false_iff_ne.2 (fun e => h0 (UInt8.toNat_inj.1 (by simpa using (by omega : s[0].toNat = 47))))
  have HH : Hid ((bl s).head? ≠ some 47) := by show _ ≠ _; rw [hh]; simpa using h0
  clear hh h0
  go_enter Tryz.func92, Tryz.ntmps92
  go_wp2_with fail
  refine (nameMay_any s _ hs).mono ?_
  rintro e w1 ⟨rfl, rfl⟩
  rw [unhide HM]
  go_wp2_with fail
  refine (rsplit_any s 47 _ (by omega)).mono ?_
  rintro e w2 ⟨xs, ax, cx, hx1, hx2, rfl, hownx, q2⟩
  rw [spc_47] at hx1
  have HX := hide hx1
  have hxne : xs ≠ [] := by intro e; rw [e] at hx1; exact sp_ne _ hx1.symm
  have hxc := own_cap hownx
  rcases RowS.of_own hownx with hy' | ⟨gx, ox, rfl, hgx, hcells⟩
  · exact absurd hy' hxne
  clear hx1 hownx hxne
  go_wp2_with fail
  go_loopw [5, 6] (fun v i wr => ∃ (k : Nat) (ys : List ByteArray) (ao : Option Addr) (cap : Nat), k ≤ xs.length ∧ i = .int .i64 k ∧ v = .slice ao ys.length cap ∧ ys.length ≤ k ∧
      Hid (kf [] ((xs.take k).map bl) = some (ys.map bl)) ∧ wr.ownsRow w2.heap.size 9 1 (.slice ao ys.length cap) ys.length (ys.map Value.string) ∧ Q w2 wr)
    (fun _ i _ => xs.length - (intOf i).toNat)
  case atStart => exact ⟨0, [], none, 0, Nat.zero_le _, rfl, rfl, by simp, rfl, World.ownsRow_nil _ _ _ _, Q.refl _⟩
  case round =>
    obtain ⟨k, ys, ao, cap, hk, rfl, rfl, hyk, HK, hown, hq⟩ := hrel
    have hyc := own_cap hown
    by_cases hlt : k < xs.length
    · obtain ⟨x, hx⟩ : ∃ x, xs[k]? = some x := ⟨xs[k], List.getElem?_eq_getElem hlt⟩
      have hc : wr.cell? ⟨gx, ox + k, none⟩ = some (.string x) := (hq.cell (p := ⟨gx, ox + k, none⟩) hgx).trans (hcells k x hx)
      have HS := hide (take_map_snoc xs k x hx)
      have HP := hide (map_parts xs k x hx)
      clear hx hcells
      by_cases c1 : x.toList.isEmpty = true
      · have HN : Hid (kf [] ((xs.take (k + 1)).map bl) = some (ys.map bl)) := by
          show _ = _; rw [unhide HS]; exact kf_snoc HK.out (kst_empty c1)
        go_wp2_with fail
        go_roundw
        case rel => exact ⟨k + 1, ys, ao, cap, by omega, by go_num, rfl, by omega, HN, hown, hq⟩
        case measure => simp [intOf]; omega
      have c1 : x.toList.isEmpty = false := by simpa using c1
      by_cases c2 : (x.toList == [46]) = true
      · have HN : Hid (kf [] ((xs.take (k + 1)).map bl) = some (ys.map bl)) := by
          show _ = _; rw [unhide HS]; exact kf_snoc HK.out (kst_dot c2)
        go_wp2_with fail
        go_roundw
        case rel => exact ⟨k + 1, ys, ao, cap, by omega, by go_num, rfl, by omega, HN, hown, hq⟩
        case measure => simp [intOf]; omega
      have c2 : (x.toList == [46]) = false := by simpa using c2
      by_cases c3 : (x.toList == [46, 46]) = true
      · by_cases hy : ys = []
        · subst hy
          have HF := hide (clean_no3 (l := bl s) (by rw [← unhide HX, unhide HP]; exact kf_fail HK.out (kst_dots_none c3)))
          go_wp2_with fail
          go_ret2
          exact ⟨ret_clean (unhide HF), q2.trans hq⟩
        · have HN : Hid (kf [] ((xs.take (k + 1)).map bl) = some (ys.dropLast.map bl)) := by
            show _ = _; rw [unhide HS]
            have := kf_snoc HK.out (kst_dots c3 (ks := ys.map bl) (by simpa using hy))
            rw [this, List.map_dropLast]
          have hown' := hide (own_pop hy hown)
          have hl : 1 ≤ ys.length := List.length_pos_iff.2 hy
          have hl0 : ((ys.length : Int) == 0) = false := beq_eq_false_iff_ne.2 (by omega)
          clear hown
          go_wp2_with fail
          go_roundw
          case rel => exact ⟨k + 1, ys.dropLast, ao, cap, by omega, by go_num, by simp, by simp; omega, HN, by have := unhide hown'; simpa using this, hq⟩
          case measure => simp [intOf]; omega
      have c3 : (x.toList == [46, 46]) = false := by simpa using c3
      have HN : Hid (kf [] ((xs.take (k + 1)).map bl) = some ((ys ++ [x]).map bl)) := by
        show _ = _; rw [unhide HS]
        have := kf_snoc HK.out (kst_other c1 c2 c3)
        rw [this]; simp
      go_wp2_with (at_builtin; refine wpList_append_lies _ rfl _ _ 24 rfl w2.heap.size 9 i0 (.string ByteArray.empty) 1 16 Tryz.underlying24 hi hz0 hz1 hz2 rfl (by decide) _ _ _ rfl (hown.alloc _) ⟨wr.heap.size, 0, none⟩ 1 1 [.string x] rfl rfl ?c1 ?c2 (by decide) ?c3 ?c4 ?c5 (wr.heap.size + 1) (by simp) ?_)
      case c1 =>
        intro j u hj
        match j, hj with
        | 0, hj => simp at hj; subst hj; simp [Addr.add]
      case c2 => intro u hu; simp at hu; subst hu; rfl
      case c3 => unfold maxLen; omega
      case c4 => omega
      case c5 => have := hq.size; simp; omega
      intro g cp w1 hown1 hgrow hor hglt
      have hq1 : Q w2 w1 := Below.grown (hq.alloc _) hgrow (by have := hq.size; simp; omega) (fun r hr => (hown.lt r hr).1)
      have HO := hide hown1
      clear hown1 hgrow hown hor
      go_wp2
      go_roundw
      case rel => exact ⟨k + 1, ys ++ [x], some ⟨g, 0, none⟩, cp, by omega, by go_num, by simp, by simp; omega, HN, by have := unhide HO; simpa using this, hq1⟩
      case measure => simp [intOf]; omega
    · have hk' : kf [] (sp (bl s)) = some (ys.map bl) := by
        have := HK.out
        rw [List.take_of_length_le (by omega), unhide HX] at this
        exact this
      clear hcells
      have q4 := q2.trans hq
      by_cases hy : ys = []
      · subst hy
        have HF := hide (clean_no4 hk')
        clear hk'
        go_wp2_with fail
        go_ret2
        exact ⟨ret_clean (unhide HF), q4⟩
      have hl1 : 1 ≤ ys.length := List.length_pos_iff.2 hy
      have hl0 : ((ys.length : Int) == 0) = false := beq_eq_false_iff_ne.2 (by omega)
      have hyes := clean_yes (unhide HML) HH.out hk' (by simpa using hy)
      have hle := clean_le hyes.2.2
      rw [bl_size] at hle
      have HJ : Hid ((Lib.join (ys.map bl) (bl ⟨#[47]⟩)).length ≤ 1099511627776) := by
        show (Lib.join (ys.map bl) [47]).length ≤ _; omega
      have HF := hide (And.intro hyes.1 hyes.2.1)
      have HR := hide (RowS.of_own hown)
      clear hk' hown hyes hle hy
      go_wp2_with fail
      refine (rjoin_any ao cap ys ⟨#[47]⟩ _ (unhide HR) (by omega) (by decide) (unhide HJ)).mono ?_
      rintro e w5 ⟨t, rfl, ht, rfl⟩
      obtain rfl := of_bl ht
      clear ht
      go_wp2_with fail
      go_ret2
      exact ⟨ret_clean (unhide HF), q4⟩

end Go.Proofs.YtpddckgkaopnlaaGreatDoor

/- Is a text in a row, as the document's own has answers; the conditions: the row lies in memory. -/
namespace Go.Proofs.YtpddckgkaopnlaaGreatDoor
open Go.RowKit

set_option maxHeartbeats 2000000 in
theorem has_any (ws : Ws) (n : ByteArray) (ao : Option Addr) (cap : Nat) (w : World) (hr : RowT w ao ws) (hs : ws.length ≤ 140737488355328) :
    Calls Tryz.prog 46 #[.slice ao ws.length cap, .string n] w fun e w' => e = .returned (.bool (ws.any (fun x : Tx => x == bl n))) ∧ w' = w := by
  go_enter Tryz.func46, Tryz.ntmps46
  go_wp2_with fail
  go_loop [5] (fun i => ∃ k : Nat, k ≤ ws.length ∧ i = .int .i64 k ∧ Hid ((ws.take k).any (fun x : Tx => x == bl n) = false)) (fun i => ws.length - (intOf i).toNat)
  case atStart => exact ⟨0, Nat.zero_le _, rfl, rfl⟩
  case round =>
    obtain ⟨k, hk, rfl, HA⟩ := hrel
    by_cases hlt : k < ws.length
    · rcases hr with he | ⟨g, o, rfl, hg, hcell⟩
      · rw [he] at hlt; simp at hlt
      obtain ⟨b, hb⟩ : ∃ b, ws[k]? = some b := ⟨ws[k], List.getElem?_eq_getElem hlt⟩
      have c1 : w.cell? ⟨g, o + k, none⟩ = some (.string ⟨b.toArray⟩) := by
        have := hcell k 0 b _ hb (by decide) rfl
        simpa using this
      have HT := hide (anyt_succ (fun x : Tx => x == bl n) hb)
      have HM := hide (List.mem_of_getElem? hb)
      have hx := txt_beq b n
      generalize (⟨b.toArray⟩ : ByteArray) = x1 at c1 hx
      clear hcell hb
      cases hok : (b == bl n)
      · have HO : Hid ((ws.take (k + 1)).any (fun x : Tx => x == bl n) = false) := by
          show _ = false
          rw [unhide HT, HA.out]; simpa using hok
        rw [hok] at hx
        clear hok HT HM HA
        go_wp2_with fail
        go_round
        case rel => exact ⟨k + 1, by omega, by go_num, HO⟩
        case measure => simp [intOf]; omega
      · have HO : Hid (ws.any (fun x : Tx => x == bl n) = true) := List.any_eq_true.2 ⟨b, unhide HM, hok⟩
        rw [hok] at hx
        clear hok HT HM HA
        go_wp2_with fail
        go_ret
        exact ⟨ret_bool HO.out.symm, rfl⟩
    · have HO : Hid (ws.any (fun x : Tx => x == bl n) = false) := by
        show _ = _
        have := HA.out
        rw [List.take_of_length_le (by omega)] at this
        exact this
      clear HA
      go_wp2_with fail
      go_ret
      exact ⟨ret_bool HO.out.symm, rfl⟩

end Go.Proofs.YtpddckgkaopnlaaGreatDoor
