/- What the document's own split and Join answer: a text cut at each sign; texts joined by a sign; the conditions: the text has at most 2^40 bytes, and so has what is joined. -/
import Derived.Test.YtgbegdgacjodcaaGreatDoorNmWalks
import Derived.Test.YtgbegdgacjodcaaGreatDoorBdPlain
import Derived.Deep.AppendLies
import Derived.WalkSmall
namespace Go.Proofs.YtgbegdgacjodcaaGreatDoor
open Go.RowKit

theorem Tryz.infoS : (Tryz.prog.info? 9).map (fun i => (i.zero, i.size, i.bytes)) = some (some (.string ByteArray.empty), 1, 16) := by kernel_rfl

/-- Texts that lie in a row. -/
def RowS (w : World) (ao : Option Addr) (xs : List ByteArray) : Prop :=
  (xs = []) ∨ ∃ g o, ao = some ⟨g, o, none⟩ ∧ g < w.heap.size ∧ ∀ (j : Nat) x, xs[j]? = some x → w.cell? ⟨g, o + j, none⟩ = some (.string x)

theorem RowS.of_own {w : World} {B e cap : Nat} {ao : Option Addr} {ys : List ByteArray} (h : w.ownsRow B e 1 (.slice ao ys.length cap) ys.length (ys.map Value.string)) : RowS w ao ys := by
  have h' := h
  obtain ⟨h1, h2⟩ := h
  rcases h2 with ⟨_, h2⟩ | ⟨g, cap', cur, e1, hb, hh, hn, hm, hs, ht⟩
  · exact Or.inl (List.eq_nil_of_length_eq_zero h2)
  · cases e1
    refine Or.inr ⟨g, 0, rfl, ?_, ?_⟩
    · rcases Nat.lt_or_ge g w.heap.size with h | h
      · exact h
      · rw [Array.getElem?_eq_none h] at hh; cases hh
    · intro j x hx
      have hj : j < ys.length := by
        rcases Nat.lt_or_ge j ys.length with h | h
        · exact h
        · rw [List.getElem?_eq_none h] at hx; cases hx
      rw [Nat.zero_add, h'.cellAt j (by omega), List.getElem?_map, hx]; rfl

theorem RowS.below {w w' : World} {ao : Option Addr} {ys : List ByteArray} (h : RowS w ao ys) (q : Q w w') : RowS w' ao ys := by
  rcases h with h | ⟨g, o, rfl, hg, hc⟩
  · exact Or.inl h
  · exact Or.inr ⟨g, o, rfl, Nat.lt_of_lt_of_le hg q.size, fun j x hx => (q.cell (p := ⟨g, o + j, none⟩) hg).trans (hc j x hx)⟩

theorem own_cap {w : World} {B e n cap : Nat} {ao : Option Addr} {xs : List Value} (h : w.ownsRow B e 1 (.slice ao n cap) n xs) : n ≤ cap := by
  obtain ⟨h1, h2⟩ := h
  rcases h2 with ⟨e1, h2⟩ | ⟨g, cap', cur, e, hb, hh, hn, hm, hs, ht⟩
  · omega
  · cases e; omega

theorem byte_eq {a : UInt8} {d : UInt8} (h : ((a.toNat : Int) == (d.toNat : Int)) = true) : a = d := by
  have := beq_iff_eq.1 h
  exact UInt8.toNat_inj.1 (by omega)
theorem byte_ne {a : UInt8} {d : UInt8} (h : ((a.toNat : Int) == (d.toNat : Int)) = false) : a ≠ d := by
  intro e; subst e; simp at h

set_option maxHeartbeats 2000000 in
theorem rsplit_any (s : ByteArray) (d : UInt8) (w : World) (hs : s.size ≤ 1099511627776) :
    Calls Tryz.prog 72 #[.string s, .int .u8 (d.toNat : Int)] w fun e w' =>
      ∃ (ys : List ByteArray) (ao : Option Addr) (cap : Nat), ys.map bl = spc d (bl s) ∧ ys.length ≤ s.size + 1 ∧ e = .returned (.slice ao ys.length cap) ∧
        w'.ownsRow w.heap.size 9 1 (.slice ao ys.length cap) ys.length (ys.map Value.string) ∧ Q w w' := by
  obtain ⟨i0, hi, hz0, hz1, hz2⟩ := info_parts Tryz.infoS
  have hdl : (d.toNat : Int) ≤ 255 := by have := d.toNat_lt; omega
  have hsz := bl_size s
  have HSZ := hide hsz
  clear hsz
  go_enter Tryz.func72, Tryz.ntmps72
  go_wp2
  go_loopw [5, 6, 7] (fun v fr i wr => ∃ (k f : Nat) (ys : List ByteArray) (ao : Option Addr) (cap : Nat), i = .int .i64 k ∧ fr = .int .i64 f ∧ v = .slice ao ys.length cap ∧ ys.length ≤ k ∧
      wr.ownsRow w.heap.size 9 1 (.slice ao ys.length cap) ys.length (ys.map Value.string) ∧ Q w wr ∧ k ≤ s.size + 1 ∧ f ≤ k ∧
      Hid (k ≤ s.size → ys.map bl ++ spc d ((bl s).drop f) = spc d (bl s) ∧ d ∉ ((bl s).drop f).take (k - f)) ∧ Hid (k = s.size + 1 → ys.map bl = spc d (bl s)))
    (fun _ _ i _ => s.size + 1 - (intOf i).toNat)
  case atStart => exact ⟨0, 0, [], none, 0, rfl, rfl, rfl, by simp, World.ownsRow_nil _ _ _ _, Q.refl _, by omega, by omega, fun _ => by simp, fun h => by omega⟩
  case round =>
    obtain ⟨k, f, ys, ao, cap, rfl, rfl, rfl, hyk, hown, hq, hk, hf, HA, HB⟩ := hrel
    have hyc := own_cap hown
    by_cases hlt : k ≤ s.size
    · by_cases hend : k = s.size
      · subst hend
        have HN : Hid (∀ x : ByteArray, bl x = (bl s).drop f → (ys ++ [x]).map bl = spc d (bl s)) := by
          intro x hx
          obtain ⟨a1, a2⟩ := HA.out (by omega)
          rw [← a1, List.map_append, List.map_cons, List.map_nil, hx, spc_last d _ f (by rw [HSZ.out]; exact a2)]
        have hkk : ((s.size : Int) == (s.size : Int)) = true := by simp
        clear HA HB
        go_wp2_with (at_builtin; refine wpList_append_lies _ rfl _ _ 45 rfl w.heap.size 9 i0 (.string ByteArray.empty) 1 16 Tryz.underlying45 hi hz0 hz1 hz2 rfl (by decide) _ _ _ rfl (hown.alloc _) ⟨wr.heap.size, 0, none⟩ 1 1 [.string (s.extract f s.size)] rfl rfl ?c1 ?c2 (by decide) ?c3 ?c4 ?c5 (wr.heap.size + 1) (by simp) ?_)
        case c1 =>
          intro j u hj
          match j, hj with
          | 0, hj => simp at hj; subst hj; simp [Addr.add]
        case c2 => intro u hu; simp at hu; subst hu; rfl
        case c3 => unfold maxLen; omega
        case c4 => omega
        case c5 => have := hq.size; simp; omega
        intro g cp w1 hown1 hgrow hor hglt
        have hq1 : Q w w1 := Below.grown (hq.alloc _) hgrow (by have := hq.size; simp; omega) (fun r hr => (hown.lt r hr).1)
        have HO := hide hown1
        clear hown1 hgrow hown hor
        go_wp2
        go_roundw
        case rel => exact ⟨s.size + 1, s.size + 1, ys ++ [s.extract f s.size], some ⟨g, 0, none⟩, cp, by go_num, by go_num, by simp, by simp; omega, by have := unhide HO; simpa using this, hq1, by omega, by omega, fun h => by omega, fun _ => HN.out _ (by rw [bl_extract, List.take_of_length_le (by rw [HSZ.out]; exact Nat.le_refl _)])⟩
        case measure => simp [intOf]
      have hks : k < s.size := by omega
      have hne : ((k : Int) == (s.size : Int)) = false := beq_eq_false_iff_ne.2 (by omega)
      have hgk := hide (bl_getElem s k hks)
      cases hc : ((s[k].toNat : Int) == (d.toNat : Int))
      · have HN : Hid (k + 1 ≤ s.size → ys.map bl ++ spc d ((bl s).drop f) = spc d (bl s) ∧ d ∉ ((bl s).drop f).take (k + 1 - f)) := by
          intro _
          obtain ⟨a1, a2⟩ := HA.out (by omega)
          exact ⟨a1, no_next d _ f k hf _ (unhide hgk) (byte_ne hc) a2⟩
        clear HA HB
        go_wp2_with fail
        go_roundw
        case rel => exact ⟨k + 1, f, ys, ao, cap, by go_num, rfl, rfl, by omega, hown, hq, by omega, by omega, HN, fun h => by omega⟩
        case measure => simp [intOf]; omega
      · have HN : Hid (∀ x : ByteArray, bl x = ((bl s).take k).drop f → (ys ++ [x]).map bl ++ spc d ((bl s).drop (k + 1)) = spc d (bl s)) := by
          intro x hx
          obtain ⟨a1, a2⟩ := HA.out (by omega)
          have hk' := unhide hgk
          rw [byte_eq hc] at hk'
          rw [← a1, spc_hit d _ f k hf hk' a2, List.map_append, List.map_cons, List.map_nil, hx]; simp
        clear HA HB
        go_wp2_with (at_builtin; refine wpList_append_lies _ rfl _ _ 45 rfl w.heap.size 9 i0 (.string ByteArray.empty) 1 16 Tryz.underlying45 hi hz0 hz1 hz2 rfl (by decide) _ _ _ rfl (hown.alloc _) ⟨wr.heap.size, 0, none⟩ 1 1 [.string (s.extract f k)] rfl rfl ?d1 ?d2 (by decide) ?d3 ?d4 ?d5 (wr.heap.size + 1) (by simp) ?_)
        case d1 =>
          intro j u hj
          match j, hj with
          | 0, hj => simp at hj; subst hj; simp [Addr.add]
        case d2 => intro u hu; simp at hu; subst hu; rfl
        case d3 => unfold maxLen; omega
        case d4 => omega
        case d5 => have := hq.size; simp; omega
        intro g cp w1 hown1 hgrow hor hglt
        have hq1 : Q w w1 := Below.grown (hq.alloc _) hgrow (by have := hq.size; simp; omega) (fun r hr => (hown.lt r hr).1)
        have HO := hide hown1
        clear hown1 hgrow hown hor
        go_wp2
        go_roundw
        case rel => exact ⟨k + 1, k + 1, ys ++ [s.extract f k], some ⟨g, 0, none⟩, cp, by go_num, by go_num, by simp, by simp; omega, by have := unhide HO; simpa using this, hq1, by omega, by omega, fun h => ⟨HN.out _ (bl_extract _ _ _), by simp⟩, fun h => by omega⟩
        case measure => simp [intOf]; omega
    · have HF : Hid (ys.map bl = spc d (bl s)) := HB.out (by omega)
      go_wp2
      go_ret
      exact ⟨ys, ao, cap, HF.out, by omega, rfl, hown, hq⟩

set_option maxHeartbeats 2000000 in
theorem rjoin_any (ao : Option Addr) (cap : Nat) (xs : List ByteArray) (sep : ByteArray) (w : World) (hr : RowS w ao xs) (hn : xs.length ≤ 1099511627776) (hsep : sep.size ≤ 1099511627776)
    (hlen : (Lib.join (xs.map bl) (bl sep)).length ≤ 1099511627776) :
    Calls Tryz.prog 73 #[.slice ao xs.length cap, .string sep] w fun e w' => ∃ t : ByteArray, e = .returned (.string t) ∧ bl t = Lib.join (xs.map bl) (bl sep) ∧ w' = w := by
  rcases hr with rfl | ⟨g, o, rfl, hg, hcells⟩
  · go_enter Tryz.func73, Tryz.ntmps73
    go_wp2
    refine wp_loop_rounds 1 ?_
    rw [rounds_succ]
    go_wp2
    go_ret
    exact ⟨⟨#[]⟩, rfl, rfl, rfl⟩
  have HL : Hid (∀ k, (Lib.join ((xs.map bl).take k) (bl sep)).length ≤ 1099511627776) := fun k => Nat.le_trans (join_take_le _ _ _) hlen
  have HSS : Hid ((bl sep).length = sep.size) := bl_size sep
  clear hlen
  go_enter Tryz.func73, Tryz.ntmps73
  go_wp2
  go_loop [5, 6] (fun v i => ∃ (k : Nat) (t : ByteArray), k ≤ xs.length ∧ i = .int .i64 k ∧ v = .string t ∧ t.size ≤ 1099511627776 ∧ Hid (bl t = Lib.join ((xs.map bl).take k) (bl sep)))
    (fun _ i => xs.length - (intOf i).toNat)
  case atStart => exact ⟨0, ⟨#[]⟩, by omega, rfl, rfl, by decide, rfl⟩
  case round =>
    obtain ⟨k, t, hk, rfl, rfl, ht, HT⟩ := hrel
    by_cases hlt : k < xs.length
    · obtain ⟨x, hx⟩ : ∃ x, xs[k]? = some x := ⟨xs[k], List.getElem?_eq_getElem hlt⟩
      have hc : w.cell? ⟨g, o + k, none⟩ = some (.string x) := hcells k x hx
      have hj := join_next (bl sep) (xs.map bl) k (bl x) (by rw [List.getElem?_map, hx]; rfl)
      have hl := HL.out (k + 1)
      rw [hj] at hl
      have hxs : x.size ≤ 1099511627776 := by rw [← bl_size]; simp at hl; omega
      have HJ := hide hj
      have HLL := hide hl
      clear hj hx hcells hl
      by_cases h0 : k = 0
      · subst h0
        rw [Nat.add_zero] at hc
        have HN : Hid (bl (t ++ x) = Lib.join ((xs.map bl).take (0 + 1)) (bl sep)) := by
          show _ = _; rw [unhide HJ, bl_app, HT.out]; simp
        have HZ : (t ++ x).size ≤ 1099511627776 := by
          have := unhide HLL; rw [← bl_size, HN.out, unhide HJ]; exact this
        go_wp2_with fail
        go_round
        case rel => exact ⟨0 + 1, t ++ x, by omega, by go_num, rfl, HZ, HN⟩
        case measure => simp [intOf]; omega
      · have h0' : 0 < k := by omega
        have HN : Hid (bl (t ++ sep ++ x) = Lib.join ((xs.map bl).take (k + 1)) (bl sep)) := by
          show _ = _; rw [unhide HJ, bl_app, bl_app, HT.out, if_neg h0]
        have HZ : (t ++ sep ++ x).size ≤ 1099511627776 := by
          have := unhide HLL; rw [← bl_size, HN.out, unhide HJ]; exact this
        have hz2 : (t ++ sep).size ≤ 2199023255552 := by
          rw [← bl_size, bl_app, List.length_append, bl_size, bl_size]; omega
        go_wp2_with fail
        go_round
        case rel => exact ⟨k + 1, t ++ sep ++ x, by omega, by go_num, rfl, HZ, HN⟩
        case measure => simp [intOf]; omega
    · have HF : Hid (bl t = Lib.join (xs.map bl) (bl sep)) := by
        have := HT.out
        rw [List.take_of_length_le (by simp; omega)] at this
        exact this
      go_wp2
      go_ret
      exact ⟨t, rfl, HF.out, rfl⟩

end Go.Proofs.YtgbegdgacjodcaaGreatDoor
