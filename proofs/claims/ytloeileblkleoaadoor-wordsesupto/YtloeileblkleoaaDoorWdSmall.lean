/- What package words' small functions do to the row of what is left; the conditions: the lengths. -/
import Derived.Test.YtloeileblkleoaaDoorWdShelf
import Derived.Test.YtloeileblkleoaaDoorNmMay
import Derived.RegionTactic
import Derived.ChangeAlike
import Derived.BigRegion
namespace Go.Proofs.YtloeileblkleoaaDoor
open Go.RowKit

theorem ext_all (t : ByteArray) : bl (t.extract 0 t.size) = bl t := by rw [bl_extract, List.drop_zero, List.take_of_length_le (by rw [bl_size]; exact Nat.le_refl _)]
theorem ext_none (t : ByteArray) : bl (t.extract t.size t.size) = [] := by rw [bl_extract, List.drop_of_length_le]; rw [List.length_take, bl_size]; omega
theorem ext_end (t : ByteArray) (i : Nat) : bl (t.extract i t.size) = (bl t).drop i := by rw [bl_extract, List.take_of_length_le (by rw [bl_size]; exact Nat.le_refl _)]
theorem ext_front (t : ByteArray) (i : Nat) : bl (t.extract 0 i) = (bl t).take i := by rw [bl_extract, List.drop_zero]
theorem ext_le (t : ByteArray) (i j : Nat) : (t.extract i j).size ≤ t.size := by rw [← bl_size, ← bl_size, bl_extract, List.length_drop, List.length_take]; omega

theorem index_byte (l : List UInt8) : Lib.index l [32] = Lib.indexByte l 32 := Lib.index_one l 32

set_option maxHeartbeats 2000000 in
theorem next_any (g : Nat) (a b : ByteArray) (w : World) (h : At w g a b) (hb : b.size ≤ 1152921504606846976) :
    Calls Tryd.prog 24 #[.pointer (some ⟨g, 0, none⟩)] w fun e w' => e = .returned (.tuple #[]) ∧
      (∃ x y : ByteArray, At w' g x y ∧ StW (bl x) (bl y) (wdL (bl b)) ∧ x.size ≤ b.size ∧ y.size ≤ b.size) ∧ But g w w' := by
  obtain ⟨t, ht⟩ : ∃ t : ByteArray, t = ⟨(Lib.trimLeftB (bl b) 32).toArray⟩ := ⟨_, rfl⟩
  have htb : bl t = Lib.trimLeftB (bl b) 32 := by rw [ht]; rfl
  have htz : t.size ≤ b.size := by rw [← bl_size, ← bl_size, htb]; exact (List.dropWhile_sublist _).length_le
  have HT := hide (fun w => triml_any b w)
  rw [← ht] at HT
  have HB := hide htb
  have HA := hide h
  have c0 := h.c0
  have c1 := h.c1
  have f0 := h.frz 0
  have f1 := h.frz 1
  clear ht htb h
  by_cases hi : Lib.indexByte (bl t) 32 = -1
  · have HS : Hid (StW (bl t) [] (wdL (bl b))) := by
      have := StW.of_none (l := bl b) (by rw [index_byte, ← unhide HB]; exact hi)
      rw [← unhide HB] at this; exact this
    have HI := hide hi
    clear hi
    go_enter Tryd.func24, Tryd.ntmps24
    go_wp2_with fail
    refine (unhide HT _).mono ?_
    rintro e w2 ⟨rfl, rfl⟩
    go_wp2_with fail
    refine (str_ib t 32 _).mono ?_
    rintro e w2 ⟨rfl, rfl⟩
    rw [show Lib.indexByte t.data.toList (32 : Int).toNat.toUInt8 = -1 from unhide HI]
    go_wp2_with fail
    go_region
    go_end0
    exact ⟨rfl, ⟨t, ByteArray.empty, ((HA.out.set0 t).set1 ByteArray.empty).drew, HS.out, htz, by show 0 ≤ _; omega⟩, (((But.refl g w2).set 0 _).set 1 _).drew⟩
  · have hge := Lib.indexByte_ge (bl t) 32
    obtain ⟨i, hin⟩ : ∃ i : Nat, Lib.indexByte (bl t) 32 = i := ⟨(Lib.indexByte (bl t) 32).toNat, by omega⟩
    have HS : Hid (StW (bl (t.extract 0 i)) (bl (t.extract i t.size)) (wdL (bl b))) := by
      have := StW.of_some (l := bl b) (i := i) (by rw [index_byte, ← unhide HB]; exact hin)
      rw [← unhide HB] at this
      show StW _ _ _
      rw [ext_front, ext_end]; exact this
    have hit : i ≤ t.size := by
      have := (next_some (l := bl b) (i := i) (by rw [index_byte, ← unhide HB]; exact hin)).1
      rw [← unhide HB, bl_size] at this; omega
    have z1 : (t.extract 0 i).size ≤ b.size := Nat.le_trans (ext_le _ _ _) htz
    have z2 : (t.extract i t.size).size ≤ b.size := Nat.le_trans (ext_le _ _ _) htz
    have Z1 := hide z1
    have Z2 := hide z2
    have HI := hide hin
    clear hi hge hin z1 z2
    go_enter Tryd.func24, Tryd.ntmps24
    go_wp2_with fail
    refine (unhide HT _).mono ?_
    rintro e w2 ⟨rfl, rfl⟩
    go_wp2_with fail
    refine (str_ib t 32 _).mono ?_
    rintro e w2 ⟨rfl, rfl⟩
    rw [show Lib.indexByte t.data.toList (32 : Int).toNat.toUInt8 = i from unhide HI]
    go_wp2_with fail
    go_region
    go_end0
    exact ⟨rfl, ⟨t.extract 0 i, t.extract i t.size, ((HA.out.set0 _).set1 _).drew, HS.out, unhide Z1, unhide Z2⟩, (((But.refl g w2).set 0 _).set 1 _).drew⟩

/-- What is left goes on to the next word. -/
theorem next_lf (g n : Nat) (ws : Ws) (w : World) (h : Lf w g n ws) (hn : n ≤ 1152921504606846976) :
    Calls Tryd.prog 24 #[.pointer (some ⟨g, 0, none⟩)] w fun e w' => e = .returned (.tuple #[]) ∧ Lf w' g n ws.tail ∧ But g w w' := by
  obtain ⟨a, b, h1, h2, h3, h4⟩ := h
  refine (next_any g a b w h1 (by omega)).mono ?_
  rintro e w' ⟨rfl, ⟨x, y, k1, k2, k3, k4⟩, k5⟩
  rw [h2.2.1] at k2
  exact ⟨rfl, ⟨x, y, k1, k2, by omega, by omega⟩, k5⟩

set_option maxHeartbeats 2000000 in
theorem over_any (g n : Nat) (ws : Ws) (w : World) (h : Lf w g n ws) :
    Calls Tryd.prog 20 #[.pointer (some ⟨g, 0, none⟩)] w fun e w' => e = .returned (.bool ws.isEmpty) ∧ w' = w := by
  obtain ⟨a, b, h1, h2, h3, h4⟩ := h
  have c0 := h1.c0
  have HN := hide h2.of_nil
  clear h1 h2 h3 h4
  cases hw : ws.isEmpty
  · have ha : bl a ≠ [] := by rw [Ne, unhide HN]; intro e; rw [e] at hw; cases hw
    have e1 : a.toList.isEmpty = false := by rw [bl_toList]; cases hx : bl a with
      | nil => exact absurd hx ha
      | cons x y => rfl
    have e2 : (a.toList == []) = false := by rw [bl_toList]; exact beq_eq_false_iff_ne.2 ha
    clear ha hw HN
    go_enter Tryd.func20, Tryd.ntmps20
    go_wp2_with fail
    go_ret
    exact ⟨rfl, rfl⟩
  · have ha : bl a = [] := by rw [unhide HN]; exact List.isEmpty_iff.1 hw
    have ha' : a = ⟨#[]⟩ := of_bl ha
    subst ha'
    clear ha hw HN
    go_enter Tryd.func20, Tryd.ntmps20
    go_wp2_with fail
    go_ret
    exact ⟨rfl, rfl⟩

set_option maxHeartbeats 2000000 in
theorem sign_yes (g n : Nat) (ws : Ws) (x : ByteArray) (w : World) (h : Lf w g n ws) (hn : n ≤ 1152921504606846976) (hx : ws.head? = some (bl x)) :
    Calls Tryd.prog 17 #[.pointer (some ⟨g, 0, none⟩), .string x] w fun e w' => e = .returned (.bool true) ∧ Lf w' g n ws.tail ∧ But g w w' := by
  have H := hide h
  obtain ⟨a, b, h1, h2, h3, h4⟩ := h
  have c0 := h1.c0
  have ha : a = x := by
    have e : bl a = bl x := by
      rw [h2.1]; cases ws with
      | nil => cases hx
      | cons y r => simpa using hx
    rw [of_bl e, mk_bl]
  subst ha
  clear h1 h2 h3 h4 hx
  go_enter Tryd.func17, Tryd.ntmps17
  go_wp2_with fail
  refine (next_lf g n ws w (unhide H) hn).mono ?_
  rintro e w2 ⟨rfl, hl, hb⟩
  have HL := hide hl
  clear hl
  go_wp2_with fail
  go_ret
  exact ⟨rfl, unhide HL, hb⟩

set_option maxHeartbeats 2000000 in
theorem sign_no (g n : Nat) (ws : Ws) (x : ByteArray) (w : World) (h : Lf w g n ws) (hx0 : bl x ≠ []) (hx : ws.head? ≠ some (bl x)) :
    Calls Tryd.prog 17 #[.pointer (some ⟨g, 0, none⟩), .string x] w fun e w' => e = .returned (.bool false) ∧ w' = w := by
  obtain ⟨a, b, h1, h2, h3, h4⟩ := h
  have c0 := h1.c0
  have hne : bl a ≠ bl x := by rw [Ne, h2.is _ hx0]; exact hx
  have e1 : (a.toList == x.toList) = false := by rw [bl_toList, bl_toList]; exact beq_eq_false_iff_ne.2 hne
  have e2 : (a.toList != x.toList) = true := by unfold bne; rw [e1]; rfl
  clear h1 h2 h3 h4 hx hx0 hne
  go_enter Tryd.func17, Tryd.ntmps17
  go_wp2_with fail
  go_ret
  exact ⟨rfl, rfl⟩

set_option maxHeartbeats 2000000 in
theorem name_no (g n : Nat) (ws : Ws) (w : World) (h : Lf w g n ws) (hn : n ≤ 1152921504606846976) (hx : okN (ws.headD []) = false) :
    Calls Tryd.prog 18 #[.pointer (some ⟨g, 0, none⟩)] w fun e w' => e = .returned (.tuple #[.string ⟨#[]⟩, .bool false]) ∧ Q w w' := by
  obtain ⟨a, b, h1, h2, h3, h4⟩ := h
  have c0 := h1.c0
  have HM : Hid (mayB a = false) := by show _ = _; rw [may_okN, h2.1]; exact hx
  clear h1 h2 h4 hx
  go_enter Tryd.func18, Tryd.ntmps18
  go_wp2_with fail
  refine (may_any a _ (by unfold maxLen; omega)).mono ?_
  rintro e w2 ⟨rfl, hq⟩
  rw [HM.out]
  go_wp2_with fail
  go_ret2
  exact ⟨rfl, hq⟩

theorem Lf.q {w w' : World} {g n : Nat} {ws : Ws} (h : Lf w g n ws) (hq : Q w w') : Lf w' g n ws := by
  obtain ⟨a, b, h1, h2, h3, h4⟩ := h
  exact ⟨a, b, h1.q hq, h2, h3, h4⟩

set_option maxHeartbeats 2000000 in
theorem name_yes (g n : Nat) (ws : Ws) (w : World) (h : Lf w g n ws) (hn : n ≤ 1152921504606846976) (hx : okN (ws.headD []) = true) :
    Calls Tryd.prog 18 #[.pointer (some ⟨g, 0, none⟩)] w fun e w' => e = .returned (.tuple #[.string ⟨(ws.headD []).toArray⟩, .bool true]) ∧ Lf w' g n ws.tail ∧ But g w w' := by
  have H := hide h
  obtain ⟨a, b, h1, h2, h3, h4⟩ := h
  have c0 := h1.c0
  have HA := hide h1
  have HM : Hid (mayB a = true) := by show _ = _; rw [may_okN, h2.1]; exact hx
  have HE : Hid ((⟨(ws.headD []).toArray⟩ : ByteArray) = a) := by show _ = _; rw [← h2.1, mk_bl]
  have ha16 : a.size ≤ 16 := by rw [← bl_size, h2.1]; exact (okN_len hx).2.1
  clear h1 h2 h4 hx
  go_enter Tryd.func18, Tryd.ntmps18
  go_wp2_with fail
  refine (may_any a _ (by unfold maxLen; omega)).mono ?_
  rintro e w2 ⟨rfl, hq⟩
  rw [HM.out]
  have c2 : w2.cell? ⟨g, 0, none⟩ = some (.string a) := ((unhide HA).q hq).c0
  go_wp2_with fail
  refine (clone_any a _ (by omega)).mono ?_
  rintro e w3 ⟨rfl, hq3⟩
  go_wp2_with fail
  refine (next_lf g n ws w3 (((unhide H).q hq).q hq3) hn).mono ?_
  rintro e w4 ⟨rfl, hl, hb⟩
  have HL := hide hl
  clear hl
  go_wp2_with fail
  go_ret2
  rw [HE.out]
  exact ⟨rfl, unhide HL, (But.of_q (hq.trans hq3)).trans hb⟩

set_option maxHeartbeats 2000000 in
theorem rowOf_any (s : ByteArray) (w : World) (hs : s.size ≤ 1152921504606846976) :
    Calls Tryd.prog 15 #[.string s] w fun e w' => e = .returned (.pointer (some ⟨w.heap.size, 0, none⟩)) ∧ Lf w' w.heap.size s.size (wdL (bl s)) ∧ Q w w' ∧ w.heap.size < w'.heap.size := by
  have HA : ∀ t, Hid (At (w.alloc (.cells #[.string ⟨#[]⟩, .string s] t)) w.heap.size ⟨#[]⟩ s) := fun t => ⟨by simp, by simp, by simp, fun r => by simp⟩
  go_enter Tryd.func15, Tryd.ntmps15
  go_wp2_with fail
  refine (next_any w.heap.size ⟨#[]⟩ s _ (HA _).out hs).mono ?_
  rintro e w2 ⟨rfl, ⟨x, y, k1, k2, k3, k4⟩, k5⟩
  have HL : Hid (Lf w2 w.heap.size s.size (wdL (bl s))) := ⟨x, y, k1, k2, k3, k4⟩
  have hq : Q w w2 := k5.new
  have hlt : w.heap.size < w2.heap.size := k1.hi
  clear k1 k2 k3 k4 k5 HA
  go_wp2_with fail
  go_ret
  exact ⟨rfl, HL.out, hq, hlt⟩

end Go.Proofs.YtloeileblkleoaaDoor
