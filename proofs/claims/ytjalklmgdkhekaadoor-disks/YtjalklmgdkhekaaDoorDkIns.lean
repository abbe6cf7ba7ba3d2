/- What the library's Insert and Delete leave of a row of files that the call owns, one file in, one out; the conditions: at most 4096 files. -/
import Derived.Test.YtjalklmgdkhekaaDoorDkState
import Derived.Lib.Overlaps
namespace Go.Proofs.YtjalklmgdkhekaaDoor
open Go.RowKit

theorem blk_news {w : World} {g : Nat} {cs : Array Value} {t : TypeId} (h : Blk w g cs t) : ∀ j u, cs.toList[j]? = some u → w.cell? ((⟨g, 0, none⟩ : Addr).add j) = some u := World.news_of_block h

set_option maxRecDepth 20000 in
set_option maxHeartbeats 4000000 in
theorem ins_end (fs : List Fl) (f : Fl) (ao : Option Addr) (cap B vb : Nat) (w : World) (hown : OwnK w B ao cap fs) (hv : Blk w vb (fv f).toArray 34) (hB : B ≤ w.heap.size) (hn : fs.length ≤ 4096) :
    Calls Tryd.prog 21 #[.slice ao fs.length cap, .int .i64 fs.length, .slice (some ⟨vb, 0, none⟩) 1 1] w fun e w' => ∃ ao' cap', e = .returned (.slice ao' (fs.length + 1) cap') ∧ OwnK w' B ao' cap' (fs ++ [f]) ∧ Fr (fun k => (Value.slice ao fs.length cap).ownBlock = some k) w w' := by
  obtain ⟨i0, hi, hz0, hz1, hz2⟩ := info_parts Tryd.infoK
  obtain ⟨hle, hcm, _⟩ := own_le hown
  have HO := hide hown
  have HS := hide (show SrcRow w 3 (some ⟨vb, 0, none⟩) 1 (fv f) from ⟨rfl, Or.inr ⟨_, rfl, blk_news hv⟩⟩)
  have c0 : (fs.length : Int) ≤ (cap : Int) := by omega
  have c1 : (0 : Int) ≤ (fs.length : Int) := by omega
  have c2 : fs.length ≤ cap := hle
  unfold maxLen at hcm
  clear hown hv
  cases ao with
  | none =>
    have h0 : fs.length = 0 ∧ cap = 0 := by
      rcases (unhide HO).2 with ⟨e1, e2⟩ | ⟨g, c, cur, e1, _⟩
      · simp only [Value.slice.injEq] at e1; exact ⟨e2, e1.2.2⟩
      · cases e1
    have hnil : fs = [] := List.eq_nil_of_length_eq_zero h0.1
    subst hnil
    obtain rfl := h0.2
    go_enter Tryd.func21, Tryd.ntmps21
    go_wp2_with (at_builtin; refine wpList_append_row rfl _ _ 22 rfl B 34 i0 _ 3 32 Tryd.underlying22 hi hz0 hz1 hz2 rfl (by decide) none 0 0 (lay fv []) rfl (unhide HO) (some ⟨vb, 0, none⟩) 1 1 (fv f) rfl (unhide HS) (one_fv f) (by unfold maxLen; omega) (by omega) hB ?_)
    intro ao' cap' w' hown' hgrow
    have HO' := hide hown'
    have HG := hide hgrow
    clear hown' hgrow
    go_wp2_with fail
    go_ret
    exact ⟨ao', cap', rfl, OwnK.snoc (unhide HO'), Fr.mono (Fr.grown (unhide HG)) (fun k hk => hk)⟩
  | some ad =>
    obtain ⟨g, off, sp⟩ := ad
    have hao : off = 0 ∧ sp = none := by
      rcases (unhide HO).2 with ⟨e1, e2⟩ | ⟨g, c, cur, e1, _⟩
      · cases e1
      · cases e1; exact ⟨rfl, rfl⟩
    obtain ⟨rfl, rfl⟩ := hao
    have h63 : fs.length + 1 ≤ maxLen := by unfold maxLen; omega
    have h48 : (fs.length + 1) * 32 ≤ 140737488355328 := by omega
    by_cases hc : cap = fs.length
    all_goals
      go_enter Tryd.func21, Tryd.ntmps21
      go_wp2_with (at_builtin; refine wpList_append_row rfl _ _ 22 rfl B 34 i0 _ 3 32 Tryd.underlying22 hi hz0 hz1 hz2 rfl (by decide) (some ⟨g, 0, none⟩) fs.length _ (lay fv fs) rfl (unhide HO) (some ⟨vb, 0, none⟩) 1 1 (fv f) rfl (unhide HS) (one_fv f) h63 h48 hB ?_)
      intro ao' cap' w' hown' hgrow
      have HO' := hide hown'
      have HG := hide hgrow
      clear hown' hgrow
      go_wp2_with fail
      go_ret
      exact ⟨ao', cap', rfl, OwnK.snoc (unhide HO'), Fr.mono (Fr.grown (unhide HG)) (fun k hk => hk)⟩

theorem zero_one : (Builtin.zeroCells (Value.agg #[.string ByteArray.empty, .int .i64 0, .int .i64 0]).cells 1).toList = [.string ByteArray.empty, .int .i64 0, .int .i64 0] := by simp [Builtin.zeroCells, Value.cells, Array.range]
theorem splK_take {cur : List Value} {o : Nat} {cs : List Value} (h : o ≤ cur.length) {n : Nat} (hn : n = o + cs.length) : (splK cur o cs).take n = cur.take o ++ cs := by
  subst hn
  unfold splK
  rw [List.take_append_of_le_length (by simp; omega), List.take_of_length_le (by simp; omega)]
theorem splK_take_lo {cur : List Value} {o : Nat} {cs : List Value} {n : Nat} (h : n ≤ o) (h2 : o ≤ cur.length) : (splK cur o cs).take n = cur.take n := by
  unfold splK
  rw [List.append_assoc, List.take_append_of_le_length (by simp; omega), List.take_take, Nat.min_eq_left h]
theorem splK_toArray_size {cur : List Value} {o : Nat} {cs : List Value} (h : o + cs.length ≤ cur.length) : (splK cur o cs).toArray.size = cur.length := by
  rw [List.size_toArray, splK_len h]
theorem blk_size {cur : Array Value} : cur.toList.length = cur.size := Array.length_toList

set_option maxRecDepth 20000 in
set_option maxHeartbeats 4000000 in
theorem ins_grow (fs : List Fl) (f : Fl) (g cap B vb a : Nat) (w : World) (hown : OwnK w B (some ⟨g, 0, none⟩) cap fs) (hv : Blk w vb (fv f).toArray 34) (hB : B ≤ w.heap.size) (hn : fs.length ≤ 4096) (ha : a < fs.length) (hcap : cap = fs.length) :
    Calls Tryd.prog 21 #[.slice (some ⟨g, 0, none⟩) fs.length cap, .int .i64 a, .slice (some ⟨vb, 0, none⟩) 1 1] w fun e w' => ∃ ao' cap', e = .returned (.slice ao' (fs.length + 1) cap') ∧ OwnK w' B ao' cap' (fs.take a ++ f :: fs.drop a) ∧ Q w w' := by
  obtain ⟨i0, hi, hz0, hz1, hz2⟩ := info_parts Tryd.infoK
  obtain ⟨cur, hcur, hgB, _, hcm, hcs, hct⟩ := own_blkK hown
  have hsz : (Tryd.prog.info? 34).map (·.size) = some 3 := by rw [hi]; simp [hz1]
  have hl3 : (lay fv fs).length = fs.length * 3 := lay_length fv_len fs
  have hold := hide (show ∀ j v, ((lay fv fs).take (a * 3))[j]? = some v → w.cell? ((⟨g, 0, none⟩ : Addr).add j) = some v from fun j v hj => by
    rw [Addr.add_lit, Nat.zero_add]
    refine hcur.cell j ?_
    rw [← Array.getElem?_toList]
    rw [List.getElem?_take] at hj
    split at hj
    · rw [← hct, List.getElem?_take] at hj
      split at hj
      · exact hj
      · cases hj
    · cases hj)
  have hsrc := hide (show ∀ (w' : World), Q w w' → ∀ j v, ((lay fv fs).drop (a * 3))[j]? = some v → w'.cell? ((⟨g, a * 3, none⟩ : Addr).add j) = some v from fun w' q j v hj => by
    rw [Addr.add_lit]
    refine (hcur.q q).cell (a * 3 + j) ?_
    rw [← Array.getElem?_toList]
    rw [List.getElem?_drop, ← hct, List.getElem?_take] at hj
    split at hj
    · exact hj
    · cases hj)
  have hol : ((lay fv fs).take (a * 3)).length = a * 3 := by rw [List.length_take, hl3]; omega
  have hdl : ((lay fv fs).drop (a * 3)).length = (fs.length - a) * 3 := by rw [List.length_drop, hl3]; omega
  have HL : Hid (lay fv (fs.take a ++ f :: fs.drop a) = (lay fv fs).take (a * 3) ++ fv f ++ (lay fv fs).drop (a * 3)) := by
    show _ = _
    rw [lay_app, lay_cons, lay_take fv_len, lay_drop fv_len, List.append_assoc]
  have h1T := hide (fun u (hu : u ∈ (lay fv fs).drop (a * 3)) => one_layK fs u (List.mem_of_mem_drop hu))
  have HV := hide hv
  have hgw := hcur.hi
  have hvw := hv.hi
  clear hown hcur hct hcs hgB hv
  generalize (lay fv fs).take (a * 3) = OL at *
  generalize (lay fv fs).drop (a * 3) = DR at *
  have hz2' : ¬ ((a : Int) = (fs.length : Int)) := by omega
  have hz3 : (cap : Int) < (fs.length : Int) + 1 := by omega
  have hw1 : IntKind.i64.wrap ((a : Int) + 1) = (a : Int) + 1 := by rw [IntKind.wrap_i64]; omega
  have hw2 : IntKind.i64.wrap ((fs.length : Int) + 1) = (fs.length : Int) + 1 := by rw [IntKind.wrap_i64]; omega
  have hb0 : (0 : Int) ≤ (a : Int) := by omega
  have hb1 : (0 : Int) ≤ (a : Int) + 1 := by omega
  have hb2 : (a : Int) ≤ (fs.length : Int) := by omega
  have hb3 : (a : Int) ≤ (cap : Int) := by omega
  have htn : ((a : Int) + 1).toNat = a + 1 := by omega
  have hci : ¬ (cap = a) := by omega
  have hin : a ≤ fs.length := by omega
  have hkk : (fs.length : Int) + 1 - (a : Int) = ((fs.length + 1 - a : Nat) : Int) := by omega
  have hik : a + (fs.length + 1 - a) = fs.length + 1 := by omega
  have HKK := hide hkk
  have HC := hide hcap
  clear hkk hcap
  go_enter Tryd.func21, Tryd.ntmps21
  go_wp2_with (at_builtin; refine wpList_append_z rfl _ _ 22 3 rfl 34 i0 _ 3 32 Tryd.underlying22 Tryd.underlying3 hi hz0 hz1 hz2 rfl (by decide) ⟨g, 0, none⟩ a cap OL rfl hol (unhide hold) _ (fs.length + 1 - a) (unhide HKK) rfl (by omega) (by have := unhide HC; omega) (by unfold maxLen; omega) (by omega) w.heap.size rfl ?_)
  intro G w1 zs hG1 hG2 hzs hb1' q1
  have hGi : ¬ (G = a) := by omega
  have hGim : ¬ (G = a + 1) := by omega
  have hG63 : (G : Int) ≤ 9223372036854775807 := by unfold maxLen at hG2; omega
  have hGl : (fs.length : Int) + 1 ≤ (G : Int) := by omega
  have HZ : Hid ((OL ++ zs).toArray.size = G * 3) := by
    show _ = _
    rw [List.size_toArray, List.length_append, hol, unhide hzs, ← Nat.add_mul]; congr 1; omega
  have HF1 : a * 3 + (fv f).length ≤ (OL ++ zs).toArray.size := by rw [unhide HZ, fv_len]; omega
  have HF1' := hide HF1
  have HN1 := hide (show (fv f).length = Nat.min 1 (fs.length + 1 - a) * 3 by rw [fv_len, show Nat.min 1 (fs.length + 1 - a) = 1 from Nat.min_eq_left (by omega)])
  have HQ1 := hide (show Q w w1 from q1)
  clear q1 HF1
  go_wp2_with (refine wpList_copy_k rfl _ _ 22 22 rfl 34 Tryd.underlying22 3 hsz w.heap.size (a * 3) _ _ ⟨vb, 0, none⟩ 1 1 rfl rfl (OL ++ zs).toArray 34 (unhide hb1') (fv f) (unhide HN1) (blk_news ((unhide HV).q (unhide HQ1))) (unhide HF1') (one_fv f) ?_)
  intro w2 hb2' fr2
  have HQ2 : Hid (Q w w2) := Below.trans (unhide HQ1) (fr2.below (unhide HQ1).size (fun k hk => by omega))
  have HZ2 : Hid ((splK (OL ++ zs).toArray.toList (a * 3) (fv f)).toArray.size = G * 3) := by
    show _ = _
    rw [splK_toArray_size (by rw [blk_size]; exact unhide HF1'), blk_size, unhide HZ]
  have HF2 : Hid ((a + 1) * 3 + DR.length ≤ (splK (OL ++ zs).toArray.toList (a * 3) (fv f)).toArray.size) := by
    show _ ≤ _
    rw [unhide HZ2, hdl, ← Nat.add_mul]; exact Nat.mul_le_mul_right _ (by omega)
  have HN2 := hide (show DR.length = Nat.min (fs.length - a) (fs.length + 1 - (a + 1)) * 3 by rw [hdl, show Nat.min (fs.length - a) (fs.length + 1 - (a + 1)) = fs.length - a from Nat.min_eq_left (by omega)])
  have HTK : Hid ((splK (splK (OL ++ zs).toArray.toList (a * 3) (fv f)).toArray.toList ((a + 1) * 3) DR).take ((fs.length + 1) * 3) = OL ++ fv f ++ DR) := by
    show _ = _
    rw [splK_take (by have := unhide HZ2; rw [← blk_size] at this; rw [this]; exact Nat.mul_le_mul_right _ (by omega)) (by rw [hdl]; omega)]
    congr 1
    show (splK _ _ _).take _ = _
    rw [splK_take (by have := unhide HF1'; rw [← blk_size] at this; omega) (by rw [fv_len]; omega)]
    congr 1
    show (OL ++ zs).take (a * 3) = _
    rw [List.take_left' hol]
  clear fr2 HF1' HN1 HZ hol
  generalize (splK (OL ++ zs).toArray.toList (a * 3) (fv f)).toArray = c2 at *
  have HSR := hide (fun w' (q : Q w2 w') => unhide hsrc w' ((unhide HQ2).trans q))
  clear hsrc hold
  go_wp2_with fail
  go_region_law (refine step_copy_k rfl _ _ 22 22 rfl 34 Tryd.underlying22 3 hsz w.heap.size ((a + 1) * 3) (fs.length + 1 - (a + 1)) (G - (a + 1)) ⟨g, a * 3, none⟩ (fs.length - a) (cap - a) (by simp [Act.eval, Act.put]) (by simp [Act.eval, Act.put]) c2 34 (unhide hb2').drew DR (unhide HN2) (unhide HSR _ (Q.refl _).drew) (unhide HF2) (unhide h1T) ?_; intro w3 hb3' fr3)
  have HQ3 := hide (Below.trans (unhide HQ2).drew (fr3.below (unhide HQ2).drew.size (fun k hk => by omega)))
  have hl' : (fs.take a ++ f :: fs.drop a).length = fs.length + 1 := by simp; omega
  have HON : Hid (OwnK w3 B (some ⟨w.heap.size, 0, none⟩) G (fs.take a ++ f :: fs.drop a)) := by
    refine own_ofK (unhide hb3') hB (by rw [hl']; exact hG1) hG2 ?_ ?_
    · have := unhide HZ2
      rw [splK_toArray_size (by rw [blk_size]; exact unhide HF2), blk_size, this]
    · rw [hl']
      exact (unhide HTK).trans (unhide HL).symm
  clear hb3' hb2' fr3 HTK HL
  go_wp2_with fail
  go_ret
  exact ⟨some ⟨w.heap.size, 0, none⟩, G, rfl, unhide HON, unhide HQ3⟩

theorem shape_blk {w : World} {g : Nat} {cs : Array Value} {t : TypeId} (h : Blk w g cs t) : w.shape? g = some (t, cs.size) := by
  have h' : w.heap[g]? = some (.cells cs t (0, 0)) := h
  simp [World.shape?, h']

set_option maxRecDepth 20000 in
set_option maxHeartbeats 4000000 in
theorem ins_shift (fs : List Fl) (f : Fl) (g cap B vb a : Nat) (w : World) (hown : OwnK w B (some ⟨g, 0, none⟩) cap fs) (hv : Blk w vb (fv f).toArray 34) (hn : fs.length ≤ 4096) (ha : a < fs.length) (hcap : fs.length < cap) (hne : vb ≠ g) :
    Calls Tryd.prog 21 #[.slice (some ⟨g, 0, none⟩) fs.length cap, .int .i64 a, .slice (some ⟨vb, 0, none⟩) 1 1] w fun e w' => ∃ ao' cap', e = .returned (.slice ao' (fs.length + 1) cap') ∧ OwnK w' B ao' cap' (fs.take a ++ f :: fs.drop a) ∧ Fr (fun k => k = g) w w' := by
  obtain ⟨i0, hi, hz0, hz1, hz2⟩ := info_parts Tryd.infoK
  obtain ⟨cur, hcur, hgB, _, hcm, hcs, hct⟩ := own_blkK hown
  have hsz : (Tryd.prog.info? 34).map (·.size) = some 3 := by rw [hi]; simp [hz1]
  have hl3 : (lay fv fs).length = fs.length * 3 := lay_length fv_len fs
  have hsrc := hide (show ∀ (w' : World), Q w w' → ∀ j v, ((lay fv fs).drop (a * 3))[j]? = some v → w'.cell? ((⟨g, a * 3, none⟩ : Addr).add j) = some v from fun w' q j v hj => by
    rw [Addr.add_lit]
    refine (hcur.q q).cell (a * 3 + j) ?_
    rw [← Array.getElem?_toList]
    rw [List.getElem?_drop, ← hct, List.getElem?_take] at hj
    split at hj
    · exact hj
    · cases hj)
  have hdl : ((lay fv fs).drop (a * 3)).length = (fs.length - a) * 3 := by rw [List.length_drop, hl3]; omega
  have HL : Hid (lay fv (fs.take a ++ f :: fs.drop a) = (lay fv fs).take (a * 3) ++ fv f ++ (lay fv fs).drop (a * 3)) := by
    show _ = _
    rw [lay_app, lay_cons, lay_take fv_len, lay_drop fv_len, List.append_assoc]
  have h1T := hide (fun u (hu : u ∈ (lay fv fs).drop (a * 3)) => one_layK fs u (List.mem_of_mem_drop hu))
  have HV := hide hv
  have hgw := hcur.hi
  have hov : ∀ lb cb, (callFunc 35 #[.slice (some ⟨vb, 0, none⟩) 1 1, .slice (some ⟨g, (a + 1) * 3, none⟩) lb cb]).run Tryd.prog w = .ok (.value (.bool false)) w := fun lb cb => by
    rw [run_callFunc_extern Tryd.func35 (by kernel_rfl) (by kernel_rfl) (by kernel_rfl) (e := Extern.SlicesOverlaps.overlaps #[22, 22] #[4]) (by kernel_rfl),
      Lib.run_overlaps_apart w 22 4 34 Tryd.underlying22 3 Tryd.sizeOf34 ⟨vb, 0, none⟩ ⟨g, (a + 1) * 3, none⟩ 1 1 lb cb hne _ _ _ _ (shape_blk hv) (shape_blk hcur) (by rw [hcs]; omega) (hv.frz _) (hv.frz _)]
    rfl
  have HTO : Hid (cur.toList.take (a * 3) = (lay fv fs).take (a * 3)) := by
    show _ = _
    rw [← hct, List.take_take, Nat.min_eq_left (by omega)]
  have HZ : Hid (cur.size = cap * 3) := hcs
  have HCU := hide hcur
  clear hown hcur hct hcs hv
  generalize (lay fv fs).take (a * 3) = OL at *
  generalize (lay fv fs).drop (a * 3) = DR at *
  have hz2' : ¬ ((a : Int) = (fs.length : Int)) := by omega
  have hz3 : ¬ ((cap : Int) < (fs.length : Int) + 1) := by omega
  have hw1 : IntKind.i64.wrap ((a : Int) + 1) = (a : Int) + 1 := by rw [IntKind.wrap_i64]; omega
  have hw2 : IntKind.i64.wrap ((fs.length : Int) + 1) = (fs.length : Int) + 1 := by rw [IntKind.wrap_i64]; omega
  have hb0 : (0 : Int) ≤ (a : Int) := by omega
  have hb1 : (0 : Int) ≤ (a : Int) + 1 := by omega
  have hb2 : (a : Int) ≤ (fs.length : Int) := by omega
  have hb3 : (a : Int) ≤ (cap : Int) := by omega
  have hb4 : (a : Int) ≤ (fs.length : Int) + 1 := by omega
  have hb5 : (fs.length : Int) + 1 ≤ (cap : Int) := by omega
  have hb6 : (0 : Int) ≤ (fs.length : Int) + 1 := by omega
  have htn : ((a : Int) + 1).toNat = a + 1 := by omega
  have htn2 : ((fs.length : Int) + 1).toNat = fs.length + 1 := by omega
  have hci : ¬ (cap = a) := by omega
  have hci2 : ¬ (cap = a + 1) := by omega
  have hin : a ≤ fs.length := by omega
  have HC := hide hcap
  have HF1 : Hid ((a + 1) * 3 + DR.length ≤ cur.size) := by
    show _ ≤ _
    rw [unhide HZ, hdl, ← Nat.add_mul]; exact Nat.mul_le_mul_right _ (by omega)
  have HN1 := hide (show DR.length = Nat.min (fs.length + 1 - a) (fs.length + 1 - (a + 1)) * 3 by rw [hdl, show Nat.min (fs.length + 1 - a) (fs.length + 1 - (a + 1)) = fs.length - a from (Nat.min_eq_right (by omega)).trans (by omega)])
  have HN2 := hide (show (fv f).length = Nat.min 1 (fs.length + 1 - a) * 3 by rw [fv_len, show Nat.min 1 (fs.length + 1 - a) = 1 from Nat.min_eq_left (by omega)])
  clear hcap
  go_enter Tryd.func21, Tryd.ntmps21
  go_wp2_with (simp only [hov])
  go_region_law (refine step_copy_k rfl _ _ 22 22 rfl 34 Tryd.underlying22 3 hsz g ((a + 1) * 3) (fs.length + 1 - (a + 1)) (cap - (a + 1)) ⟨g, a * 3, none⟩ (fs.length + 1 - a) (cap - a) (by simp [Act.eval, Act.put]) (by simp [Act.eval, Act.put]) cur 34 (unhide HCU).drew DR (unhide HN1) (unhide hsrc _ (Q.refl _).drew) (unhide HF1) (unhide h1T) ?_; intro w1 hb1' fr1)
  have HF1b := hide (Fr.trans (Fr.drew (Fr.refl _ w)) fr1)
  have HZ2 : Hid ((splK cur.toList ((a + 1) * 3) DR).toArray.size = cap * 3) := by
    show _ = _
    rw [splK_toArray_size (by rw [blk_size]; exact unhide HF1), blk_size, unhide HZ]
  have HF2 : Hid (a * 3 + (fv f).length ≤ (splK cur.toList ((a + 1) * 3) DR).toArray.size) := by
    show _ ≤ _
    rw [unhide HZ2, fv_len]; omega
  have HTK : Hid ((splK (splK cur.toList ((a + 1) * 3) DR).toArray.toList (a * 3) (fv f)).take ((fs.length + 1) * 3) = OL ++ fv f ++ DR) := by
    show _ = _
    have hcl : cur.toList.length = cap * 3 := by rw [blk_size]; exact unhide HZ
    show (splK (splK cur.toList ((a + 1) * 3) DR) (a * 3) (fv f)).take _ = _
    have e0 : splK cur.toList ((a + 1) * 3) DR = OL ++ (cur.toList.drop (a * 3)).take 3 ++ DR ++ cur.toList.drop ((a + 1) * 3 + DR.length) := by
      unfold splK
      rw [← unhide HTO, show (a + 1) * 3 = a * 3 + 3 by omega, List.take_add]
    have hol : OL.length = a * 3 := by rw [← unhide HTO, List.length_take, hcl]; omega
    have h33 : ((cur.toList.drop (a * 3)).take 3).length = 3 := by rw [List.length_take, List.length_drop, hcl]; omega
    rw [e0]
    generalize (cur.toList.drop (a * 3)).take 3 = MD at *
    generalize cur.toList.drop ((a + 1) * 3 + DR.length) = EN at *
    unfold splK
    have e1 : (OL ++ MD ++ DR ++ EN).take (a * 3) = OL := by
      rw [List.append_assoc, List.append_assoc, List.take_left' hol]
    have e2 : (OL ++ MD ++ DR ++ EN).drop (a * 3 + (fv f).length) = DR ++ EN := by
      rw [List.append_assoc, List.drop_left' (by rw [List.length_append, hol, h33, fv_len])]
    rw [e1, e2, ← List.append_assoc, List.take_left' (by rw [List.length_append, List.length_append, hol, fv_len, hdl]; omega)]
  have HV1 := hide ((unhide HV).drew.fr fr1 (fun e => hne e))
  clear fr1 HV hsrc HTO
  go_wp2_with (refine wpList_copy_k rfl _ _ 22 22 rfl 34 Tryd.underlying22 3 hsz g (a * 3) _ _ ⟨vb, 0, none⟩ 1 1 rfl rfl (splK cur.toList ((a + 1) * 3) DR).toArray 34 (unhide hb1') (fv f) (unhide HN2) (blk_news (unhide HV1)) (unhide HF2) (one_fv f) ?_)
  intro w2 hb2' fr2
  have HFR := hide (Fr.trans (unhide HF1b) fr2)
  have hl' : (fs.take a ++ f :: fs.drop a).length = fs.length + 1 := by simp; omega
  have HON : Hid (OwnK w2 B (some ⟨g, 0, none⟩) cap (fs.take a ++ f :: fs.drop a)) := by
    refine own_ofK (unhide hb2') hgB (by rw [hl']; exact unhide HC) hcm ?_ ?_
    · rw [splK_toArray_size (by rw [blk_size]; exact unhide HF2), blk_size, unhide HZ2]
    · rw [hl']
      exact (unhide HTK).trans (unhide HL).symm
  clear hb2' hb1' fr2 HTK HL
  go_wp2_with fail
  go_ret
  exact ⟨some ⟨g, 0, none⟩, cap, rfl, unhide HON, unhide HFR⟩

/-- One file is put in at a place. -/
theorem insert_any (fs : List Fl) (f : Fl) (ao : Option Addr) (cap B vb a : Nat) (w : World) (hown : OwnK w B ao cap fs) (hv : Blk w vb (fv f).toArray 34) (hB : B ≤ w.heap.size) (hn : fs.length ≤ 4096) (ha : a ≤ fs.length) (hne : (Value.slice ao fs.length cap).ownBlock ≠ some vb) :
    Calls Tryd.prog 21 #[.slice ao fs.length cap, .int .i64 a, .slice (some ⟨vb, 0, none⟩) 1 1] w fun e w' => ∃ ao' cap', e = .returned (.slice ao' (fs.length + 1) cap') ∧ OwnK w' B ao' cap' (fs.take a ++ f :: fs.drop a) ∧ Fr (fun k => (Value.slice ao fs.length cap).ownBlock = some k) w w' := by
  by_cases he : a = fs.length
  · subst he
    rw [List.take_length, List.drop_length]
    exact ins_end fs f ao cap B vb w hown hv hB hn
  · obtain ⟨g, rfl, hgB, _⟩ := own_some fv_len (by decide) (by omega) hown
    have hle := own_le hown
    by_cases hc : cap = fs.length
    · refine (ins_grow fs f g cap B vb a w hown hv hB hn (by omega) hc).mono ?_
      rintro e w' ⟨ao', cap', rfl, h1, q⟩
      exact ⟨ao', cap', rfl, h1, Fr.of_q q⟩
    · refine (ins_shift fs f g cap B vb a w hown hv hn (by omega) (by omega) (fun e => hne (by rw [e]; rfl))).mono ?_
      rintro e w' ⟨ao', cap', rfl, h1, q⟩
      exact ⟨ao', cap', rfl, h1, q.mono (fun k hk => by rw [hk]; rfl)⟩

set_option maxRecDepth 20000 in
set_option maxHeartbeats 4000000 in
/-- One file is taken out of a place. -/
theorem delete_any (fs : List Fl) (g cap B a : Nat) (w : World) (hown : OwnK w B (some ⟨g, 0, none⟩) cap fs) (hn : fs.length ≤ 4096) (ha : a < fs.length) :
    Calls Tryd.prog 25 #[.slice (some ⟨g, 0, none⟩) fs.length cap, .int .i64 a, .int .i64 ((a : Int) + 1)] w fun e w' => e = .returned (.slice (some ⟨g, 0, none⟩) (fs.length - 1) cap) ∧ OwnK w' B (some ⟨g, 0, none⟩) cap (fs.take a ++ fs.drop (a + 1)) ∧ Fr (fun k => k = g) w w' := by
  obtain ⟨i0, hi, hz0, hz1, hz2⟩ := info_parts Tryd.infoK
  obtain ⟨cur, hcur, hgB, hle, hcm, hcs, hct⟩ := own_blkK hown
  have hl3 : (lay fv fs).length = fs.length * 3 := lay_length fv_len fs
  have hdl : ((lay fv fs).drop ((a + 1) * 3)).length = (fs.length - (a + 1)) * 3 := by rw [List.length_drop, hl3, ← Nat.sub_mul]
  obtain ⟨A, hA, hsrc⟩ : ∃ A : Addr, (if cap = a + 1 then some (⟨g, 0, none⟩ : Addr) else some ⟨g, (a + 1) * 3, none⟩) = some A ∧ Hid (∀ j v, ((lay fv fs).drop ((a + 1) * 3))[j]? = some v → w.drew.cell? (A.add j) = some v) := by
    by_cases h : cap = a + 1
    · refine ⟨⟨g, 0, none⟩, by simp [h], fun j v hj => ?_⟩
      have h0 : ((lay fv fs).drop ((a + 1) * 3)).length = 0 := by rw [hdl]; omega
      rw [List.length_eq_zero_iff.1 h0] at hj
      simp at hj
    · refine ⟨⟨g, (a + 1) * 3, none⟩, by simp [h], fun j v hj => ?_⟩
      rw [Addr.add_lit]
      refine hcur.drew.cell ((a + 1) * 3 + j) ?_
      rw [← Array.getElem?_toList]
      rw [List.getElem?_drop, ← hct, List.getElem?_take] at hj
      split at hj
      · exact hj
      · cases hj
  have HL : Hid (lay fv (fs.take a ++ fs.drop (a + 1)) = (lay fv fs).take (a * 3) ++ (lay fv fs).drop ((a + 1) * 3)) := by
    show _ = _
    rw [lay_app, lay_take fv_len, lay_drop fv_len]
  have h1T := hide (fun u (hu : u ∈ (lay fv fs).drop ((a + 1) * 3)) => one_layK fs u (List.mem_of_mem_drop hu))
  have HTO : Hid (cur.toList.take (a * 3) = (lay fv fs).take (a * 3)) := by
    show _ = _
    rw [← hct, List.take_take, Nat.min_eq_left (by omega)]
  have HZ : Hid (cur.size = cap * 3) := hcs
  have HCU := hide hcur
  have HF1 : Hid (a * 3 + ((lay fv fs).drop ((a + 1) * 3)).length ≤ cur.size) := by
    show _ ≤ _
    rw [unhide HZ, hdl, ← Nat.add_mul]; exact Nat.mul_le_mul_right _ (by omega)
  clear hown hcur hct hcs
  generalize (lay fv fs).take (a * 3) = OL at *
  generalize (lay fv fs).drop ((a + 1) * 3) = DR at *
  have hw1 : IntKind.i64.wrap ((a : Int) + 1) = (a : Int) + 1 := by rw [IntKind.wrap_i64]; omega
  have hz : ¬ ((a : Int) = (a : Int) + 1) := by omega
  have hb0 : (0 : Int) ≤ (a : Int) := by omega
  have hb1 : (0 : Int) ≤ (a : Int) + 1 := by omega
  have hb2 : (a : Int) ≤ (a : Int) + 1 := by omega
  have hb3 : (a : Int) + 1 ≤ (fs.length : Int) := by omega
  have hb4 : (fs.length : Int) ≤ (cap : Int) := by omega
  have hb5 : (a : Int) ≤ (cap : Int) := by omega
  have hb6 : (a : Int) ≤ (fs.length : Int) := by omega
  have htn : ((a : Int) + 1).toNat = a + 1 := by omega
  have hci : ¬ (cap = a) := by omega
  have hle2 : a + 1 ≤ cap := by omega
  have hle3 : a ≤ cap := by omega
  have hsm : a + (fs.length - (a + 1)) = fs.length - 1 := by omega
  go_enter Tryd.func25, Tryd.ntmps25
  go_wp2_with fail
  go_region_law (refine step_append_in rfl (.tmp 22) (.tmp 25) 22 rfl 34 i0 3 Tryd.underlying22 hi hz1 g a cap (by simp [Act.eval, Act.put]) cur 34 (unhide HCU).drew A (fs.length - (a + 1)) (cap - (a + 1)) DR (by simp [Act.eval, Act.put]) hdl (unhide hsrc) (unhide h1T) (by omega) (unhide HF1) ?_; intro w1 hb1' fr1)
  have hl' : (fs.take a ++ fs.drop (a + 1)).length = fs.length - 1 := by simp; omega
  have HL2 := hide (show fs.length = (fs.length - 1) + 1 by omega)
  have HW := hide (show fs.length - 1 = a + DR.length / 3 by rw [hdl, Nat.mul_div_cancel _ (by decide)]; omega)
  generalize hm1 : fs.length - 1 = m1 at *
  have d1 : fs.length - m1 = 1 := by omega
  have d2 : (m1 : Int) ≤ (fs.length : Int) := by omega
  have d3 : (0 : Int) ≤ (m1 : Int) := by omega
  have d4 : ¬ (cap = m1) := by omega
  have d5 : m1 ≤ cap := by omega
  have d6 : (m1 : Int) ≤ (cap : Int) := by omega
  have HFR := hide (Fr.trans (Fr.drew (Fr.refl _ w)) fr1)
  have HZ2 : Hid ((splK cur.toList (a * 3) DR).toArray.size = cap * 3) := by
    show _ = _
    rw [splK_toArray_size (by rw [blk_size]; exact unhide HF1), blk_size, unhide HZ]
  have HF2 : Hid (m1 * 3 + 3 ≤ (splK cur.toList (a * 3) DR).toArray.size) := by
    show _ ≤ _
    rw [unhide HZ2]; omega
  have HTK : Hid ((splK cur.toList (a * 3) DR).toArray.toList.take (m1 * 3) = OL ++ DR) := by
    show (splK cur.toList (a * 3) DR).take (m1 * 3) = _
    rw [splK_take (by rw [blk_size]; have := unhide HF1; omega) (by rw [hdl]; omega), unhide HTO]
  have HB1 := hide (unhide hb1')
  generalize (splK cur.toList (a * 3) DR).toArray = c1 at *
  have hcl : ∀ ty c, (Builtin.clear_ #[22] ty #[.slice (some ⟨g, m1 * 3, none⟩) 1 c]).run Tryd.prog w1 = .ok (.tuple #[]) (w1.setRow g (splK c1.toList (m1 * 3) [.string ByteArray.empty, .int .i64 0, .int .i64 0]).toArray) :=
    fun ty c => run_clear_k w1 22 34 ty (.agg #[.string ByteArray.empty, .int .i64 0, .int .i64 0]) [.string ByteArray.empty, .int .i64 0, .int .i64 0] Tryd.underlying22 Tryd.zeroValue34 zero_one (by intro u hu; simp at hu; rcases hu with rfl | rfl | rfl <;> rfl) g (m1 * 3) c c1 34 (unhide HB1) (by rw [show ([.string ByteArray.empty, .int .i64 0, .int .i64 0] : List Value).length = 3 from rfl]; exact unhide HF2)
  have HON : Hid (OwnK (w1.setRow g (splK c1.toList (m1 * 3) [.string ByteArray.empty, .int .i64 0, .int .i64 0]).toArray) B (some ⟨g, 0, none⟩) cap (fs.take a ++ fs.drop (a + 1))) := by
    have hf3 : m1 * 3 + ([.string ByteArray.empty, .int .i64 0, .int .i64 0] : List Value).length ≤ c1.toList.length := by rw [blk_size]; exact unhide HF2
    refine own_ofK (setRow_heap w1 g _ _ _ _ (unhide HB1)) hgB (by rw [hl']; omega) hcm ?_ ?_
    · rw [splK_toArray_size hf3, blk_size, unhide HZ2]
    · rw [hl']
      show (splK _ _ _).take _ = _
      rw [splK_take_lo (Nat.le_refl _) (by omega)]
      exact (unhide HTK).trans (unhide HL).symm
  have HF3 := hide (Fr.trans (unhide HFR) (setRow_fr w1 g (splK c1.toList (m1 * 3) [.string ByteArray.empty, .int .i64 0, .int .i64 0]).toArray))
  generalize w1.setRow g (splK c1.toList (m1 * 3) [.string ByteArray.empty, .int .i64 0, .int .i64 0]).toArray = w2 at *
  clear hb1' fr1 HTK HL HB1 HCU
  go_wp2_with fail
  go_ret
  exact ⟨by rw [hm1]; rfl, unhide HON, unhide HF3⟩

end Go.Proofs.YtjalklmgdkhekaaDoor
