/- What package manifest's edgeOf answers where the line and its rule are there; the conditions: the rules lie in memory. -/
import Derived.Test.YtpddckgkaopnlaaGreatDoorMfEdgeOf
namespace Go.Proofs.YtpddckgkaopnlaaGreatDoor
open Go.RowKit

def rwC (rows : List Rw) : Array Value := (rows.map rwv).toArray

theorem own2_q {w wr w' : World} {v : Value} {B e size n : Nat} {xs : List Value} (hq : Q w wr) (h : Own2 v wr w') (ho : wr.ownsRow B e size v n xs) (hB : w.heap.size ≤ B) (hz : B ≤ wr.heap.size) : Q w w' :=
  Below.trans hq ((h.below hz ho).mono hB)

theorem rz_own {w w' : World} {E B n : Nat} {v : Value} {xs : List Value} (h : Rz w E) (h2 : Own2 v w w') (ho : w.ownsRow B 9 1 v n xs) : Rz w' E :=
  ⟨h.e.fr (Fr.own2 h2) (fun e => h.e.row ho (by decide) E e rfl), h.r.fr (Fr.own2 h2) (fun e => h.r.row ho (by decide) (E + 1) e rfl)⟩

theorem cs_end {B : Nat} {w : World} {rows zs : List Rw} {k : Nat} {ao bo co eo : Option Addr} {ac bc cc ec : Nat} {y1 y2 y3 y4 : Ws} {d : Bool} {p : Tx} (h : CS B rows k w zs) (z1 : zs[0]? = some (ao, ac, y1)) (z2 : zs[1]? = some (bo, bc, y2)) (z3 : zs[2]? = some (co, cc, y3)) (z4 : zs[3]? = some (eo, ec, y4)) :
    EdR w B (((y1, y2, y3, y4, [], d, p), (ao, ac), (bo, bc), (co, cc), (eo, ec)) : EdA) ∧ (edB (((y1, y2, y3, y4, [], d, p), (ao, ac), (bo, bc), (co, cc), (eo, ec)) : EdA)).Nodup := by
  refine ⟨⟨h.own _ (List.mem_of_getElem? z1), h.own _ (List.mem_of_getElem? z2), h.own _ (List.mem_of_getElem? z3), h.own _ (List.mem_of_getElem? z4)⟩, ?_⟩
  have p12 := h.pw 0 1 _ _ z1 z2 (by decide)
  have p13 := h.pw 0 2 _ _ z1 z3 (by decide)
  have p14 := h.pw 0 3 _ _ z1 z4 (by decide)
  have p23 := h.pw 1 2 _ _ z2 z3 (by decide)
  have p24 := h.pw 1 3 _ _ z2 z4 (by decide)
  have p34 := h.pw 2 3 _ _ z3 z4 (by decide)
  show ((rwv (ao, ac, y1)).ownBlock.toList ++ (rwv (bo, bc, y2)).ownBlock.toList ++ (rwv (co, cc, y3)).ownBlock.toList ++ (rwv (eo, ec, y4)).ownBlock.toList).Nodup
  generalize (rwv (ao, ac, y1)).ownBlock = o1 at *
  generalize (rwv (bo, bc, y2)).ownBlock = o2 at *
  generalize (rwv (co, cc, y3)).ownBlock = o3 at *
  generalize (rwv (eo, ec, y4)).ownBlock = o4 at *
  have no : ∀ o : Option Nat, o.toList.Nodup := by intro o; cases o <;> simp
  have dj : ∀ o o' : Option Nat, (∀ b, o = some b → o' ≠ some b) → ∀ x ∈ o.toList, ∀ y ∈ o'.toList, x ≠ y := by
    intro o o' hh x hx y hy e
    subst e
    exact hh x (Option.mem_toList.1 hx) (Option.mem_toList.1 hy)
  refine List.nodup_append.2 ⟨List.nodup_append.2 ⟨List.nodup_append.2 ⟨no o1, no o2, dj _ _ p12⟩, no o3, ?_⟩, no o4, ?_⟩
  · intro x hx y hy
    rcases List.mem_append.1 hx with hx | hx
    · exact dj _ _ p13 x hx y hy
    · exact dj _ _ p23 x hx y hy
  · intro x hx y hy
    rcases List.mem_append.1 hx with hx | hx
    · rcases List.mem_append.1 hx with hx | hx
      · exact dj _ _ p14 x hx y hy
      · exact dj _ _ p24 x hx y hy
    · exact dj _ _ p34 x hx y hy

def edZ : Array Value := #[.slice none 0 0, .slice none 0 0, .slice none 0 0, .slice none 0 0, .string ⟨#[]⟩, .bool false, .string ⟨#[]⟩]
theorem edz_q (w : World) {w' : World} (q : Q (w.alloc (.cells #[.slice none 0 0, .slice none 0 0, .slice none 0 0, .slice none 0 0, .string ⟨#[]⟩, .bool false, .string ⟨#[]⟩] 65)).drew w') : Blk w' w.heap.size edZ 65 :=
  Blk.q (Blk.drew (Blk.new w edZ 65)) q
theorem edz_cells {w : World} {E : Nat} (h : Blk w E edZ 65) : w.cell? ⟨E, 0, none⟩ = some (.slice none 0 0) ∧ w.cell? ⟨E, 1, none⟩ = some (.slice none 0 0) ∧ w.cell? ⟨E, 2, none⟩ = some (.slice none 0 0) ∧ w.cell? ⟨E, 3, none⟩ = some (.slice none 0 0) ∧ w.cell? ⟨E, 4, none⟩ = some (.string ⟨#[]⟩) ∧ w.cell? ⟨E, 5, none⟩ = some (.bool false) ∧ w.cell? ⟨E, 6, none⟩ = some (.string ⟨#[]⟩) ∧
    w.frozen? ⟨E, 0, none⟩ = false ∧ w.frozen? ⟨E, 1, none⟩ = false ∧ w.frozen? ⟨E, 2, none⟩ = false ∧ w.frozen? ⟨E, 3, none⟩ = false ∧ w.frozen? ⟨E, 4, none⟩ = false ∧ w.frozen? ⟨E, 5, none⟩ = false ∧ w.frozen? ⟨E, 6, none⟩ = false :=
  ⟨h.cell 0 rfl, h.cell 1 rfl, h.cell 2 rfl, h.cell 3 rfl, h.cell 4 rfl, h.cell 5 rfl, h.cell 6 rfl, h.frz 0, h.frz 1, h.frz 2, h.frz 3, h.frz 4, h.frz 5, h.frz 6⟩
theorem EdR.low {w : World} {B B' : Nat} {x : EdA} (h : EdR w B x) (hb : B' ≤ B) : EdR w B' x := ⟨own_low h.a hb, own_low h.b hb, own_low h.c hb, own_low h.d hb⟩
theorem ez1 {w : World} {E : Nat} (h : Blk w E edZ 65) (v0 v1 v2 v3 v4 v5 v6 : Value) : Blk (((((((w.setCell ⟨E, 0, none⟩ v0).setCell ⟨E, 1, none⟩ v1).setCell ⟨E, 2, none⟩ v2).setCell ⟨E, 3, none⟩ v3).setCell ⟨E, 4, none⟩ v4).setCell ⟨E, 5, none⟩ v5).setCell ⟨E, 6, none⟩ v6) E #[v0, v1, v2, v3, v4, v5, v6] 65 :=
  (((((((h.set 0 v0).set 1 v1).set 2 v2).set 3 v3).set 4 v4).set 5 v5).set 6 v6)
theorem ez2 {w : World} {E g : Nat} {cs : Array Value} {t : TypeId} (h : Blk w g cs t) (ne : g ≠ E) (v0 v1 v2 v3 v4 v5 v6 : Value) : Blk (((((((w.setCell ⟨E, 0, none⟩ v0).setCell ⟨E, 1, none⟩ v1).setCell ⟨E, 2, none⟩ v2).setCell ⟨E, 3, none⟩ v3).setCell ⟨E, 4, none⟩ v4).setCell ⟨E, 5, none⟩ v5).setCell ⟨E, 6, none⟩ v6) g cs t :=
  (((((((h.other ne 0 v0).other ne 1 v1).other ne 2 v2).other ne 3 v3).other ne 4 v4).other ne 5 v5).other ne 6 v6)
theorem ez3 {w0 w : World} {E : Nat} (h : Q w0 w) (hE : w0.heap.size ≤ E) (v0 v1 v2 v3 v4 v5 v6 : Value) : Q w0 (((((((w.setCell ⟨E, 0, none⟩ v0).setCell ⟨E, 1, none⟩ v1).setCell ⟨E, 2, none⟩ v2).setCell ⟨E, 3, none⟩ v3).setCell ⟨E, 4, none⟩ v4).setCell ⟨E, 5, none⟩ v5).setCell ⟨E, 6, none⟩ v6) :=
  (((((((Below.setCell h hE v0).setCell hE v1).setCell hE v2).setCell hE v3).setCell hE v4).setCell hE v5).setCell hE v6)
theorem bxs {w : World} {g : Nat} {a c : ByteArray} {x2 : Bool} {x3 : ByteArray} {t : TypeId} (h : Blk w g #[.string a, .string c, .bool x2, .string x3] t) : w.cell? ⟨g, 2, none⟩ = some (.bool x2) ∧ w.cell? ⟨g, 3, none⟩ = some (.string x3) := ⟨h.cell 2 rfl, h.cell 3 rfl⟩
theorem bxs_t {w w' : World} {g : Nat} {x y : Value} (h : w.cell? ⟨g, 2, none⟩ = some x ∧ w.cell? ⟨g, 3, none⟩ = some y) (q : Q w w') : w'.cell? ⟨g, 2, none⟩ = some x ∧ w'.cell? ⟨g, 3, none⟩ = some y :=
  ⟨(q.cell (p := ⟨g, 2, none⟩) (World.block_lt_of_cell? w _ h.1)).trans h.1, (q.cell (p := ⟨g, 3, none⟩) (World.block_lt_of_cell? w _ h.2)).trans h.2⟩
theorem bx_q1 {w w' : World} {g : Nat} {cs : Array Value} {t : TypeId} (h : Blk w g cs t) (q : Q w.drew w') : Blk w' g cs t := Blk.q (Blk.drew h) q
theorem bx_q2 {w w' : World} {o : Obj} {g : Nat} {cs : Array Value} {t : TypeId} (h : Blk w g cs t) (q : Q (w.alloc o).drew w') : Blk w' g cs t := Blk.q (Blk.drew (h.q ((Q.refl w).alloc o))) q

set_option maxHeartbeats 16000000 in
theorem edgeOf_go (R : Nat) (rs : List Rl) (ro : Option Addr) (rc : Nat) (s : ByteArray) (w : World) (hR : R < w.heap.size) (hc : w.cell? ⟨R, 3, none⟩ = some (.slice ro rs.length rc)) (hr : RowR w ro rs) (hl : rs.length ≤ 4096) (hs : s.size ≤ 4096) (hp : ∀ r ∈ rs, r.2.2.2.length ≤ 4096) (b : Bt) (hb : bdR (bl s) = some b) (r : Rl) (hr0 : rlAt rs b.2.1 = some r) :
    Calls Tryz.prog 79 #[.pointer (some ⟨R, 0, none⟩), .string s] w (EgSays (edL rs (bl s)) w) := by
  have HRA := hide (fun n w2 (q : Q w w2) => ruleAt_any R rs n ro rc w2 (Nat.lt_of_lt_of_le hR q.size) ((q.cell (p := ⟨R, 3, none⟩) hR).trans hc) (hr.q q) hl)
  have HX : Hid (edL rs (bl s) = (match clL b.1, clL b.2.2.1, clL b.2.2.2.1, clL b.2.2.2.2 with
      | some o, some i, some m, some d => some ((o, i, m, d, [], r.2.2.1, r.2.2.2), r)
      | _, _, _, _ => none)) := by show _ = _; unfold edL; rw [hb]; simp only [hr0]; cases clL b.1 <;> cases clL b.2.2.1 <;> cases clL b.2.2.2.1 <;> cases clL b.2.2.2.2 <;> rfl
  have HB := hide (fun w2 => build_some (a := b.1) (r := b.2.1) (b := b.2.2.1) (c := b.2.2.2.1) (d := b.2.2.2.2) s w2 (by omega) hb)
  obtain ⟨k0, hk0, hrk, hk0l, _⟩ := rl_some hr0
  have HZZ : Hid (ixB (fun r : Rl => r.1 == bl ⟨b.2.1.toArray⟩) rs = k0) := hk0
  obtain ⟨fa, fb, fc, fd, _, _⟩ := bdR_few hb
  have HFW : Hid (Few b.1 ∧ Few b.2.2.1 ∧ Few b.2.2.2.1 ∧ Few b.2.2.2.2) := ⟨fa, fb, fc, fd⟩
  have hpl : r.2.2.2.length ≤ 4096 := hp r (List.mem_of_getElem? hrk)
  have hCR := hide (fun w2 (q : Q w w2) => (q.cell (p := ⟨R, 3, none⟩) hR).trans hc)
  have hRR := hide (fun w2 (q : Q w w2) => hr.q q)
  have HRK := hide hrk
  clear hb hc hr hr0 hp fa fb fc fd hk0 hrk
  generalize edL rs (bl s) = X at *
  generalize (⟨b.2.1.toArray⟩ : ByteArray) = bn at *
  go_enter Tryz.func79, Tryz.ntmps79
  go_wp2_with fail
  obtain ⟨hz, qz, sz⟩ := wZ_facts w
  change Calls _ _ _ (wZ w) _
  have HZ := hide hz
  generalize wZ w = wb at *
  generalize hE : w.heap.size = E at *
  have HE := hide hE
  clear hz hE
  refine (unhide HB _).mono ?_
  rintro e w2 ⟨ao, bo, co, eo, ac, bc, cc, ec, k1, k2, k3, rfl, h4, q2⟩
  have H4 := hide (CS.start h4)
  clear h4
  go_wp2_with fail
  have q12 := qz.trans q2
  refine (unhide HRA bn w2 q12).mono ?_
  rintro e w3 ⟨rfl, q3⟩
  rw [HZZ.out]
  have q13 := q12.trans q3
  have HZ3 := hide ((unhide HZ).q (q2.trans q3))
  have HC3 := hide ((unhide H4).q q3)
  have hB3 : wb.heap.size ≤ w3.heap.size := Nat.le_trans q2.size q3.size
  generalize hB0 : wb.heap.size = B0 at *
  clear HZ H4 q2 q3 q12 qz HB HRA HZZ hB0
  have HRS : Hid ([(ao, ac, b.1), (bo, bc, b.2.2.1), (co, cc, b.2.2.2.1), (eo, ec, b.2.2.2.2)] = [(ao, ac, b.1), (bo, bc, b.2.2.1), (co, cc, b.2.2.2.1), (eo, ec, b.2.2.2.2)]) := rfl
  go_wp2_with fail
  have hL := Blk.new w3 #[.slice ao b.1.length ac, .slice bo b.2.2.1.length bc, .slice co b.2.2.2.1.length cc, .slice eo b.2.2.2.2.length ec] 24
  have HC4 := hide ((unhide HC3).q ((Q.refl w3).alloc (.cells #[.slice ao b.1.length ac, .slice bo b.2.2.1.length bc, .slice co b.2.2.2.1.length cc, .slice eo b.2.2.2.2.length ec] 24)))
  have HZ4 := hide ((unhide HZ3).q ((Q.refl w3).alloc (.cells #[.slice ao b.1.length ac, .slice bo b.2.2.1.length bc, .slice co b.2.2.2.1.length cc, .slice eo b.2.2.2.2.length ec] 24)))
  have HQ4 := hide (q13.alloc (.cells #[.slice ao b.1.length ac, .slice bo b.2.2.1.length bc, .slice co b.2.2.2.1.length cc, .slice eo b.2.2.2.2.length ec] 24))
  have hB4 : B0 ≤ (w3.alloc (.cells #[.slice ao b.1.length ac, .slice bo b.2.2.1.length bc, .slice co b.2.2.2.1.length cc, .slice eo b.2.2.2.2.length ec] 24)).heap.size := by simp; omega
  have HL4 : Hid (Blk _ w3.heap.size (rwC [(ao, ac, b.1), (bo, bc, b.2.2.1), (co, cc, b.2.2.2.1), (eo, ec, b.2.2.2.2)]) 24) := hL
  have HFR : Hid (∀ x ∈ [(ao, ac, b.1), (bo, bc, b.2.2.1), (co, cc, b.2.2.2.1), (eo, ec, b.2.2.2.2)], Few (x : Rw).2.2) := by
    intro x hx
    simp only [List.mem_cons, List.not_mem_nil, or_false] at hx
    obtain ⟨fa, fb, fc, fd⟩ := HFW.out
    rcases hx with rfl | rfl | rfl | rfl
    · exact fa
    · exact fb
    · exact fc
    · exact fd
  have hrl : [(ao, ac, b.1), (bo, bc, b.2.2.1), (co, cc, b.2.2.2.1), (eo, ec, b.2.2.2.2)].length = 4 := rfl
  have HNO : Hid (∀ x ∈ [(ao, ac, b.1), (bo, bc, b.2.2.1), (co, cc, b.2.2.2.1), (eo, ec, b.2.2.2.2)], clL (x : Rw).2.2 = none → X = none) := by
    intro x hx hn
    simp only [List.mem_cons, List.not_mem_nil, or_false] at hx
    rw [HX.out]
    rcases hx with rfl | rfl | rfl | rfl
    · rw [show clL b.1 = none from hn]
    · rw [show clL b.2.2.1 = none from hn]; cases clL b.1 <;> rfl
    · rw [show clL b.2.2.2.1 = none from hn]; cases clL b.1 <;> cases clL b.2.2.1 <;> rfl
    · rw [show clL b.2.2.2.2 = none from hn]; cases clL b.1 <;> cases clL b.2.2.1 <;> cases clL b.2.2.2.1 <;> rfl
  generalize hLn : w3.heap.size = L at *
  generalize w3.alloc (.cells #[.slice ao b.1.length ac, .slice bo b.2.2.1.length bc, .slice co b.2.2.2.1.length cc, .slice eo b.2.2.2.2.length ec] 24) = w4 at *
  clear hL HC3 HZ3 q13 hB3 hLn HRS
  go_loopw [44] (fun i wr => ∃ (k : Nat) (zs : List Rw), k ≤ 4 ∧ i = .int .i64 k ∧ Hid (CS B0 [(ao, ac, b.1), (bo, bc, b.2.2.1), (co, cc, b.2.2.2.1), (eo, ec, b.2.2.2.2)] k wr zs) ∧ Hid (Rz wr E) ∧ Hid (Blk wr L (rwC [(ao, ac, b.1), (bo, bc, b.2.2.1), (co, cc, b.2.2.2.1), (eo, ec, b.2.2.2.2)]) 24) ∧ Hid (Q w wr) ∧ B0 ≤ wr.heap.size) (fun i _ => 4 - (intOf i).toNat)
  case atStart => exact ⟨0, _, Nat.zero_le _, rfl, HC4, HZ4, HL4, HQ4, hB4⟩
  case round =>
    obtain ⟨k, zs, hk, rfl, HC, HZ, HL, HQ, hBr⟩ := hrel
    clear HC4 HZ4 HL4 HQ4 hB4
    by_cases hlt : k < 4
    · obtain ⟨x, hx⟩ : ∃ x, [(ao, ac, b.1), (bo, bc, b.2.2.1), (co, cc, b.2.2.2.1), (eo, ec, b.2.2.2.2)][k]? = some x := ⟨_, List.getElem?_eq_getElem (by rw [hrl]; exact hlt)⟩
      have hfx := HFR.out x (List.mem_of_getElem? hx)
      have hzx := (HC.out.hi k (Nat.le_refl _)).trans hx
      have hox := HC.out.own x (List.mem_of_getElem? hzx)
      have HLx : wr.cell? ⟨L, k, none⟩ = some (.slice x.1 x.2.2.length x.2.1) := HL.out.cell k (by unfold rwC; rw [List.getElem?_toArray, List.getElem?_map, hx]; rfl)
      have HCL := hide (mclean_any x.1 x.2.1 B0 x.2.2 wr hox (Nat.le_trans hfx.1 (by decide)) (fun p hp => Nat.le_trans (hfx.2 p hp) (by decide)))
      cases hy : clL x.2.2 with
      | none =>
        have HXN := hide (HNO.out x (List.mem_of_getElem? hx) hy)
        rw [hy] at HCL
        change Hid (Calls _ _ _ _ fun e w' => e = .returned (.bool false) ∧ _) at HCL
        have hox' := hide hox
        have HBX := hide (fun w' h => own2_q (w := w) (w' := w') HQ.out h hox (by rw [unhide HE]; omega) hBr)
        have HEX := hide (fun w' (h : Own2 (.slice x.1 x.2.2.length x.2.1) wr w') => rz_own HZ.out h hox)
        clear hy hx hfx hzx hox HC HL
        obtain ⟨xa, xc, xs⟩ := x
        dsimp only at *
        go_wp2_with fail
        refine (unhide HCL).mono ?_
        rintro e w5 ⟨rfl, _, h5⟩
        have HZ5 := hide (unhide HEX w5 h5)
        have q5 := unhide HBX w5 h5
        obtain ⟨e0, e1, e2, e3, e4, e5, e6, r0, r1, r2, r3, fe, fr⟩ := (unhide HZ5).cells
        have f0 := fe 0
        have f1 := fe 1
        have f2 := fe 2
        have f3 := fe 3
        have f4 := fe 4
        have f5 := fe 5
        have f6 := fe 6
        have h0 := fr 0
        have h1 := fr 1
        have h2 := fr 2
        have h3 := fr 3
        clear fe fr HBX HEX h5 HLx
        go_wp2_with fail
        change bodyPost _ _ _ _ _ (wS w5 E (.slice none 0 0) (.slice none 0 0) (.slice none 0 0) (.slice none 0 0) (.string ⟨#[]⟩) (.bool false) (.string ⟨#[]⟩) (.string ⟨#[]⟩) (.string ⟨#[]⟩) (.bool false) (.string ⟨#[]⟩))
        obtain ⟨hf1, hf2, hf⟩ := wS_facts (unhide HZ5) (.slice none 0 0) (.slice none 0 0) (.slice none 0 0) (.slice none 0 0) (.string ⟨#[]⟩) (.bool false) (.string ⟨#[]⟩) (.string ⟨#[]⟩) (.string ⟨#[]⟩) (.bool false) (.string ⟨#[]⟩)
        have hle : E ≤ w5.heap.size := Nat.le_of_lt (unhide HZ5).e.hi
        generalize wS w5 E (.slice none 0 0) (.slice none 0 0) (.slice none 0 0) (.slice none 0 0) (.string ⟨#[]⟩) (.bool false) (.string ⟨#[]⟩) (.string ⟨#[]⟩) (.string ⟨#[]⟩) (.bool false) (.string ⟨#[]⟩) = wf at *
        clear e0 e1 e2 e3 e4 e5 e6 r0 r1 r2 r3
        obtain ⟨e0, e1, e2, e3, e4, e5, e6, r0, r1, r2, r3⟩ := Re.cells hf1 hf2
        refine bodyPost_ret (v := .tuple #[.agg #[.slice none 0 0, .slice none 0 0, .slice none 0 0, .slice none 0 0, .string ⟨#[]⟩, .bool false, .string ⟨#[]⟩], .agg #[.string ⟨#[]⟩, .string ⟨#[]⟩, .bool false, .string ⟨#[]⟩], .bool false]) (by simp [results, Tryz.results79, go_sem, e0, e1, e2, e3, e4, e5, e6, r0, r1, r2, r3]) rfl ?_
        exact ⟨Below.trans q5 (hf.below (by rw [unhide HE]; exact hle) (by rw [unhide HE]; intro k hk; omega)), by rw [unhide HXN]⟩
      | some y =>
        rw [hy] at HCL
        change Hid (Calls _ _ _ _ fun e w' => e = .returned (.bool true) ∧ _) at HCL
        have HBX := hide (fun w' h => own2_q (w := w) (w' := w') HQ.out h hox (by rw [unhide HE]; omega) hBr)
        have HEX := hide (fun w' (h : Own2 (.slice x.1 x.2.2.length x.2.1) wr w') => rz_own HZ.out h hox)
        have HLX := hide (fun w' (h : Own2 (.slice x.1 x.2.2.length x.2.1) wr w') => (HL.out).fr (Fr.own2 h) (fun e => HL.out.row hox (by decide) L e rfl))
        have HCX := hide (fun w' (ho : OwnT w' B0 x.1 x.2.1 y) (h : Own2 (rwv x) wr w') => HC.out.next hx hy ho h)
        clear hy hx hfx hzx hox HC HL
        obtain ⟨xa, xc, xs⟩ := x
        dsimp only at *
        go_wp2_with fail
        refine (unhide HCL).mono ?_
        rintro e w5 ⟨rfl, h4, h5⟩
        have HZ5 := hide (unhide HEX w5 h5)
        have HQ5 := hide (unhide HBX w5 h5)
        have HL5 := hide (unhide HLX w5 h5)
        have HC5 := hide (unhide HCX w5 (h4 y rfl) h5)
        have hB5 : B0 ≤ w5.heap.size := Nat.le_trans hBr h5.size
        clear HBX HEX HLX HCX h4 h5 HLx HZ HQ HCL
        go_wp2_with fail
        go_roundw
        case rel => exact ⟨k + 1, _, by omega, by go_num, HC5, HZ5, HL5, HQ5, hB5⟩
        case measure => simp [intOf]; omega
    · obtain rfl : k = 4 := by omega
      obtain ⟨y1, hy1, z1⟩ := HC.out.lo 0 _ (by decide) rfl
      obtain ⟨y2, hy2, z2⟩ := HC.out.lo 1 _ (by decide) rfl
      obtain ⟨y3, hy3, z3⟩ := HC.out.lo 2 _ (by decide) rfl
      obtain ⟨y4, hy4, z4⟩ := HC.out.lo 3 _ (by decide) rfl
      dsimp only at hy1 hy2 hy3 hy4 z1 z2 z3 z4
      have HXS : Hid (X = some ((y1, y2, y3, y4, [], r.2.2.1, r.2.2.2), r)) := by show _ = _; rw [HX.out, hy1, hy2, hy3, hy4]
      have HYL : Hid (y1.length = b.1.length ∧ y2.length = b.2.2.1.length ∧ y3.length = b.2.2.2.1.length ∧ y4.length = b.2.2.2.2.length) := ⟨clL_len hy1, clL_len hy2, clL_len hy3, clL_len hy4⟩
      have HED : Hid (EdR wr B0 (((y1, y2, y3, y4, [], r.2.2.1, r.2.2.2), (ao, ac), (bo, bc), (co, cc), (eo, ec)) : EdA) ∧ (edB (((y1, y2, y3, y4, [], r.2.2.1, r.2.2.2), (ao, ac), (bo, bc), (co, cc), (eo, ec)) : EdA)).Nodup) := cs_end HC.out z1 z2 z3 z4
      have hcr := unhide hCR wr HQ.out
      rcases unhide hRR wr HQ.out with he | ⟨g, o, rfl, hg, hcell⟩
      · rw [he] at hk0l; simp at hk0l
      have c1 : wr.cell? ⟨g, o + k0 * 4, none⟩ = some (.string ⟨r.1.toArray⟩) := hcell k0 0 r _ (unhide HRK) (by decide) rfl
      have c2 : wr.cell? ⟨g, o + k0 * 4 + 1, none⟩ = some (.string ⟨r.2.1.toArray⟩) := hcell k0 1 r _ (unhide HRK) (by decide) rfl
      have c3 : wr.cell? ⟨g, o + k0 * 4 + 2, none⟩ = some (.bool r.2.2.1) := hcell k0 2 r _ (unhide HRK) (by decide) rfl
      have c4 : wr.cell? ⟨g, o + k0 * 4 + 3, none⟩ = some (.string ⟨r.2.2.2.toArray⟩) := hcell k0 3 r _ (unhide HRK) (by decide) rfl
      clear hcell hy1 hy2 hy3 hy4 z1 z2 z3 z4 HC HL HNO HFR hrl HFW HX
      have HRV : Hid (#[Value.string ⟨r.1.toArray⟩, .string ⟨r.2.1.toArray⟩, .bool r.2.2.1, .string ⟨r.2.2.2.toArray⟩] = (rv r).toArray) := rfl
      generalize (⟨r.1.toArray⟩ : ByteArray) = x0 at *
      generalize (⟨r.2.1.toArray⟩ : ByteArray) = x1 at *
      have hz3 : (⟨r.2.2.2.toArray⟩ : ByteArray).size ≤ 281474976710656 := by rw [← bl_size]; show r.2.2.2.length ≤ _; omega
      generalize hx3 : (⟨r.2.2.2.toArray⟩ : ByteArray) = x3 at *
      generalize hx2 : r.2.2.1 = x2 at *
      have HX3 := hide hx3
      have HX2 := hide hx2
      clear hx3 hx2
      go_upto_region 12 with fail
      have hbx := Blk.new wr #[.string x0, .string x1, .bool x2, .string x3] 109
      have qbx := (Q.refl wr).alloc (.cells #[.string x0, .string x1, .bool x2, .string x3] 109)
      have hBXlo : E + 2 ≤ wr.heap.size := by omega
      generalize hBX : wr.heap.size = BX at hbx hBXlo ⊢
      generalize wr.alloc (.cells #[.string x0, .string x1, .bool x2, .string x3] 109) = w6 at *
      have b2 : w6.cell? ⟨BX, 2, none⟩ = some (.bool x2) := hbx.cell 2 rfl
      have b3 : w6.cell? ⟨BX, 3, none⟩ = some (.string x3) := hbx.cell 3 rfl
      have a2 : ∀ ob, (w6.alloc ob).cell? ⟨BX, 2, none⟩ = some (.bool x2) := fun ob => (hbx.q ((Q.refl w6).alloc ob)).cell 2 rfl
      have a3 : ∀ ob, (w6.alloc ob).cell? ⟨BX, 3, none⟩ = some (.string x3) := fun ob => (hbx.q ((Q.refl w6).alloc ob)).cell 3 rfl
      have HBX := hide hbx
      clear hcr c1 c2 c3 c4 hbx hCR hRR hBX
      go_cut [17] from 18 (fun v wc => ∃ EB, v = .pointer (some ⟨EB, 0, none⟩) ∧ Hid (Blk wc EB #[.slice ao b.1.length ac, .slice bo b.2.2.1.length bc, .slice co b.2.2.2.1.length cc, .slice eo b.2.2.2.2.length ec, .string ⟨#[]⟩, .bool x2, .string x3] 65) ∧ Hid (Blk wc BX #[.string x0, .string x1, .bool x2, .string x3] 109) ∧ Hid (Q w6 wc))
      case first =>
        go_region_with (go_at_call 113; refine (clone_any x3 _ hz3).mono ?_; rintro e w7 ⟨rfl, q7⟩; first | (have hBX7 := hide (bx_q1 (unhide HBX) q7); have b7 : w7.cell? ⟨BX, 2, none⟩ = some (.bool x2) := (unhide hBX7).cell 2 rfl; have a7 : ∀ ob, (w7.alloc ob).cell? ⟨BX, 2, none⟩ = some (.bool x2) := fun ob => ((unhide hBX7).q ((Q.refl w7).alloc ob)).cell 2 rfl) | (have hBX7 := hide (bx_q2 (unhide HBX) q7); have b7 : w7.cell? ⟨BX, 2, none⟩ = some (.bool x2) := (unhide hBX7).cell 2 rfl; have hEB := hide (edz_q w6 q7); obtain ⟨z0, z1, z2, z3, z4, z5, z6, f0, f1, f2, f3, f4, f5, f6⟩ := edz_cells (unhide hEB)))
        all_goals
          go_wp2_with fail
          go_meet
          case rel =>
            first
              | exact ⟨w6.heap.size, rfl, ez1 (unhide hEB) _ _ _ _ _ _ _, ez2 (unhide hBX7) (Nat.ne_of_lt (unhide HBX).hi) _ _ _ _ _ _ _, ez3 ((((Q.refl w6).alloc _).drew).trans q7) (Nat.le_refl _) _ _ _ _ _ _ _⟩
              | exact ⟨w7.heap.size, rfl, Blk.new _ _ _, (unhide hBX7).q ((Q.refl _).alloc _), (((Q.refl w6).drew).trans q7).alloc _⟩
      case rest =>
        obtain ⟨EB, rfl, HEB, HBX2, HQ7⟩ := hcut
        have HZ7 := hide (((unhide HZ).q qbx).q HQ7.out)
        have HQF := hide ((HQ.out.trans qbx).trans HQ7.out)
        have HED7 := hide (HED.out.1.fr (P := fun _ => False) ((Fr.of_q qbx).trans (Fr.of_q HQ7.out)) (fun _ _ h => h))
        obtain ⟨e0, e1, e2, e3, e4, e5, e6, r0, r1, r2, r3, fe, fr⟩ := (unhide HZ7).cells
        have f0 := fe 0
        have f1 := fe 1
        have f2 := fe 2
        have f3 := fe 3
        have f4 := fe 4
        have f5 := fe 5
        have f6 := fe 6
        have h0 := fr 0
        have h1 := fr 1
        have h2 := fr 2
        have h3 := fr 3
        clear fe fr HZ HBX b2 b3 a2 a3
        have g0 : wc.cell? ⟨EB, 0, none⟩ = some (.slice ao b.1.length ac) := HEB.out.cell 0 rfl
        have g1 : wc.cell? ⟨EB, 1, none⟩ = some (.slice bo b.2.2.1.length bc) := HEB.out.cell 1 rfl
        have g2 : wc.cell? ⟨EB, 2, none⟩ = some (.slice co b.2.2.2.1.length cc) := HEB.out.cell 2 rfl
        have g3 : wc.cell? ⟨EB, 3, none⟩ = some (.slice eo b.2.2.2.2.length ec) := HEB.out.cell 3 rfl
        have g4 : wc.cell? ⟨EB, 4, none⟩ = some (.string ⟨#[]⟩) := HEB.out.cell 4 rfl
        have g5 : wc.cell? ⟨EB, 5, none⟩ = some (.bool x2) := HEB.out.cell 5 rfl
        have g6 : wc.cell? ⟨EB, 6, none⟩ = some (.string x3) := HEB.out.cell 6 rfl
        have j0 : wc.cell? ⟨BX, 0, none⟩ = some (.string x0) := HBX2.out.cell 0 rfl
        have j1 : wc.cell? ⟨BX, 1, none⟩ = some (.string x1) := HBX2.out.cell 1 rfl
        have j2 : wc.cell? ⟨BX, 2, none⟩ = some (.bool x2) := HBX2.out.cell 2 rfl
        have j3 : wc.cell? ⟨BX, 3, none⟩ = some (.string x3) := HBX2.out.cell 3 rfl
        have n1 : E ≠ BX := by omega
        have n2 : BX ≠ E := n1.symm
        have n3 : E + 1 ≠ BX := fun e => by omega
        go_wp2_with fail
        go_region
        go_wp2_with fail
        clear e0 e1 e2 e3 e4 e5 e6 r0 r1 r2 r3 f0 f1 f2 f3 f4 f5 f6 h0 h1 h2 h3 g0 g1 g2 g3 g4 g5 g6 j0 j1 j2 j3
        change bodyPost _ _ _ _ _ (wS wc E (.slice ao b.1.length ac) (.slice bo b.2.2.1.length bc) (.slice co b.2.2.2.1.length cc) (.slice eo b.2.2.2.2.length ec) (.string ⟨#[]⟩) (.bool x2) (.string x3) (.string x0) (.string x1) (.bool x2) (.string x3)).drew
        obtain ⟨hf1, hf2, hf⟩ := wS_facts (unhide HZ7) (.slice ao b.1.length ac) (.slice bo b.2.2.1.length bc) (.slice co b.2.2.2.1.length cc) (.slice eo b.2.2.2.2.length ec) (.string ⟨#[]⟩) (.bool x2) (.string x3) (.string x0) (.string x1) (.bool x2) (.string x3)
        have hle : E ≤ wc.heap.size := Nat.le_of_lt (unhide HZ7).e.hi
        generalize wS wc E (.slice ao b.1.length ac) (.slice bo b.2.2.1.length bc) (.slice co b.2.2.2.1.length cc) (.slice eo b.2.2.2.2.length ec) (.string ⟨#[]⟩) (.bool x2) (.string x3) (.string x0) (.string x1) (.bool x2) (.string x3) = wf at *
        obtain ⟨e0, e1, e2, e3, e4, e5, e6, r0, r1, r2, r3⟩ := Re.cells hf1 hf2
        refine bodyPost_ret (v := .tuple #[.agg #[.slice ao b.1.length ac, .slice bo b.2.2.1.length bc, .slice co b.2.2.2.1.length cc, .slice eo b.2.2.2.2.length ec, .string ⟨#[]⟩, .bool x2, .string x3], .agg #[.string x0, .string x1, .bool x2, .string x3], .bool true]) (by simp [results, Tryz.results79, go_sem, e0, e1, e2, e3, e4, e5, e6, r0, r1, r2, r3]) rfl ?_
        refine ⟨Below.trans (unhide HQF) ((hf.drew).below (by rw [unhide HE]; exact hle) (by rw [unhide HE]; intro k hk; omega)), ?_⟩
        rw [HXS.out]
        refine ⟨(((y1, y2, y3, y4, [], x2, r.2.2.2), (ao, ac), (bo, bc), (co, cc), (eo, ec)) : EdA), rfl, ?_, ?_, HED.out.2⟩
        · have hr1 := HRV.out
          obtain ⟨l1, l2, l3, l4⟩ := HYL.out
          rw [← hr1]
          show _ = Ending.returned (.tuple #[.agg #[.slice ao y1.length ac, .slice bo y2.length bc, .slice co y3.length cc, .slice eo y4.length ec, .string ⟨#[]⟩, .bool x2, .string ⟨r.2.2.2.toArray⟩], _, _])
          rw [l1, l2, l3, l4, unhide HX3]
        · exact (((unhide HED7).fr (hf.drew) (fun k hk h => by have := ((unhide HED7).lt k hk).1; omega)).low (by rw [unhide HE]; omega))

theorem edgeOf_any (R : Nat) (rs : List Rl) (ro : Option Addr) (rc : Nat) (s : ByteArray) (w : World) (hR : R < w.heap.size) (hc : w.cell? ⟨R, 3, none⟩ = some (.slice ro rs.length rc)) (hr : RowR w ro rs) (hl : rs.length ≤ 4096) (hs : s.size ≤ 4096) (hp : ∀ r ∈ rs, r.2.2.2.length ≤ 4096) :
    Calls Tryz.prog 79 #[.pointer (some ⟨R, 0, none⟩), .string s] w (EgSays (edL rs (bl s)) w) := by
  cases hb : bdR (bl s) with
  | none => exact edgeOf_none R rs ro rc s w hR hc hr hl hs hb
  | some b =>
    cases hr0 : rlAt rs b.2.1 with
    | none => exact edgeOf_norule R rs ro rc s w hR hc hr hl hs b hb hr0
    | some r => exact edgeOf_go R rs ro rc s w hR hc hr hl hs hp b hb r hr0

end Go.Proofs.YtpddckgkaopnlaaGreatDoor
