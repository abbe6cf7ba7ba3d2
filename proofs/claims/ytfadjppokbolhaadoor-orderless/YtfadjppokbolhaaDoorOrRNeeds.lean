/- Which edges an edge needs, as the document's own Needs answers; is all told that it needs; the conditions: the graph lies in memory, the edge has at most eight names of each kind. -/
import Derived.Test.YtfadjppokbolhaaDoorOrNeeds
import Derived.Test.YtfadjppokbolhaaDoorGfRMo
import Derived.Test.YtfadjppokbolhaaDoorAfQuiet
namespace Go.Proofs.YtfadjppokbolhaaDoor
open Go.RowKit

theorem mkN_no {es : List Ed} {n : Tx} (h : mkA es n < 0) : mkN es n = [] := by
  unfold mkA ixB at h
  unfold mkN
  cases hf : es.findIdx? (fun e : Ed => e.1.contains n) with
  | none => rfl
  | some k => rw [hf] at h; simp at h; omega
theorem mkN_at {es : List Ed} {n : Tx} {m : Nat} (h : mkA es n = m) : mkN es n = [m] := by
  unfold mkA ixB at h
  unfold mkN
  cases hf : es.findIdx? (fun e : Ed => e.1.contains n) with
  | none => rw [hf] at h; simp at h
  | some k => rw [hf] at h; have h2 : k = m := Int.ofNat_inj.1 h; rw [h2]; rfl
theorem flat_succ {α β : Type} {f : α → List β} {xs : List α} {k : Nat} {x : α} (h : xs[k]? = some x) : (xs.take (k + 1)).flatMap f = (xs.take k).flatMap f ++ f x := by
  rw [List.take_add_one, h, List.flatMap_append]; simp
/-- An edge's lists are short. -/
def Ed8 (e : Ed) : Prop := e.2.1.length ≤ 8 ∧ e.2.2.1.length ≤ 8 ∧ e.2.2.2.1.length ≤ 8
theorem ck_ed8 {g : Gh} (h : ckE g = 0) : ∀ e ∈ g.1, Ed8 e := by
  have hm : gmB g = true := by
    cases hm : gmB g with
    | true => rfl
    | false => rw [ck_form hm] at h; cases h
  unfold gmB esB at hm
  simp only [Bool.and_eq_true, decide_eq_true_eq] at hm
  intro e he
  have h1 := List.all_eq_true.1 hm.2.2.2 e he
  unfold edM' edOk ptsB at h1
  simp only [Bool.and_eq_true, decide_eq_true_eq] at h1
  exact ⟨h1.1.2.2.1.1, h1.1.2.2.2.1.1, h1.1.2.2.2.2.1.1⟩

set_option maxRecDepth 20000 in
set_option maxHeartbeats 16000000 in
theorem rNd_any (g : Gh) (es : List EdA) (eo po dd : Option Addr) (ec pc dc : Nat) (k : Nat) (b : EdA) (w : World) (hg : GfR w g es eo po dd) (hb : es[k]? = some b) (h8 : Ed8 b.1) :
    Calls Tryd.prog 12 #[.agg #[.slice eo es.length ec, .slice po g.2.1.length pc, .slice dd g.2.2.length dc], .int .i64 k] w fun e w' => ∃ ao cap, e = .returned (.slice ao (rnd g.1 b.1).length cap) ∧ OwnI w' w.heap.size ao cap (rnd g.1 b.1) ∧ Q w w' := by
  obtain ⟨i0, hi, hz0, hz1, hz2⟩ : ∃ i0, Tryd.prog.info? 9 = some i0 ∧ i0.zero = some (.string ByteArray.empty) ∧ i0.size = 1 ∧ i0.bytes = 16 := ⟨_, rfl, rfl, rfl, rfl⟩
  obtain ⟨j0, ji, jz0, jz1, jz2⟩ : ∃ i0, Tryd.prog.info? 3 = some i0 ∧ i0.zero = some (.int .i64 0) ∧ i0.size = 1 ∧ i0.bytes = 8 := ⟨_, rfl, rfl, rfl, rfl⟩
  have HM : Hid (∀ (n : ByteArray) w2, Q w w2 → Calls Tryd.prog 18 #[.agg #[.slice eo es.length ec, .slice po g.2.1.length pc, .slice dd g.2.2.length dc], .string n] w2 fun e w' => e = .returned (.int .i64 (mkA g.1 (bl n))) ∧ Q w2 w') := fun n w2 q => rMo_any g n es eo po dd ec pc dc w2 (hg.q' q)
  have qb := grB_q w es g eo po dd ec pc dc
  have HB1 := hide (grB_blk w es g eo po dd ec pc dc)
  have hk : k < es.length := (List.getElem?_eq_some_iff.1 hb).1
  have HX := hide (hg.q b (List.mem_of_getElem? hb))
  obtain ⟨h81, h82, h83⟩ := h8
  have HE := hide hg.e
  have HRN : Hid (rnd g.1 b.1 = (b.1.2.1 ++ b.1.2.2.1 ++ b.1.2.2.2.1).flatMap (mkN g.1)) := rfl
  clear hg
  go_enter Tryd.func12, Tryd.ntmps12
  go_upto_region 1 with fail
  change Code.wp _ _ _ _ (grB w es g eo po dd ec pc dc)
  generalize grB w es g eo po dd ec pc dc = wb at *
  generalize hX : w.heap.size = X at HB1 ⊢
  have x0 : wb.cell? ⟨X, 0, none⟩ = some (.slice eo es.length ec) := (unhide HB1).cell 0 rfl
  rcases (unhide HE).q qb with he | ⟨gg, o, rfl, hgg, hcell⟩
  · rw [he] at hk; simp at hk
  have c0 : wb.cell? ⟨gg, o + k * 7, none⟩ = some (.slice b.2.1.1 b.1.1.length b.2.1.2) := hcell k 0 b _ hb (by decide) rfl
  have c1 : wb.cell? ⟨gg, o + k * 7 + 1, none⟩ = some (.slice b.2.2.1.1 b.1.2.1.length b.2.2.1.2) := hcell k 1 b _ hb (by decide) rfl
  have c2 : wb.cell? ⟨gg, o + k * 7 + 2, none⟩ = some (.slice b.2.2.2.1.1 b.1.2.2.1.length b.2.2.2.1.2) := hcell k 2 b _ hb (by decide) rfl
  have c3 : wb.cell? ⟨gg, o + k * 7 + 3, none⟩ = some (.slice b.2.2.2.2.1 b.1.2.2.2.1.length b.2.2.2.2.2) := hcell k 3 b _ hb (by decide) rfl
  have c4 : wb.cell? ⟨gg, o + k * 7 + 4, none⟩ = some (.string ⟨b.1.2.2.2.2.1.toArray⟩) := hcell k 4 b _ hb (by decide) rfl
  have c5 : wb.cell? ⟨gg, o + k * 7 + 5, none⟩ = some (.bool b.1.2.2.2.2.2.1) := hcell k 5 b _ hb (by decide) rfl
  have c6 : wb.cell? ⟨gg, o + k * 7 + 6, none⟩ = some (.string ⟨b.1.2.2.2.2.2.2.toArray⟩) := hcell k 6 b _ hb (by decide) rfl
  have hkI : (k : Int) < (es.length : Int) := by omega
  clear hcell hb
  go_upto_region 2 with fail
  clear c0 c1 c2 c3 c4 c5 c6 x0
  have HBE := hide (Blk.new wb (ev b).toArray 38)
  have qa := (Q.refl wb).alloc (.cells (ev b).toArray 38)
  change Code.wp _ _ _ _ (wb.alloc (.cells (ev b).toArray 38))
  have qwc := qb.trans qa
  have HB2 := hide ((unhide HB1).q qa)
  have hEl : wb.heap.size < (wb.alloc (.cells (ev b).toArray 38)).heap.size := (unhide HBE).hi
  generalize wb.alloc (.cells (ev b).toArray 38) = wc at *
  generalize wb.heap.size = E at *
  have HO0 := hide (own_new0 (w := wc) (B := wc.heap.size) (e := 9) (size := 1) (Nat.le_refl _))
  have q0 := (Q.refl wc).alloc (.cells #[] 9)
  have d1 : (wc.alloc (.cells #[] 9)).cell? ⟨E, 1, none⟩ = some (.slice b.2.2.1.1 b.1.2.1.length b.2.2.1.2) := ((unhide HBE).q q0).cell 1 rfl
  have HS1 := hide (SrcRow.row tv_len (by decide) ((unhide HX).b.q (qwc.trans q0)))
  clear HB1 qa
  go_upto_region 3 with (at_builtin; refine wpList_append_row rfl _ _ 24 rfl wc.heap.size 9 i0 (.string ByteArray.empty) 1 16 Tryd.underlying24 hi hz0 hz1 hz2 rfl (by decide) (some ⟨wc.heap.size, 0, none⟩) 0 0 [] rfl (unhide HO0) b.2.2.1.1 b.1.2.1.length b.2.2.1.2 (lay tv b.1.2.1) rfl (unhide HS1) (one_layT b.1.2.1) (by unfold maxLen; omega) (by omega) q0.size ?_)
  intro ao1 cap1 w1 own1 grow1
  have q1 : Q wc w1 := Below.grown q0 grow1 q0.size (fun r hr => ((unhide HO0).lt r hr).1)
  have ow1 : OwnT w1 wc.heap.size ao1 cap1 b.1.2.1 := own1
  have HO1 := hide ow1
  clear own1 grow1 ow1 HO0 HS1 q0 d1
  go_upto_region 3 with fail
  have d2 : w1.cell? ⟨E, 2, none⟩ = some (.slice b.2.2.2.1.1 b.1.2.2.1.length b.2.2.2.1.2) := ((unhide HBE).q q1).cell 2 rfl
  have HS2 := hide (SrcRow.row tv_len (by decide) ((unhide HX).c.q (qwc.trans q1)))
  go_upto_region 4 with (at_builtin; refine wpList_append_row rfl _ _ 24 rfl wc.heap.size 9 i0 (.string ByteArray.empty) 1 16 Tryd.underlying24 hi hz0 hz1 hz2 rfl (by decide) ao1 b.1.2.1.length cap1 (lay tv b.1.2.1) rfl (unhide HO1) b.2.2.2.1.1 b.1.2.2.1.length b.2.2.2.1.2 (lay tv b.1.2.2.1) rfl (unhide HS2) (one_layT b.1.2.2.1) (by unfold maxLen; omega) (by omega) q1.size ?_)
  intro ao2 cap2 w2 own2 grow2
  have q2 : Q wc w2 := Below.grown q1 grow2 q1.size (fun r hr => ((unhide HO1).lt r hr).1)
  have ow2 : OwnT w2 wc.heap.size ao2 cap2 (b.1.2.1 ++ b.1.2.2.1) := by
    show World.ownsRow _ _ _ _ (.slice _ (b.1.2.1 ++ b.1.2.2.1).length _) (b.1.2.1 ++ b.1.2.2.1).length (lay tv (b.1.2.1 ++ b.1.2.2.1))
    rw [List.length_append, lay_app]; exact own2
  have HO2 := hide ow2
  clear own2 grow2 ow2 HO1 HS2 q1 d2
  go_upto_region 4 with fail
  have d3 : w2.cell? ⟨E, 3, none⟩ = some (.slice b.2.2.2.2.1 b.1.2.2.2.1.length b.2.2.2.2.2) := ((unhide HBE).q q2).cell 3 rfl
  have HS3 := hide (SrcRow.row tv_len (by decide) ((unhide HX).d.q (qwc.trans q2)))
  have HO2b : Hid (w2.ownsRow wc.heap.size 9 1 (.slice ao2 (b.1.2.1.length + b.1.2.2.1.length) cap2) (b.1.2.1.length + b.1.2.2.1.length) (lay tv (b.1.2.1 ++ b.1.2.2.1))) := by
    have h : w2.ownsRow wc.heap.size 9 1 (.slice ao2 (b.1.2.1 ++ b.1.2.2.1).length cap2) (b.1.2.1 ++ b.1.2.2.1).length (lay tv (b.1.2.1 ++ b.1.2.2.1)) := unhide HO2
    rwa [List.length_append] at h
  go_upto_region 5 with (at_builtin; refine wpList_append_row rfl _ _ 24 rfl wc.heap.size 9 i0 (.string ByteArray.empty) 1 16 Tryd.underlying24 hi hz0 hz1 hz2 rfl (by decide) ao2 (b.1.2.1.length + b.1.2.2.1.length) cap2 (lay tv (b.1.2.1 ++ b.1.2.2.1)) rfl (unhide HO2b) b.2.2.2.2.1 b.1.2.2.2.1.length b.2.2.2.2.2 (lay tv b.1.2.2.2.1) rfl (unhide HS3) (one_layT b.1.2.2.2.1) (by unfold maxLen; omega) (by omega) q2.size ?_)
  intro ao3 cap3 w3 own3 grow3
  have q3 : Q wc w3 := Below.grown q2 grow3 q2.size (fun r hr => ((unhide HO2b).lt r hr).1)
  obtain ⟨L, hL⟩ : ∃ L, b.1.2.1 ++ b.1.2.2.1 ++ b.1.2.2.2.1 = L := ⟨_, rfl⟩
  have hLl : L.length = b.1.2.1.length + b.1.2.2.1.length + b.1.2.2.2.1.length := by rw [← hL]; simp; omega
  have HRL : Hid (RowT w3 ao3 L) := by
    refine OwnT.row (B := wc.heap.size) (cap := cap3) ?_
    rw [← lay_app, hL, ← hLl] at own3; exact own3
  rw [hL] at HRN
  rw [← hLl]
  have hL24 : L.length ≤ 24 := by omega
  clear own3 grow3 HO2 HO2b HS3 q2 d3 hL hLl
  have qw3 := qwc.trans q3
  have HX3 : Hid (∀ w5, Q w3 w5 → w5.cell? ⟨X, 0, none⟩ = some (.slice (some ⟨gg, o, none⟩) es.length ec) ∧ w5.cell? ⟨X, 1, none⟩ = some (.slice po g.2.1.length pc) ∧ w5.cell? ⟨X, 2, none⟩ = some (.slice dd g.2.2.length dc) ∧ X < w5.heap.size) :=
    fun w5 q => ⟨((unhide HB2).q (q3.trans q)).cell 0 rfl, ((unhide HB2).q (q3.trans q)).cell 1 rfl, ((unhide HB2).q (q3.trans q)).cell 2 rfl, ((unhide HB2).q (q3.trans q)).hi⟩
  clear HBE HB2 HX HE
  go_upto_region 5 with fail
  go_wp2_with fail
  have hX3 : X ≤ w3.heap.size := by rw [← hX]; exact qw3.size
  go_loopw [7, 8] (fun s i wr => ∃ (m : Nat) (out : List Nat) (ao : Option Addr) (cap : Nat), m ≤ L.length ∧ i = .int .i64 m ∧ s = .slice ao out.length cap ∧ out.length ≤ m ∧ OwnI wr w3.heap.size ao cap out ∧ Q w3 wr ∧ Hid (out = (L.take m).flatMap (mkN g.1))) (fun _ i _ => L.length - (intOf i).toNat)
  case atStart => exact ⟨0, [], none, 0, Nat.zero_le _, rfl, rfl, Nat.le_refl _, World.ownsRow_nil _ _ _ _, Q.refl _, rfl⟩
  case round =>
    obtain ⟨m, out, ao, cap, hm, rfl, rfl, hol, hown, hq, HY⟩ := hrel
    by_cases hlt : m < L.length
    · rcases (unhide HRL).q hq with he | ⟨g2, o2, eb, hg2, hcell2⟩
      · rw [he] at hlt; simp at hlt
      · obtain ⟨x, hx⟩ : ∃ x, L[m]? = some x := ⟨_, List.getElem?_eq_getElem hlt⟩
        have cx : wr.cell? ⟨g2, o2 + m, none⟩ = some (.string ⟨x.toArray⟩) := by have := hcell2 m 0 x _ hx (by decide) rfl; simpa using this
        obtain ⟨x0, x1, x2, xs⟩ := unhide HX3 wr hq
        have HA0 : ∀ u : Aft wr, u.to.cell? ⟨X, 0, none⟩ = some (.slice (some ⟨gg, o, none⟩) es.length ec) := Aft.cell x0 xs
        have HA1 : ∀ u : Aft wr, u.to.cell? ⟨X, 1, none⟩ = some (.slice po g.2.1.length pc) := Aft.cell x1 xs
        have HA2 : ∀ u : Aft wr, u.to.cell? ⟨X, 2, none⟩ = some (.slice dd g.2.2.length dc) := Aft.cell x2 xs
        have HA3 : ∀ u : Aft wr, u.to.cell? ⟨g2, o2 + m, none⟩ = some (.string ⟨x.toArray⟩) := Aft.cell cx hg2
        have HCM : Hid (∀ u : Aft wr, Calls Tryd.prog 18 #[.agg #[.slice (some ⟨gg, o, none⟩) es.length ec, .slice po g.2.1.length pc, .slice dd g.2.2.length dc], .string ⟨x.toArray⟩] u.to fun e w' => e = .returned (.int .i64 (mkA g.1 x)) ∧ Q u.to w') := fun u => unhide HM ⟨x.toArray⟩ u.to ((qw3.trans hq).trans u.q)
        have HFS := hide (flat_succ (f := mkN g.1) hx)
        have hne := Aft.ne wr
        have hmI : (m : Int) < (L.length : Int) := by omega
        have HOW := hide hown
        clear hcell2 hx cx x0 x1 x2 hown
        generalize (⟨x.toArray⟩ : ByteArray) = xv at *
        rw [eb]
        go_wp2_with fail
        refine wp_region_aft (by kernel_rfl) (by kernel_rfl) ?_
        repeat (go_big_quiet_step ((go_at_call 18; exact Calls.aft (unhide HCM _))))
        refine wpQuiet_nil ?_
        intro _ hw'
        obtain ⟨u, hw''⟩ := hw'
        subst hw''
        have hqu := hq.trans u.q
        have HOU := hide (own_q (unhide HOW) u.q)
        generalize u.to = w6 at *
        clear HA0 HA1 HA2 HA3 hne HCM HOW
        by_cases hz : mkA g.1 x < 0
        · have HY2 : Hid (out = (L.take (m + 1)).flatMap (mkN g.1)) := by
            show _ = _
            rw [unhide HFS, mkN_no hz, List.append_nil]; exact HY.out
          clear HY HFS
          generalize mkA g.1 x = z at *
          go_wp2_with fail
          go_roundw
          case rel => exact ⟨m + 1, out, ao, cap, by omega, by go_num, rfl, by omega, unhide HOU, hqu, HY2⟩
          case measure => simp [intOf]; omega
        · obtain ⟨p, hp⟩ : ∃ p : Nat, mkA g.1 x = (p : Int) := ⟨(mkA g.1 x).toNat, by omega⟩
          have HY2 : Hid (out ++ [p] = (L.take (m + 1)).flatMap (mkN g.1)) := by
            show _ = _
            rw [unhide HFS, mkN_at hp, HY.out]
          rw [hp]
          have hp0 : (0 : Int) ≤ (p : Int) := by omega
          have hbs : w3.heap.size ≤ w6.heap.size := hqu.size
          clear HY HFS hz hp
          go_wp2_with (at_builtin; refine wpList_append_lies _ rfl _ _ 28 rfl w3.heap.size 3 j0 (.int .i64 0) 1 8 Tryd.underlying28 ji jz0 jz1 jz2 rfl (by decide) _ _ _ rfl ((unhide HOU).alloc _) ⟨w6.heap.size, 0, none⟩ 1 1 [.int .i64 p] rfl rfl (news_at (by simp) #[.int .i64 p] _) (one_int _ _) (by decide) (by unfold maxLen; omega) (by omega) (le_alloc hbs _) (w6.heap.size + 1) (by simp) ?_)
          intro g7 cp7 w7 own7 grow7 or7 lt7
          have q7 : Q w3 w7 := Below.grown (hqu.alloc _) grow7 (le_alloc hbs _) (fun r hr => ((unhide HOU).lt r hr).1)
          have ow7 : OwnI w7 w3.heap.size (some ⟨g7, 0, none⟩) cp7 (out ++ [p]) := OwnI.snoc own7
          clear own7 grow7 or7 lt7 HOU
          go_wp2
          go_roundw
          case rel =>
            refine ⟨m + 1, out ++ [p], some ⟨g7, 0, none⟩, cp7, by omega, by go_num, ?_, ?_, ow7, q7, HY2⟩
            · simp
            · simp; omega
          case measure => simp [intOf]; omega
    · have HF : Hid (out = rnd g.1 b.1) := by
        show _ = _
        rw [HY.out, List.take_of_length_le (by omega), HRN.out]
      have HO := hide (own_low hown (show w.heap.size ≤ w3.heap.size from qw3.size))
      clear hown HY
      go_wp2_with fail
      go_ret
      refine ⟨ao, cap, ?_, ?_, qw3.trans hq⟩
      · rw [← HF.out]; rfl
      · rw [← HF.out]; exact unhide HO

set_option maxRecDepth 20000 in
set_option maxHeartbeats 4000000 in
theorem free_any (g : Gh) (es : List EdA) (eo po dd : Option Addr) (ec pc dc : Nat) (k : Nat) (b : EdA) (t : List Bool) (T : Option Addr) (tc : Nat) (w : World) (hg : GfR w g es eo po dd) (hb : es[k]? = some b) (h8 : Ed8 b.1) (ht : RowB w T t) (htl : t.length = g.1.length) (_ : t.length ≤ 4096) :
    Calls Tryd.prog 10 #[.agg #[.slice eo es.length ec, .slice po g.2.1.length pc, .slice dd g.2.2.length dc], .slice T t.length tc, .int .i64 k] w fun e w' => e = .returned (.bool ((rnd g.1 b.1).all (tB t))) ∧ Q w w' := by
  have S1 := hide (fun w2 (q : Q w w2) => rNd_any g es eo po dd ec pc dc k b w2 (hg.q' q) hb h8)
  have qb := grB_q w es g eo po dd ec pc dc
  have HLT : Hid (∀ x ∈ rnd g.1 b.1, x < t.length) := fun x hx => by rw [htl]; exact rnd_lt hx
  have hrl : (rnd g.1 b.1).length ≤ 24 := by
    have h1 : ∀ L : Ws, (L.flatMap (mkN g.1)).length ≤ L.length := fun L => by
      induction L with
      | nil => simp
      | cons a r ih =>
        rw [List.flatMap_cons, List.length_append, List.length_cons]
        have : (mkN g.1 a).length ≤ 1 := by unfold mkN; cases g.1.findIdx? (fun e : Ed => e.1.contains a) <;> simp
        omega
    have h2 := h1 (inL b.1)
    have h3 : (inL b.1).length = b.1.2.1.length + b.1.2.2.1.length + b.1.2.2.2.1.length := by unfold inL; simp; omega
    obtain ⟨a1, a2, a3⟩ := h8
    unfold rnd; omega
  have HT := hide ht
  generalize rnd g.1 b.1 = xs at *
  clear hg hb h8 ht htl
  go_enter Tryd.func10, Tryd.ntmps10
  go_wp2_with fail
  change Calls _ _ _ (grB w es g eo po dd ec pc dc) _
  generalize grB w es g eo po dd ec pc dc = wb at *
  refine (unhide S1 wb qb).mono ?_
  rintro e w1 ⟨ao, cap, rfl, hown, q1⟩
  have qw1 := qb.trans q1
  have HR := hide (OwnI.row hown)
  have HT1 := hide ((unhide HT).q qw1)
  clear S1 hown q1 HT
  go_wp2_with fail
  go_loop [8] (fun i => ∃ k : Nat, k ≤ xs.length ∧ i = .int .i64 k ∧ Hid ((xs.take k).all (tB t) = true)) (fun i => xs.length - (intOf i).toNat)
  case atStart => exact ⟨0, Nat.zero_le _, rfl, rfl⟩
  case round =>
    obtain ⟨k, hk, rfl, HA⟩ := hrel
    by_cases hlt : k < xs.length
    · rcases unhide HR with he | ⟨g, o, rfl, hg, hcell⟩
      · rw [he] at hlt; simp at hlt
      obtain ⟨b, hbb⟩ : ∃ b, xs[k]? = some b := ⟨xs[k], List.getElem?_eq_getElem hlt⟩
      have c1 : w1.cell? ⟨g, o + k, none⟩ = some (.int .i64 (b : Int)) := by have := hcell k 0 b _ hbb (by decide) rfl; simpa using this
      have hbt : b < t.length := unhide HLT b (List.mem_of_getElem? hbb)
      rcases unhide HT1 with he2 | ⟨g2, o2, rfl, hg2, hcell2⟩
      · rw [he2] at hbt; simp at hbt
      obtain ⟨z, hz⟩ : ∃ z, t[b]? = some z := ⟨t[b], List.getElem?_eq_getElem hbt⟩
      have c2 : w1.cell? ⟨g2, o2 + b, none⟩ = some (.bool z) := by have := hcell2 b 0 z _ hz (by decide) rfl; simpa using this
      have HTT := hide (all_succ (tB t) hbb)
      have HN := hide (fun h => all_no (p := tB t) hbb h)
      have HZ := hide (tB_get hz)
      clear hcell hcell2 hbb hz
      cases z
      · have HO : Hid (xs.all (tB t) = false) := unhide HN (unhide HZ)
        clear HTT HN HZ HA
        go_wp2_with fail
        go_ret
        exact ⟨ret_bool HO.out.symm, qw1⟩
      · have HO : Hid ((xs.take (k + 1)).all (tB t) = true) := by
          show _ = _
          rw [unhide HTT, HA.out, unhide HZ]; rfl
        clear HTT HN HZ HA
        go_wp2_with fail
        go_round
        case rel => exact ⟨k + 1, by omega, by go_num, HO⟩
        case measure => simp [intOf]; omega
    · have HO : Hid (xs.all (tB t) = true) := by
        have := HA.out
        rwa [List.take_of_length_le (by omega)] at this
      clear HA
      go_wp2_with fail
      go_ret
      exact ⟨ret_bool HO.out.symm, qw1⟩

end Go.Proofs.YtfadjppokbolhaaDoor
