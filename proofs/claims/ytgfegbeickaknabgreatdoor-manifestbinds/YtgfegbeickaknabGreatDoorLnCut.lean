/- Rows of lines and of bytes that a call owns; what package lines' join answers for rows of texts: the line that they begin with, and how many of them it takes; the conditions: at most 4096 rows, each of at most 4096 bytes. -/
import Derived.Test.YtgfegbeickaknabGreatDoorWk1
namespace Go.Proofs.YtgfegbeickaknabGreatDoor
open Go.RowKit

theorem Tryz.infoL : (Tryz.prog.info? 56).map (fun i => (i.zero, i.size, i.bytes)) = some (some (.agg #[.bool false, .string ByteArray.empty]), 2, 24) := by kernel_rfl
theorem Tryz.infoBL : (Tryz.prog.info? 5).map (fun i => (i.zero, i.size, i.bytes)) = some (some (.int .u8 0), 1, 1) := by kernel_rfl

def lv (p : Ln) : List Value := [.bool p.1, .string ⟨p.2.toArray⟩]
def bvL (c : UInt8) : List Value := [.int .u8 (c.toNat : Int)]
theorem lv_len (p : Ln) : (lv p).length = 2 := rfl
theorem bvL_len (c : UInt8) : (bvL c).length = 1 := rfl

abbrev OwnL (w : World) (B : Nat) (ao : Option Addr) (cap : Nat) (ps : List Ln) : Prop := w.ownsRow B 56 2 (.slice ao ps.length cap) ps.length (lay lv ps)
abbrev OwnBL (w : World) (B : Nat) (ao : Option Addr) (cap : Nat) (tb : List UInt8) : Prop := w.ownsRow B 5 1 (.slice ao tb.length cap) tb.length (lay bvL tb)

theorem OwnL.snoc {w : World} {B cap : Nat} {ao : Option Addr} {ps : List Ln} {p : Ln} (h : w.ownsRow B 56 2 (.slice ao (ps.length + 1) cap) (ps.length + 1) (lay lv ps ++ [.bool p.1, .string ⟨p.2.toArray⟩])) : OwnL w B ao cap (ps ++ [p]) := by
  show w.ownsRow B _ 2 (.slice ao (ps ++ [p]).length cap) (ps ++ [p]).length (lay lv (ps ++ [p]))
  rw [lay_snoc, List.length_append]; exact h

theorem own_form {w : World} {B e size n : Nat} {v : Value} {xs : List Value} (h : w.ownsRow B e size v n xs) : ∃ ao cap, v = .slice ao n cap := by
  rcases h.2 with ⟨e1, h2⟩ | ⟨g, cap, cur, e1, _⟩
  · exact ⟨none, 0, by rw [e1, h2]⟩
  · exact ⟨_, _, e1⟩

theorem lay_bv (l : List UInt8) : lay bvL l = l.map fun b => Value.int .u8 (b.toNat : Int) := by
  induction l with
  | nil => rfl
  | cons c r ih => rw [lay_cons, ih]; rfl

theorem OwnBL.app {w : World} {B cap : Nat} {ao : Option Addr} {tb : List UInt8} {s : ByteArray} (h : w.ownsRow B 5 1 (.slice ao (tb.length + s.size) cap) (tb.length + s.size) (lay bvL tb ++ Lib.strCells s)) : OwnBL w B ao cap (tb ++ bl s) := by
  show w.ownsRow B _ 1 (.slice ao (tb ++ bl s).length cap) (tb ++ bl s).length (lay bvL (tb ++ bl s))
  rw [lay_app, List.length_append, bl_size, lay_bv (bl s)]; exact h

theorem OwnBL.app' {w : World} {B cap n : Nat} {ao : Option Addr} {tb : List UInt8} {s : ByteArray} (hz : s.size = n) (h : w.ownsRow B 5 1 (.slice ao (tb.length + n) cap) (tb.length + n) (lay bvL tb ++ Lib.strCells s)) : OwnBL w B ao cap (tb ++ bl s) := by
  subst hz; exact OwnBL.app h

theorem str_row {w : World} {B cap : Nat} {ao : Option Addr} {tb : List UInt8} (h : OwnBL w B ao cap tb) :
    (convert 25 9 (.slice ao tb.length cap)).run Tryz.prog w = .ok (.string ⟨tb.toArray⟩) w := by
  by_cases hn : tb = []
  · subst hn
    cases ao with
    | none => exact Lib.run_convert_nil_bytes w _ _ 5 cap Tryz.underlying25 Tryz.underlying5 Tryz.underlying9
    | some a => exact run_convert_bytes_back w _ _ 5 a cap [] Tryz.underlying25 Tryz.underlying5 Tryz.underlying9 (fun j hj => by simp at hj)
  obtain ⟨g, rfl, hB, hg, hf, hc⟩ := own_some bvL_len (by decide) (List.length_pos_iff.2 hn) h
  refine run_convert_bytes_back w _ _ 5 ⟨g, 0, none⟩ cap tb Tryz.underlying25 Tryz.underlying5 Tryz.underlying9 ?_
  intro j hj
  have := hc j 0 tb[j] _ (List.getElem?_eq_getElem hj) (by decide) rfl
  rw [Nat.mul_one, Nat.add_zero] at this
  rw [← this]
  congr 1
  unfold Addr.add; split <;> simp_all

def jnT (rows : List (List UInt8)) : List UInt8 × Nat := (jn false [] rows).getD ([], 0)

/-- The state of a join's walk. -/
def JnS (R : List (List UInt8)) (k : Nat) (a : List UInt8) : Prop := jn false [] R = (jn (decide (0 < k)) a (R.drop k)).map (fun x => (x.1, x.2 + k))
theorem JnS.start (R : List (List UInt8)) : JnS R 0 [] := by
  show jn false [] R = _
  rw [List.drop_zero]
  show _ = (jn false [] R).map _
  cases jn false [] R <;> rfl
theorem JnS.on {R : List (List UInt8)} {k : Nat} {a r : List UInt8} (h : JnS R k a) (hr : R[k]? = some r) (hg : goL (rowL (decide (0 < k)) r) = true) : JnS R (k + 1) (a ++ (rowL (decide (0 < k)) r).dropLast) := by
  have h' : jn false [] R = _ := h
  rw [jn_step hr, if_pos hg] at h'
  show jn false [] R = _
  rw [h', show decide (0 < k + 1) = true by simp, Option.map_map]
  congr 1
  funext x
  simp only [Function.comp]
  congr 1
  omega
theorem JnS.stop {R : List (List UInt8)} {k : Nat} {a r : List UInt8} (h : JnS R k a) (hr : R[k]? = some r) (hg : goL (rowL (decide (0 < k)) r) = false) : jnT R = (a ++ rowL (decide (0 < k)) r, k + 1) := by
  have h' : jn false [] R = _ := h
  rw [jn_step hr, if_neg (by rw [hg]; simp)] at h'
  unfold jnT
  rw [h']
  show (_, 1 + k) = _
  rw [Nat.add_comm]
theorem JnS.none {R : List (List UInt8)} {k : Nat} {a : List UInt8} (h : JnS R k a) (hk : R.length ≤ k) : jnT R = ([], 0) := by
  have h' : jn false [] R = _ := h
  rw [List.drop_eq_nil_of_le hk] at h'
  unfold jnT
  rw [h']; rfl

theorem bl_front (s : ByteArray) : bl (s.extract 0 (s.size - 1)) = (bl s).dropLast := by
  rw [bl_extract, List.drop_zero, List.dropLast_eq_take, bl_size]

set_option maxRecDepth 20000 in
set_option maxHeartbeats 4000000 in
theorem join_any (g o cap m : Nat) (xs : List ByteArray) (w : World) (hm : m = xs.length) (hg : g < w.heap.size) (hc : ∀ (j : Nat) x, xs[j]? = some x → w.cell? ⟨g, o + j, none⟩ = some (.string x)) (hn : xs.length ≤ 4096) (hx : ∀ x ∈ xs, x.size ≤ 4096) :
    Calls Tryz.prog 17 #[.slice (some ⟨g, o, none⟩) m cap] w fun e w' => e = .returned (.tuple #[.string ⟨(jnT (xs.map bl)).1.toArray⟩, .int .i64 (jnT (xs.map bl)).2]) ∧ Q w w' := by
  obtain ⟨i1, hj, hy0, hy1, hy2⟩ := info_parts Tryz.infoBL
  have HM := hide hm
  have hmn : m ≤ 4096 := by omega
  clear hm
  go_enter Tryz.func17, Tryz.ntmps17
  go_wp2_with fail
  go_loopw [4, 9] (fun ln i wr => ∃ (k : Nat) (tb : List UInt8) (bo : Option Addr) (bcap : Nat), i = .int .i64 k ∧ ln = .slice bo tb.length bcap ∧ k ≤ m ∧ tb.length ≤ k * 4096 ∧
      OwnBL wr w.heap.size bo bcap tb ∧ Q w wr ∧ Hid (JnS (xs.map bl) k tb))
    (fun _ i _ => m - (intOf i).toNat)
  case atStart => exact ⟨0, [], none, 0, rfl, rfl, by omega, by simp, World.ownsRow_nil _ _ _ _, Q.refl _, JnS.start _⟩
  case round =>
    obtain ⟨k, tb, bo, bcap, rfl, rfl, hk, htl, htx, hq, HS⟩ := hrel
    have hqs := hq.size
    by_cases hlt : k < m
    · have hkx : k < xs.length := by have := unhide HM; omega
      obtain ⟨x, hxk⟩ : ∃ x, xs[k]? = some x := ⟨xs[k], List.getElem?_eq_getElem hkx⟩
      have hxs : x.size ≤ 4096 := hx x (List.mem_of_getElem? hxk)
      have ck : wr.cell? ⟨g, o + k, none⟩ = some (.string x) := (hq.cell (p := ⟨g, o + k, none⟩) hg).trans (hc k x hxk)
      have HK : Hid ((xs.map bl)[k]? = some (bl x)) := by show _ = _; rw [List.getElem?_map, hxk]; rfl
      clear hc hx hxk hkx
      by_cases hk0 : k = 0
      · subst hk0
        rw [Nat.add_zero] at ck
        cases hgo : goL (bl x)
        · have HF := hide (HS.out.stop HK.out (by rw [show decide (0 < 0) = false by decide]; exact hgo))
          have HG := hide hgo
          clear hgo HS
          go_wp2_with fail
          refine (goes_any x _ (by unfold maxLen; omega)).mono ?_
          rintro e w2 ⟨rfl, rfl⟩
          rw [unhide HG]
          go_wp2_with (at_builtin; refine Lib.wpList_append_own_string _ rfl _ _ 25 9 rfl w.heap.size 5 i1 Tryz.underlying25 Tryz.underlying9 hj hy0 hy1 hy2 _ _ _ rfl htx x rfl (by unfold maxLen; omega) (by omega) hqs ?_)
          intro v3 w3 hown3 hgrow3 hiff3
          obtain ⟨bo3, bcap3, rfl⟩ := own_form hown3
          have hq3 : Q w w3 := Below.grown hq hgrow3 hqs (fun r hr => (htx.lt r hr).1)
          have HO3 := hide (OwnBL.app hown3)
          have hcv := str_row (unhide HO3)
          rw [List.length_append, bl_size] at hcv
          clear hown3 hgrow3 hiff3 htx HO3
          go_wp2
          go_ret2
          rw [unhide HF]
          exact ⟨rfl, hq3⟩
        · have HN := hide (HS.out.on HK.out (by rw [show decide (0 < 0) = false by decide]; exact hgo))
          have hx1 : 1 ≤ x.size := by rw [← bl_size]; exact go_len hgo
          have HG := hide hgo
          clear hgo HS
          go_wp2_with fail
          refine (goes_any x _ (by unfold maxLen; omega)).mono ?_
          rintro e w2 ⟨rfl, rfl⟩
          rw [unhide HG]
          have hez : (x.extract 0 (x.size - 1)).size = x.size - 1 := ext_sz x 0 (x.size - 1) (by omega) (by omega)
          go_wp2_with (at_builtin; refine Lib.wpList_append_own_string _ rfl _ _ 25 9 rfl w.heap.size 5 i1 Tryz.underlying25 Tryz.underlying9 hj hy0 hy1 hy2 _ _ _ rfl htx (x.extract 0 (x.size - 1)) rfl (by unfold maxLen; rw [hez]; omega) (by rw [hez]; omega) hqs ?_)
          intro v3 w3 hown3 hgrow3 hiff3
          obtain ⟨bo3, bcap3, rfl⟩ := own_form hown3
          have hq3 : Q w w3 := Below.grown hq hgrow3 hqs (fun r hr => (htx.lt r hr).1)
          have HO3 := hide (OwnBL.app' hez hown3)
          rw [bl_front] at HO3
          clear hown3 hgrow3 hiff3 htx
          go_wp2
          go_roundw
          case rel => exact ⟨0 + 1, tb ++ (bl x).dropLast, bo3, bcap3, by go_num, by rw [List.length_append, List.length_dropLast, bl_size], by omega, by rw [List.length_append, List.length_dropLast, bl_size]; omega, unhide HO3, hq3, HN⟩
          case measure => simp [intOf]; omega
      · obtain ⟨r, hr⟩ : ∃ r : ByteArray, r = ⟨(frL (bl x)).toArray⟩ := ⟨_, rfl⟩
        have hrb : bl r = frL (bl x) := by rw [hr]; rfl
        have hrz : r.size ≤ x.size := by rw [← bl_size, ← bl_size, hrb]; exact fr_len _
        have HT := hide (fun w => triml_any x w)
        rw [← hr] at HT
        have hrow : rowL (decide (0 < k)) (bl x) = bl r := by rw [decide_eq_true (by omega), hrb]; rfl
        cases hgo : goL (bl r)
        · have HF := hide (HS.out.stop HK.out (by rw [hrow]; exact hgo))
          have HG := hide hgo
          rw [hrow] at HF
          clear hgo HS hr hrb hrow
          go_wp2_with fail
          refine (unhide HT _).mono ?_
          rintro e w2 ⟨rfl, rfl⟩
          go_wp2_with fail
          refine (goes_any r _ (by unfold maxLen; omega)).mono ?_
          rintro e w2 ⟨rfl, rfl⟩
          rw [unhide HG]
          go_wp2_with (at_builtin; refine Lib.wpList_append_own_string _ rfl _ _ 25 9 rfl w.heap.size 5 i1 Tryz.underlying25 Tryz.underlying9 hj hy0 hy1 hy2 _ _ _ rfl htx r rfl (by unfold maxLen; omega) (by omega) hqs ?_)
          intro v3 w3 hown3 hgrow3 hiff3
          obtain ⟨bo3, bcap3, rfl⟩ := own_form hown3
          have hq3 : Q w w3 := Below.grown hq hgrow3 hqs (fun r hr => (htx.lt r hr).1)
          have HO3 := hide (OwnBL.app hown3)
          have hcv := str_row (unhide HO3)
          rw [List.length_append, bl_size] at hcv
          clear hown3 hgrow3 hiff3 htx HO3
          go_wp2
          go_ret2
          rw [unhide HF]
          exact ⟨rfl, hq3⟩
        · have HN := hide (HS.out.on HK.out (by rw [hrow]; exact hgo))
          have hx1 : 1 ≤ r.size := by rw [← bl_size]; exact go_len hgo
          have HG := hide hgo
          rw [hrow] at HN
          clear hgo HS hr hrb hrow
          go_wp2_with fail
          refine (unhide HT _).mono ?_
          rintro e w2 ⟨rfl, rfl⟩
          go_wp2_with fail
          refine (goes_any r _ (by unfold maxLen; omega)).mono ?_
          rintro e w2 ⟨rfl, rfl⟩
          rw [unhide HG]
          have hez : (r.extract 0 (r.size - 1)).size = r.size - 1 := ext_sz r 0 (r.size - 1) (by omega) (by omega)
          go_wp2_with (at_builtin; refine Lib.wpList_append_own_string _ rfl _ _ 25 9 rfl w.heap.size 5 i1 Tryz.underlying25 Tryz.underlying9 hj hy0 hy1 hy2 _ _ _ rfl htx (r.extract 0 (r.size - 1)) rfl (by unfold maxLen; rw [hez]; omega) (by rw [hez]; omega) hqs ?_)
          intro v3 w3 hown3 hgrow3 hiff3
          obtain ⟨bo3, bcap3, rfl⟩ := own_form hown3
          have hq3 : Q w w3 := Below.grown hq hgrow3 hqs (fun r hr => (htx.lt r hr).1)
          have HO3 := hide (OwnBL.app' hez hown3)
          rw [bl_front] at HO3
          clear hown3 hgrow3 hiff3 htx
          go_wp2
          go_roundw
          case rel => exact ⟨k + 1, tb ++ (bl r).dropLast, bo3, bcap3, by go_num, by rw [List.length_append, List.length_dropLast, bl_size], by omega, by rw [List.length_append, List.length_dropLast, bl_size]; omega, unhide HO3, hq3, HN⟩
          case measure => simp [intOf]; omega
    · have HF := hide (HS.out.none (by rw [List.length_map]; have := unhide HM; omega))
      clear HS
      go_wp2_with fail
      go_ret2
      rw [unhide HF]
      exact ⟨rfl, hq⟩

end Go.Proofs.YtgfegbeickaknabGreatDoor
