/- Several texts of mine in one: LnCut, LnDo. -/
import Derived.Test.YtpddckgkaopnlaaGreatDoorWk1
/- Rows of lines and of bytes that a call owns; what package lines' join answers for rows of texts: the line that they begin with, and how many of them it takes; the conditions: at most 4096 rows, each of at most 4096 bytes. -/
namespace Go.Proofs.YtpddckgkaopnlaaGreatDoor
open Go.RowKit

theorem Tryz.infoL : (Tryz.prog.info? 51).map (fun i => (i.zero, i.size, i.bytes)) = some (some (.agg #[.bool false, .string ByteArray.empty]), 2, 24) := by kernel_rfl
theorem Tryz.infoBL : (Tryz.prog.info? 5).map (fun i => (i.zero, i.size, i.bytes)) = some (some (.int .u8 0), 1, 1) := by kernel_rfl

def lv (p : Ln) : List Value := [.bool p.1, .string ⟨p.2.toArray⟩]
def bvL (c : UInt8) : List Value := [.int .u8 (c.toNat : Int)]
theorem lv_len (p : Ln) : (lv p).length = 2 := rfl
theorem bvL_len (c : UInt8) : (bvL c).length = 1 := rfl

abbrev OwnL (w : World) (B : Nat) (ao : Option Addr) (cap : Nat) (ps : List Ln) : Prop := w.ownsRow B 51 2 (.slice ao ps.length cap) ps.length (lay lv ps)
abbrev OwnBL (w : World) (B : Nat) (ao : Option Addr) (cap : Nat) (tb : List UInt8) : Prop := w.ownsRow B 5 1 (.slice ao tb.length cap) tb.length (lay bvL tb)

theorem OwnL.snoc {w : World} {B cap : Nat} {ao : Option Addr} {ps : List Ln} {p : Ln} (h : w.ownsRow B 51 2 (.slice ao (ps.length + 1) cap) (ps.length + 1) (lay lv ps ++ [.bool p.1, .string ⟨p.2.toArray⟩])) : OwnL w B ao cap (ps ++ [p]) := by
  show w.ownsRow B _ 2 (.slice ao (ps ++ [p]).length cap) (ps ++ [p]).length (lay lv (ps ++ [p]))
  rw [lay_snoc, List.length_append]; exact h

theorem own_form {w : World} {B e size n : Nat} {v : Value} {xs : List Value} (h : w.ownsRow B e size v n xs) : ∃ ao cap, v = .slice ao n cap := by
  rcases h.2 with ⟨e1, h2⟩ | ⟨g, cap, cur, e1, _⟩
  · exact ⟨none, 0, by rw [e1, h2]⟩
  · exact ⟨_, _, e1⟩

theorem lay_bv (l : List UInt8) : lay bvL l = l.map fun b => Value.int .u8 (b.toNat : Int) := by
  induction l with
  | nil => rfl
  | cons c r ih => rw [lay_cons, ih]; rfl

theorem OwnBL.app {w : World} {B cap : Nat} {ao : Option Addr} {tb : List UInt8} {s : ByteArray} (h : w.ownsRow B 5 1 (.slice ao (tb.length + s.size) cap) (tb.length + s.size) (lay bvL tb ++ Lib.strCells s)) : OwnBL w B ao cap (tb ++ bl s) := by
  show w.ownsRow B _ 1 (.slice ao (tb ++ bl s).length cap) (tb ++ bl s).length (lay bvL (tb ++ bl s))
  rw [lay_app, List.length_append, bl_size, lay_bv (bl s)]; exact h

theorem OwnBL.app' {w : World} {B cap n : Nat} {ao : Option Addr} {tb : List UInt8} {s : ByteArray} (hz : s.size = n) (h : w.ownsRow B 5 1 (.slice ao (tb.length + n) cap) (tb.length + n) (lay bvL tb ++ Lib.strCells s)) : OwnBL w B ao cap (tb ++ bl s) := by
  subst hz; exact OwnBL.app h

theorem str_row {w : World} {B cap : Nat} {ao : Option Addr} {tb : List UInt8} (h : OwnBL w B ao cap tb) :
    (convert 107 9 (.slice ao tb.length cap)).run Tryz.prog w = .ok (.string ⟨tb.toArray⟩) w := by
  by_cases hn : tb = []
  · subst hn
    cases ao with
    | none => exact Lib.run_convert_nil_bytes w _ _ 5 cap Tryz.underlying107 Tryz.underlying5 Tryz.underlying9
    | some a => exact run_convert_bytes_back w _ _ 5 a cap [] Tryz.underlying107 Tryz.underlying5 Tryz.underlying9 (fun j hj => by simp at hj)
  obtain ⟨g, rfl, hB, hg, hf, hc⟩ := own_some bvL_len (by decide) (List.length_pos_iff.2 hn) h
  refine run_convert_bytes_back w _ _ 5 ⟨g, 0, none⟩ cap tb Tryz.underlying107 Tryz.underlying5 Tryz.underlying9 ?_
  intro j hj
  have := hc j 0 tb[j] _ (List.getElem?_eq_getElem hj) (by decide) rfl
  rw [Nat.mul_one, Nat.add_zero] at this
  rw [← this]
  congr 1
  unfold Addr.add; split <;> simp_all

def jnT (rows : List (List UInt8)) : List UInt8 × Nat := (jn false [] rows).getD ([], 0)

/-- The state of a join's walk. -/
def JnS (R : List (List UInt8)) (k : Nat) (a : List UInt8) : Prop := jn false [] R = (jn (decide (0 < k)) a (R.drop k)).map (fun x => (x.1, x.2 + k))
theorem JnS.start (R : List (List UInt8)) : JnS R 0 [] := by
  show jn false [] R = _
  rw [List.drop_zero]
  show _ = (jn false [] R).map _
  cases jn false [] R <;> rfl
theorem JnS.on {R : List (List UInt8)} {k : Nat} {a r : List UInt8} (h : JnS R k a) (hr : R[k]? = some r) (hg : goL (rowL (decide (0 < k)) r) = true) : JnS R (k + 1) (a ++ (rowL (decide (0 < k)) r).dropLast) := by
  have h' : jn false [] R = _ := h
  rw [jn_step hr, if_pos hg] at h'
  show jn false [] R = _
  rw [h', show decide (0 < k + 1) = true by simp, Option.map_map]
  congr 1
  funext x
  simp only [Function.comp]
  congr 1
  omega
theorem JnS.stop {R : List (List UInt8)} {k : Nat} {a r : List UInt8} (h : JnS R k a) (hr : R[k]? = some r) (hg : goL (rowL (decide (0 < k)) r) = false) : jnT R = (a ++ rowL (decide (0 < k)) r, k + 1) := by
  have h' : jn false [] R = _ := h
  rw [jn_step hr, if_neg (by rw [hg]; simp)] at h'
  unfold jnT
  rw [h']
  show (_, 1 + k) = _
  rw [Nat.add_comm]
theorem JnS.none {R : List (List UInt8)} {k : Nat} {a : List UInt8} (h : JnS R k a) (hk : R.length ≤ k) : jnT R = ([], 0) := by
  have h' : jn false [] R = _ := h
  rw [List.drop_eq_nil_of_le hk] at h'
  unfold jnT
  rw [h']; rfl

theorem bl_front (s : ByteArray) : bl (s.extract 0 (s.size - 1)) = (bl s).dropLast := by
  rw [bl_extract, List.drop_zero, List.dropLast_eq_take, bl_size]

set_option maxRecDepth 20000 in
set_option maxHeartbeats 4000000 in
theorem join_any (g o cap m : Nat) (xs : List ByteArray) (w : World) (hm : m = xs.length) (hg : g < w.heap.size) (hc : ∀ (j : Nat) x, xs[j]? = some x → w.cell? ⟨g, o + j, none⟩ = some (.string x)) (hn : xs.length ≤ 4096) (hx : ∀ x ∈ xs, x.size ≤ 4096) :
    Calls Tryz.prog 26 #[.slice (some ⟨g, o, none⟩) m cap] w fun e w' => e = .returned (.tuple #[.string ⟨(jnT (xs.map bl)).1.toArray⟩, .int .i64 (jnT (xs.map bl)).2]) ∧ Q w w' := by
  obtain ⟨i1, hj, hy0, hy1, hy2⟩ := info_parts Tryz.infoBL
  have HM := hide hm
  have hmn : m ≤ 4096 := by omega
  clear hm
  go_enter Tryz.func26, Tryz.ntmps26
  go_wp2_with fail
  go_loopw [4, 9] (fun ln i wr => ∃ (k : Nat) (tb : List UInt8) (bo : Option Addr) (bcap : Nat), i = .int .i64 k ∧ ln = .slice bo tb.length bcap ∧ k ≤ m ∧ tb.length ≤ k * 4096 ∧
      OwnBL wr w.heap.size bo bcap tb ∧ Q w wr ∧ Hid (JnS (xs.map bl) k tb))
    (fun _ i _ => m - (intOf i).toNat)
  case atStart => exact ⟨0, [], none, 0, rfl, rfl, by omega, by simp, World.ownsRow_nil _ _ _ _, Q.refl _, JnS.start _⟩
  case round =>
    obtain ⟨k, tb, bo, bcap, rfl, rfl, hk, htl, htx, hq, HS⟩ := hrel
    have hqs := hq.size
    by_cases hlt : k < m
    · have hkx : k < xs.length := by have := unhide HM; omega
      obtain ⟨x, hxk⟩ : ∃ x, xs[k]? = some x := ⟨xs[k], List.getElem?_eq_getElem hkx⟩
      have hxs : x.size ≤ 4096 := hx x (List.mem_of_getElem? hxk)
      have ck : wr.cell? ⟨g, o + k, none⟩ = some (.string x) := (hq.cell (p := ⟨g, o + k, none⟩) hg).trans (hc k x hxk)
      have HK : Hid ((xs.map bl)[k]? = some (bl x)) := by show _ = _; rw [List.getElem?_map, hxk]; rfl
      clear hc hx hxk hkx
      by_cases hk0 : k = 0
      · subst hk0
        rw [Nat.add_zero] at ck
        cases hgo : goL (bl x)
        · have HF := hide (HS.out.stop HK.out (by rw [show decide (0 < 0) = false by decide]; exact hgo))
          have HG := hide hgo
          clear hgo HS
          go_wp2_with fail
          refine (goes_any x _ (by unfold maxLen; omega)).mono ?_
          rintro e w2 ⟨rfl, rfl⟩
          rw [unhide HG]
          go_wp2_with (at_builtin; refine Lib.wpList_append_own_string _ rfl _ _ 107 9 rfl w.heap.size 5 i1 Tryz.underlying107 Tryz.underlying9 hj hy0 hy1 hy2 _ _ _ rfl htx x rfl (by unfold maxLen; omega) (by omega) hqs ?_)
          intro v3 w3 hown3 hgrow3 hiff3
          obtain ⟨bo3, bcap3, rfl⟩ := own_form hown3
          have hq3 : Q w w3 := Below.grown hq hgrow3 hqs (fun r hr => (htx.lt r hr).1)
          have HO3 := hide (OwnBL.app hown3)
          have hcv := str_row (unhide HO3)
          rw [List.length_append, bl_size] at hcv
          clear hown3 hgrow3 hiff3 htx HO3
          go_wp2
          go_ret2
          rw [unhide HF]
          exact ⟨rfl, hq3⟩
        · have HN := hide (HS.out.on HK.out (by rw [show decide (0 < 0) = false by decide]; exact hgo))
          have hx1 : 1 ≤ x.size := by rw [← bl_size]; exact go_len hgo
          have HG := hide hgo
          clear hgo HS
          go_wp2_with fail
          refine (goes_any x _ (by unfold maxLen; omega)).mono ?_
          rintro e w2 ⟨rfl, rfl⟩
          rw [unhide HG]
          have hez : (x.extract 0 (x.size - 1)).size = x.size - 1 := ext_sz x 0 (x.size - 1) (by omega) (by omega)
          go_wp2_with (at_builtin; refine Lib.wpList_append_own_string _ rfl _ _ 107 9 rfl w.heap.size 5 i1 Tryz.underlying107 Tryz.underlying9 hj hy0 hy1 hy2 _ _ _ rfl htx (x.extract 0 (x.size - 1)) rfl (by unfold maxLen; rw [hez]; omega) (by rw [hez]; omega) hqs ?_)
          intro v3 w3 hown3 hgrow3 hiff3
          obtain ⟨bo3, bcap3, rfl⟩ := own_form hown3
          have hq3 : Q w w3 := Below.grown hq hgrow3 hqs (fun r hr => (htx.lt r hr).1)
          have HO3 := hide (OwnBL.app' hez hown3)
          rw [bl_front] at HO3
          clear hown3 hgrow3 hiff3 htx
          go_wp2
          go_roundw
          case rel => exact ⟨0 + 1, tb ++ (bl x).dropLast, bo3, bcap3, by go_num, by rw [List.length_append, List.length_dropLast, bl_size], by omega, by rw [List.length_append, List.length_dropLast, bl_size]; omega, unhide HO3, hq3, HN⟩
          case measure => simp [intOf]; omega
      · obtain ⟨r, hr⟩ : ∃ r : ByteArray, r = ⟨(frL (bl x)).toArray⟩ := ⟨_, rfl⟩
        have hrb : bl r = frL (bl x) := by rw [hr]; rfl
        have hrz : r.size ≤ x.size := by rw [← bl_size, ← bl_size, hrb]; exact fr_len _
        have HT := hide (fun w => triml_any x w)
        rw [← hr] at HT
        have hrow : rowL (decide (0 < k)) (bl x) = bl r := by rw [decide_eq_true (by omega), hrb]; rfl
        cases hgo : goL (bl r)
        · have HF := hide (HS.out.stop HK.out (by rw [hrow]; exact hgo))
          have HG := hide hgo
          rw [hrow] at HF
          clear hgo HS hr hrb hrow
          go_wp2_with fail
          refine (unhide HT _).mono ?_
          rintro e w2 ⟨rfl, rfl⟩
          go_wp2_with fail
          refine (goes_any r _ (by unfold maxLen; omega)).mono ?_
          rintro e w2 ⟨rfl, rfl⟩
          rw [unhide HG]
          go_wp2_with (at_builtin; refine Lib.wpList_append_own_string _ rfl _ _ 107 9 rfl w.heap.size 5 i1 Tryz.underlying107 Tryz.underlying9 hj hy0 hy1 hy2 _ _ _ rfl htx r rfl (by unfold maxLen; omega) (by omega) hqs ?_)
          intro v3 w3 hown3 hgrow3 hiff3
          obtain ⟨bo3, bcap3, rfl⟩ := own_form hown3
          have hq3 : Q w w3 := Below.grown hq hgrow3 hqs (fun r hr => (htx.lt r hr).1)
          have HO3 := hide (OwnBL.app hown3)
          have hcv := str_row (unhide HO3)
          rw [List.length_append, bl_size] at hcv
          clear hown3 hgrow3 hiff3 htx HO3
          go_wp2
          go_ret2
          rw [unhide HF]
          exact ⟨rfl, hq3⟩
        · have HN := hide (HS.out.on HK.out (by rw [hrow]; exact hgo))
          have hx1 : 1 ≤ r.size := by rw [← bl_size]; exact go_len hgo
          have HG := hide hgo
          rw [hrow] at HN
          clear hgo HS hr hrb hrow
          go_wp2_with fail
          refine (unhide HT _).mono ?_
          rintro e w2 ⟨rfl, rfl⟩
          go_wp2_with fail
          refine (goes_any r _ (by unfold maxLen; omega)).mono ?_
          rintro e w2 ⟨rfl, rfl⟩
          rw [unhide HG]
          have hez : (r.extract 0 (r.size - 1)).size = r.size - 1 := ext_sz r 0 (r.size - 1) (by omega) (by omega)
          go_wp2_with (at_builtin; refine Lib.wpList_append_own_string _ rfl _ _ 107 9 rfl w.heap.size 5 i1 Tryz.underlying107 Tryz.underlying9 hj hy0 hy1 hy2 _ _ _ rfl htx (r.extract 0 (r.size - 1)) rfl (by unfold maxLen; rw [hez]; omega) (by rw [hez]; omega) hqs ?_)
          intro v3 w3 hown3 hgrow3 hiff3
          obtain ⟨bo3, bcap3, rfl⟩ := own_form hown3
          have hq3 : Q w w3 := Below.grown hq hgrow3 hqs (fun r hr => (htx.lt r hr).1)
          have HO3 := hide (OwnBL.app' hez hown3)
          rw [bl_front] at HO3
          clear hown3 hgrow3 hiff3 htx
          go_wp2
          go_roundw
          case rel => exact ⟨k + 1, tb ++ (bl r).dropLast, bo3, bcap3, by go_num, by rw [List.length_append, List.length_dropLast, bl_size], by omega, by rw [List.length_append, List.length_dropLast, bl_size]; omega, unhide HO3, hq3, HN⟩
          case measure => simp [intOf]; omega
    · have HF := hide (HS.out.none (by rw [List.length_map]; have := unhide HM; omega))
      clear HS
      go_wp2_with fail
      go_ret2
      rw [unhide HF]
      exact ⟨rfl, hq⟩

end Go.Proofs.YtpddckgkaopnlaaGreatDoor

/- What package lines' Cut answers, for every text: its lines in a row of its own, or the number of an error; no conditions but that the text is no longer than a string can be. -/
namespace Go.Proofs.YtpddckgkaopnlaaGreatDoor
open Go.RowKit

theorem jn_len : ∀ (rs : List (List UInt8)) (b : Bool) (a t : List UInt8) (k : Nat), jn b a rs = some (t, k) → t.length ≤ a.length + tot rs
  | [], b, a, t, k, h => by simp [jn] at h
  | r :: rs, b, a, t, k, h => by
    rw [jn] at h
    have hrl := rowL_len b r
    rw [tot_cons]
    split at h
    · obtain ⟨⟨t', k'⟩, h1, h2⟩ := Option.map_eq_some_iff.1 h
      cases h2
      have := jn_len rs true _ _ _ h1
      rw [List.length_append, List.length_dropLast] at this
      show t'.length ≤ _
      omega
    · cases h
      rw [List.length_append]; omega

/-- The state of a cut's walk: k rows are taken. -/
def LnW (R : List (List UInt8)) (k : Nat) (ls : List Ln) : Prop := (cutR false [] (R.drop k)).map (ls ++ ·) = cutR false [] R
theorem LnW.start (R : List (List UInt8)) : LnW R 0 [] := by
  show (cutR false [] R).map _ = _
  cases cutR false [] R <;> simp
theorem LnW.done {R : List (List UInt8)} {k : Nat} {ls : List Ln} (h : LnW R k ls) (hk : R.length ≤ k) : cutR false [] R = some ls := by
  have h' : _ = cutR false [] R := h
  rw [List.drop_eq_nil_of_le hk] at h'
  rw [← h']; simp [cutR]
theorem LnW.bad {R : List (List UInt8)} {k : Nat} {ls : List Ln} (h : LnW R k ls) (hk : k < R.length) (hj : jn false [] (R.drop k) = none) : cutR false [] R = none := by
  have h' : _ = cutR false [] R := h
  rw [jn_none _ _ _ hj (Or.inl (fun e => by have := congrArg List.length e; simp at this; omega))] at h'
  rw [← h']; rfl
theorem LnW.next {R : List (List UInt8)} {k j : Nat} {ls : List Ln} {t : List UInt8} (h : LnW R k ls) (hj : jn false [] (R.drop k) = some (t, j)) : LnW R (k + j) (ls ++ (lnOf t).toList) := by
  have h' : _ = cutR false [] R := h
  rw [(jn_some _ _ _ _ _ hj).2.2, List.drop_drop] at h'
  show _ = cutR false [] R
  rw [← h', Option.map_map]
  congr 1
  funext x
  simp
theorem LnW.skip {R : List (List UInt8)} {k j : Nat} {ls : List Ln} {t : List UInt8} (h : LnW R k ls) (hj : jn false [] (R.drop k) = some (t, j)) (hn : lnOf t = none) : LnW R (k + j) ls := by
  have := h.next hj
  rw [hn] at this; simpa using this
theorem LnW.line {R : List (List UInt8)} {k j : Nat} {ls : List Ln} {t : List UInt8} {x : Ln} (h : LnW R k ls) (hj : jn false [] (R.drop k) = some (t, j)) (hn : lnOf t = some x) : LnW R (k + j) (ls ++ [x]) := by
  have := h.next hj
  rw [hn] at this; exact this

def slLen : Value → Nat | .slice _ n _ => n | _ => 0

/-- What Cut says. -/
def CutSays (l : List UInt8) (w : World) (e : Ending) (w' : World) : Prop :=
  ∃ ao cap, e = .returned (.tuple #[.slice ao (lnS l).length cap, .int .i64 (lnE l)]) ∧ OwnL w' w.heap.size ao cap (lnS l) ∧ Q w w'

theorem says_nil {l : List UInt8} {w w' : World} (h : lnC l = none) (q : Q w w') : CutSays l w (.returned (.tuple #[.slice none 0 0, .int .i64 600])) w' :=
  ⟨none, 0, by rw [(ln_bad h).1, (ln_bad h).2]; rfl, by rw [(ln_bad h).1]; exact World.ownsRow_nil _ _ _ _, q⟩
theorem says_some {l : List UInt8} {w w' : World} {ls : List Ln} {ao : Option Addr} {cap : Nat} (h : lnC l = some ls) (o : OwnL w' w.heap.size ao cap ls) (q : Q w w') : CutSays l w (.returned (.tuple #[.slice ao ls.length cap, .int .i64 0])) w' :=
  ⟨ao, cap, by rw [(ln_good h).1, (ln_good h).2], by rw [(ln_good h).1]; exact o, q⟩

set_option maxRecDepth 20000 in
set_option maxHeartbeats 4000000 in
theorem cutl_any (s : ByteArray) (w : World) (hs : s.size ≤ maxLen) :
    Calls Tryz.prog 10 #[.string s] w fun e w' => CutSays (bl s) w e w' := by
  obtain ⟨i0, hi, hz0, hz1, hz2⟩ := info_parts Tryz.infoL
  cases hm : (decide (s.size ≤ 2048) && endL (bl s) && plainL (without 10 (bl s)))
  · have HF : Hid (lnC (bl s) = none) := by
      rcases Bool.and_eq_false_iff.1 hm with h | h
      · rcases Bool.and_eq_false_iff.1 h with h | h
        · exact ln_long (by rw [bl_size]; simpa using h)
        · exact ln_end h
      · exact ln_odd h
    have HM := hide hm
    clear hm
    go_enter Tryz.func10, Tryz.ntmps10
    go_wp2_with fail
    refine (lmay_any s _ hs).mono ?_
    rintro e w1 ⟨rfl, q1⟩
    rw [unhide HM]
    go_wp2_with fail
    go_ret2
    exact says_nil HF.out q1
  have hm2 := Bool.and_eq_true_iff.1 hm
  have hm3 := Bool.and_eq_true_iff.1 hm2.1
  have hsz : s.size ≤ 2048 := by simpa using hm3.1
  have HR : Hid (lnC (bl s) = cutR false [] (spc 10 (bl s)).dropLast) := ln_rows (by rw [bl_size]; exact hsz) hm3.2 hm2.2
  have HM := hide hm
  clear hm hm2 hm3
  go_enter Tryz.func10, Tryz.ntmps10
  go_wp2_with fail
  refine (lmay_any s _ hs).mono ?_
  rintro e w1 ⟨rfl, q1⟩
  rw [unhide HM]
  go_wp2_with fail
  refine (split_one s 10 _ (by omega)).mono ?_
  rintro e w2 ⟨xs, hxs, hxl, rfl, rfl⟩
  have hx0 : xs ≠ [] := by
    rintro rfl
    exact spc_ne 10 (bl s) (by rw [← hxs]; rfl)
  obtain ⟨n, hn⟩ : ∃ n, xs.length = n + 1 := ⟨xs.length - 1, by have := List.length_pos_iff.2 hx0; omega⟩
  have hr0 : (xs.dropLast).map bl = (spc 10 (bl s)).dropLast := by rw [← hxs, List.map_dropLast]
  have HYC : Hid (∀ (j : Nat) x, xs.dropLast[j]? = some x → (w1.alloc (.cells (xs.map Value.string).toArray 9)).cell? ⟨w1.heap.size, j, none⟩ = some (.string x)) := by
    intro j x hx
    refine cells_blockL w1 xs _ j x ?_
    rw [List.getElem?_dropLast] at hx
    split at hx
    · exact hx
    · cases hx
  have HYL : Hid (xs.dropLast.length = n) := by show _ = _; rw [List.length_dropLast]; omega
  have HYS : Hid (∀ x ∈ xs.dropLast, x.size ≤ 4096) := by
    intro x hx
    have h1 : bl x ∈ spc 10 (bl s) := by rw [← hxs]; exact List.mem_map_of_mem ((List.dropLast_sublist xs).subset hx)
    have h2 := spc_mem_len h1
    rw [bl_size, bl_size] at h2; omega
  have HRT : Hid (tot (xs.dropLast.map bl) ≤ 2049) := by
    show _ ≤ _
    have h1 := tot_spc 10 (bl s)
    have h2 : tot (xs.dropLast.map bl) ≤ tot (xs.map bl) := by
      rw [← List.dropLast_concat_getLast hx0, List.dropLast_concat, List.map_append, tot_app]; omega
    rw [hxs, h1, bl_size] at h2; omega
  rw [← hr0] at HR
  generalize xs.dropLast = ys at HYC HYL HYS HRT HR
  clear hr0 hx0 hxs
  have hqa : Q w (w1.alloc (.cells (xs.map Value.string).toArray 9)) := q1.alloc _
  have hga : w1.heap.size < (w1.alloc (.cells (xs.map Value.string).toArray 9)).heap.size := by simp
  generalize hwa : (w1.alloc (.cells (xs.map Value.string).toArray 9)) = wa at *
  clear hwa
  rw [hn]
  have hnl : n ≤ 2048 := by omega
  clear hn hxl
  go_wp2_with fail
  go_loopw [4, 5] (fun v c wr => ∃ (k : Nat) (ls : List Ln) (ao : Option Addr) (cap : Nat), v = .slice (some ⟨w1.heap.size, k, none⟩) (n - k) (n + 1 - k) ∧ c = .slice ao ls.length cap ∧ k ≤ n ∧ ls.length ≤ k ∧
      OwnL wr wa.heap.size ao cap ls ∧ Q wa wr ∧ Hid (LnW (ys.map bl) k ls))
    (fun v _ _ => slLen v)
  case atStart => exact ⟨0, [], none, 0, by simp, rfl, by omega, by simp, World.ownsRow_nil _ _ _ _, Q.refl _, LnW.start _⟩
  case round =>
    obtain ⟨k, ls, ao, cap, rfl, rfl, hk, hlk, hown, hqw, HW⟩ := hrel
    have hq : Q w wr := hqa.trans hqw
    by_cases hlt : k < n
    · have HJ := hide (join_any w1.heap.size k (n + 1 - k) (n - k) (ys.drop k) wr (by rw [List.length_drop, HYL.out]) (Nat.lt_of_lt_of_le hga hqw.size)
        (fun j x hx => (hqw.cell (p := ⟨w1.heap.size, k + j, none⟩) hga).trans (HYC.out (k + j) x (by rw [List.getElem?_drop] at hx; exact hx)))
        (by rw [List.length_drop, HYL.out]; omega) (fun x hx => HYS.out x (List.mem_of_mem_drop hx)))
      rw [List.map_drop] at HJ
      have hpos : 0 < n - k := by omega
      cases hjn : jn false [] ((ys.map bl).drop k) with
      | none =>
        have e1 : jnT ((ys.map bl).drop k) = ([], 0) := by unfold jnT; rw [hjn]; rfl
        rw [e1] at HJ
        have HF : Hid (lnC (bl s) = none) := by
          show _ = _
          rw [HR.out]
          exact HW.out.bad (by rw [List.length_map, HYL.out]; exact hlt) hjn
        clear hjn e1 HW
        go_wp2_with fail
        refine (unhide HJ).mono ?_
        rintro e w3 ⟨rfl, q3⟩
        go_wp2_with fail
        go_ret2
        exact says_nil HF.out (hq.trans q3)
      | some x =>
        obtain ⟨t, j⟩ := x
        have e1 : jnT ((ys.map bl).drop k) = (t, j) := by unfold jnT; rw [hjn]; rfl
        rw [e1] at HJ
        obtain ⟨hj1, hj2, _⟩ := jn_some _ _ _ _ _ hjn
        rw [List.length_drop, List.length_map, HYL.out] at hj2
        have htl : t.length ≤ 4096 := by
          have h1 := jn_len _ _ _ _ _ hjn
          have h2 : tot ((ys.map bl).drop k) ≤ tot (ys.map bl) := by
            conv => rhs; rw [← List.take_append_drop k (ys.map bl), tot_app]
            omega
          have h3 := HRT.out
          simp at h1; omega
        have hjz : ((j : Int) == 0) = false := beq_eq_false_iff_ne.2 (by omega)
        have HLO := hide (fun w => lineOf_any ⟨t.toArray⟩ w (by unfold maxLen; rw [← bl_size]; show t.length ≤ _; omega))
        have eb : bl ⟨t.toArray⟩ = t := rfl
        rw [eb] at HLO
        cases hlo : lnOf t with
        | none =>
          have HN := hide (HW.out.skip hjn hlo)
          rw [lnOf_none hlo, hlo] at HLO
          clear hjn e1 HW hlo eb
          go_wp2_with fail
          refine (unhide HJ).mono ?_
          rintro e w3 ⟨rfl, q3⟩
          go_wp2_with fail
          refine (unhide HLO _).mono ?_
          rintro e w4 ⟨rfl, q4⟩
          go_wp2_with fail
          have q5 := (q3.trans q4).trans ((Q.refl _).alloc (.cells #[.bool false, .string ⟨#[]⟩] 51))
          refine ⟨⟨k + j, ls, ao, cap, by rw [Nat.sub_sub, Nat.sub_sub], rfl, by omega, by omega, own_q hown q5, hqw.trans q5, HN⟩, ?_⟩
          simp only [slLen]; omega
        | some x =>
          obtain ⟨d, tx⟩ := x
          have HN := hide (HW.out.line hjn hlo)
          rw [lnOf_some hlo, hlo] at HLO
          have hyc := own_le hown
          clear hjn e1 HW hlo eb
          go_wp2_with fail
          refine (unhide HJ).mono ?_
          rintro e w3 ⟨rfl, q3⟩
          go_wp2_with fail
          refine (unhide HLO _).mono ?_
          rintro e w4 ⟨rfl, q4⟩
          have q5 := (q3.trans q4).trans ((Q.refl _).alloc (.cells #[.bool d, .string ⟨tx.toArray⟩] 51))
          have hown5 := own_q hown q5
          have hqw5 := hqw.trans q5
          have hq5s := hqw5.size
          clear q3 q4 q5 hown
          go_wp2_with (at_builtin; refine wpList_append_lies _ rfl _ _ 37 rfl wa.heap.size 51 i0 (.agg #[.bool false, .string ByteArray.empty]) 2 24 Tryz.underlying37 hi hz0 hz1 hz2 rfl (by decide) _ _ _ rfl (hown5.alloc _) ⟨w4.heap.size + 1, 0, none⟩ 1 1 [.bool d, .string ⟨tx.toArray⟩] rfl rfl (news_at (size_alloc w4 _).symm #[.bool d, .string ⟨tx.toArray⟩] _) (one_bs _ _) (by decide) (by unfold maxLen; omega) (by omega) (le_alloc hq5s _) (w4.heap.size + 1 + 1) (by simp) ?_)
          intro g cp w6 hown6 hgrow hor hglt
          have hqw6 : Q wa w6 := Below.grown (hqw5.alloc _) hgrow (le_alloc hq5s _) (fun r hr => (hown5.lt r hr).1)
          have HO := hide (OwnL.snoc (p := (d, tx)) hown6)
          clear hown6 hgrow hown5 hor
          go_wp2
          refine ⟨⟨k + j, ls ++ [(d, tx)], some ⟨g, 0, none⟩, cp, by rw [Nat.sub_sub, Nat.sub_sub], by simp, by omega, by simp; omega, unhide HO, hqw6, HN⟩, ?_⟩
          simp only [slLen]; omega
    · have HF : Hid (lnC (bl s) = some ls) := by
        show _ = _
        rw [HR.out]
        exact HW.out.done (by rw [List.length_map, HYL.out]; omega)
      have hz : n - k = 0 := by omega
      clear HW
      go_wp2_with fail
      go_ret2
      exact says_some HF.out (own_low hown hqa.size) hq

end Go.Proofs.YtpddckgkaopnlaaGreatDoor
