/- Rows of files in memory; what a copy, an append of zeros, an append in place, a clearing within a row leaves; no conditions but the lengths. -/
import Derived.Test.YtjalklmgdkhekaaDoorChecked
import Derived.Test.YtjalklmgdkhekaaDoorDkPlain
import Derived.Test.YtjalklmgdkhekaaDoorBnGfBase
import Derived.Test.YtjalklmgdkhekaaDoorStAppend
import Derived.Laws.CopyRow
import Derived.Lib.AppendZerosOnto
import Derived.Deep.RegionLaw
namespace Go.Proofs.YtjalklmgdkhekaaDoor
open Go.RowKit

theorem Tryd.infoK : (Tryd.prog.info? 34).map (fun i => (i.zero, i.size, i.bytes)) = some (some (.agg #[.string ByteArray.empty, .int .i64 0, .int .i64 0]), 3, 32) := by kernel_rfl

abbrev RowK (w : World) (ao : Option Addr) (fs : List Fl) : Prop := RowG fv 3 w ao fs
abbrev OwnK (w : World) (B : Nat) (ao : Option Addr) (cap : Nat) (fs : List Fl) : Prop := w.ownsRow B 34 3 (.slice ao fs.length cap) fs.length (lay fv fs)
theorem OwnK.snoc {w : World} {B cap : Nat} {ao : Option Addr} {fs : List Fl} {f : Fl} (h : w.ownsRow B 34 3 (.slice ao (fs.length + 1) cap) (fs.length + 1) (lay fv fs ++ fv f)) : OwnK w B ao cap (fs ++ [f]) := by
  show w.ownsRow B _ 3 (.slice ao (fs ++ [f]).length cap) (fs ++ [f]).length (lay fv (fs ++ [f]))
  rw [lay_snoc, List.length_append]; exact h
theorem OwnK.row {w : World} {B : Nat} {ao : Option Addr} {cap : Nat} {fs : List Fl} (h : OwnK w B ao cap fs) : RowK w ao fs := RowG.own fv_len (by decide) h
theorem OwnK.as {w : World} {B : Nat} {ao : Option Addr} {cap : Nat} {fs gs : List Fl} (h : OwnK w B ao cap fs) (e : fs = gs) : OwnK w B ao cap gs := e ▸ h
theorem one_fv (f : Fl) : ∀ u ∈ fv f, u.oneCell' = true := by intro u hu; simp [fv] at hu; rcases hu with rfl | rfl | rfl <;> rfl
theorem one_layK (fs : List Fl) : ∀ u ∈ lay fv fs, u.oneCell' = true := by
  intro u hu
  obtain ⟨y, _, hy⟩ := List.mem_flatMap.1 hu
  exact one_fv y u hy
theorem lay_take {α : Type} {f : α → List Value} {sz : Nat} (hf : ∀ x, (f x).length = sz) : ∀ (xs : List α) (k : Nat), lay f (xs.take k) = (lay f xs).take (k * sz)
  | [], k => by simp [lay]
  | x :: r, 0 => by simp [lay]
  | x :: r, k + 1 => by
    rw [List.take_succ_cons, lay_cons, lay_cons, lay_take hf r k, Nat.add_mul, Nat.one_mul, Nat.add_comm, List.take_append, hf,
      List.take_of_length_le (l := f x) (by rw [hf]; omega), Nat.add_sub_cancel_left]
theorem lay_drop {α : Type} {f : α → List Value} {sz : Nat} (hf : ∀ x, (f x).length = sz) : ∀ (xs : List α) (k : Nat), lay f (xs.drop k) = (lay f xs).drop (k * sz)
  | [], k => by simp [lay]
  | x :: r, 0 => by simp [lay]
  | x :: r, k + 1 => by
    rw [List.drop_succ_cons, lay_cons, lay_drop hf r k, Nat.add_mul, Nat.one_mul, Nat.add_comm, List.drop_append, hf,
      List.drop_of_length_le (l := f x) (by rw [hf]; omega), List.nil_append, Nat.add_sub_cancel_left]

/-- The block of an owned row, whole. -/
theorem own_blkK {w : World} {B cap g : Nat} {fs : List Fl} (h : OwnK w B (some ⟨g, 0, none⟩) cap fs) : ∃ cur : Array Value, Blk w g cur 34 ∧ B ≤ g ∧ fs.length ≤ cap ∧ cap ≤ maxLen ∧ cur.size = cap * 3 ∧ cur.toList.take (fs.length * 3) = lay fv fs := by
  rcases h.2 with ⟨e1, _⟩ | ⟨g', cap', cur, e1, hb, hg, h1, h2, h3, h4⟩
  · cases e1
  · cases e1; exact ⟨cur, hg, hb, h1, h2, h3, h4⟩
theorem own_ofK {w : World} {B cap g : Nat} {fs : List Fl} {cur : Array Value} (hg : Blk w g cur 34) (hb : B ≤ g) (h1 : fs.length ≤ cap) (h2 : cap ≤ maxLen) (h3 : cur.size = cap * 3) (h4 : cur.toList.take (fs.length * 3) = lay fv fs) : OwnK w B (some ⟨g, 0, none⟩) cap fs :=
  ⟨lay_length fv_len fs, Or.inr ⟨g, cap, cur, rfl, hb, hg, h1, h2, h3, h4⟩⟩

def splK (cur : List Value) (o : Nat) (cs : List Value) : List Value := cur.take o ++ cs ++ cur.drop (o + cs.length)
theorem splK_len {cur : List Value} {o : Nat} {cs : List Value} (h : o + cs.length ≤ cur.length) : (splK cur o cs).length = cur.length := by unfold splK; simp; omega
theorem setRow_fr (w : World) (g : Nat) (cs : Array Value) : Fr (fun k => k = g) w (w.setRow g cs) :=
  ⟨rfl, rfl, rfl, by simp [World.setRow], fun k _ hn => setRow_other w g k cs hn⟩
theorem setCells_rowK (g : Nat) (t : TypeId) : ∀ (vs : List Value) (o : Nat) (cur : Array Value) (w : World), Blk w g cur t → o + vs.length ≤ cur.size → w.setCells g o vs = w.setRow g (splK cur.toList o vs).toArray
  | [], o, cur, w, hg, _ => by
    unfold splK
    simp only [List.append_nil, List.length_nil, Nat.add_zero, List.take_append_drop, Array.toArray_toList]
    exact (setRow_self w g cur t (0, 0) hg).symm
  | v :: r, o, cur, w, hg, hl => by
    have hi : o < cur.size := by simp at hl; omega
    have ih := setCells_rowK g t r (o + 1) (cur.setIfInBounds o v) (w.setRow g (cur.setIfInBounds o v)) (setRow_heap w g cur _ t _ hg) (by simp at hl ⊢; omega)
    have e := list_seg_step cur.toList o v r (by simp at hl ⊢; omega)
    rw [World.setCells, setCell_eq_setRow w g o cur t (0, 0) v hg, ih, setRow_setRow]
    unfold splK
    congr 2
    rw [Array.toList_setIfInBounds, e, List.length_cons]

section
variable {P : Program}

theorem run_copy_k (w : World) (dT sT ty elem : TypeId) (k : Nat) (g o dLen dCap : Nat) (a : Addr) (sLen sCap : Nat) (cur : Array Value) (t : TypeId) (cs : List Value)
    (hu : P.underlying dT = some (.slice elem)) (hs : (P.info? elem).map (·.size) = some k)
    (hg : Blk w g cur t) (hn : cs.length = Nat.min sLen dLen * k)
    (hsrc : ∀ j v, cs[j]? = some v → w.cell? (a.add j) = some v) (hfit : o + cs.length ≤ cur.size) (h1 : ∀ v ∈ cs, v.oneCell' = true) :
    (Builtin.copy_ #[dT, sT] ty #[.slice (some ⟨g, o, none⟩) dLen dCap, .slice (some a) sLen sCap]).run P w =
      .ok (goInt (Nat.min sLen dLen)) (w.setRow g (splK cur.toList o cs).toArray) := by
  have hl := run_loadCells_list (P := P) w a cs hsrc
  have hst := run_storeCells_at P g o t cs 0 cur w hg (by simpa using hfit) h1
  cases hq : P.info? elem with
  | none => simp [hq] at hs
  | some i =>
    have hi : i.size = k := by simpa [hq] using hs
    rw [hn] at hl
    unfold splK
    simp [Builtin.copy_, run_underlying hu, Builtin.lenOf, Builtin.firstCells, sizeOf, typeInfo, hq, hi, hl, hst]

theorem wp_copy_k {w : World} {o : Oper} {a : Act} {K : Act → World → Prop} {Q : Exit → Act → World → Prop} (d s : Operand) (dT sT : TypeId)
    (ho : o.op = .call { callee := .builtin .copy, args := #[d, s], argTypes := #[dT, sT] }) (elem : TypeId) (hu : P.underlying dT = some (.slice elem)) (k : Nat) (hsz : (P.info? elem).map (·.size) = some k)
    (g off dLen dCap : Nat) (ad : Addr) (sLen sCap : Nat) (hd : a.eval d = .slice (some ⟨g, off, none⟩) dLen dCap) (hs : a.eval s = .slice (some ad) sLen sCap)
    (cur : Array Value) (t : TypeId) (hg : Blk w g cur t) (cs : List Value) (hn : cs.length = Nat.min sLen dLen * k)
    (hsrc : ∀ j v, cs[j]? = some v → w.cell? (ad.add j) = some v) (hfit : off + cs.length ≤ cur.size) (h1 : ∀ v ∈ cs, v.oneCell' = true)
    (h : ∀ w', Hid (Blk w' g (splK cur.toList off cs).toArray t) → Fr (fun k => k = g) w w' → K (a.put o.dst (goInt (Nat.min sLen dLen))) w') : o.wp P a w K Q := by
  have hrun := run_copy_k (P := P) w dT sT o.type elem k g off dLen dCap ad sLen sCap cur t cs hu hsz hg hn hsrc hfit h1
  unfold Oper.wp
  simp [execOp, ho, resolve, invoke, builtin, hd, hs, hrun, Result.andThen]
  exact h _ (setRow_heap w g _ _ t _ hg) (setRow_fr w g _)
theorem wpList_copy_k {w : World} {ops : Array Oper} {rest : List Oper} {o : Oper} {a : Act} {Q : Exit → Act → World → Prop} (hgd : o.guard = none) (d s : Operand) (dT sT : TypeId)
    (ho : o.op = .call { callee := .builtin .copy, args := #[d, s], argTypes := #[dT, sT] }) (elem : TypeId) (hu : P.underlying dT = some (.slice elem)) (k : Nat) (hsz : (P.info? elem).map (·.size) = some k)
    (g off dLen dCap : Nat) (ad : Addr) (sLen sCap : Nat) (hd : a.eval d = .slice (some ⟨g, off, none⟩) dLen dCap) (hs : a.eval s = .slice (some ad) sLen sCap)
    (cur : Array Value) (t : TypeId) (hg : Blk w g cur t) (cs : List Value) (hn : cs.length = Nat.min sLen dLen * k)
    (hsrc : ∀ j v, cs[j]? = some v → w.cell? (ad.add j) = some v) (hfit : off + cs.length ≤ cur.size) (h1 : ∀ v ∈ cs, v.oneCell' = true)
    (h : ∀ w', Hid (Blk w' g (splK cur.toList off cs).toArray t) → Fr (fun k => k = g) w w' → wpList P ops Q rest (a.put o.dst (goInt (Nat.min sLen dLen))) w') : wpList P ops Q (o :: rest) a w :=
  wpList_plain hgd fun _ hK => wp_copy_k d s dT sT ho elem hu k hsz g off dLen dCap ad sLen sCap hd hs cur t hg cs hn hsrc hfit h1 fun w' h2 h3 => hK _ _ (h w' h2 h3)
theorem step_copy_k {w : World} {ops : Array Oper} {o : Oper} {a : Act} {K : Act → World → Prop} {Q : Exit → Act → World → Prop} {E : Prop} (hgd : o.guard = none) (d s : Operand) (dT sT : TypeId)
    (ho : o.op = .call { callee := .builtin .copy, args := #[d, s], argTypes := #[dT, sT] }) (elem : TypeId) (hu : P.underlying dT = some (.slice elem)) (k : Nat) (hsz : (P.info? elem).map (·.size) = some k)
    (g off dLen dCap : Nat) (ad : Addr) (sLen sCap : Nat) (hd : a.eval d = .slice (some ⟨g, off, none⟩) dLen dCap) (hs : a.eval s = .slice (some ad) sLen sCap)
    (cur : Array Value) (t : TypeId) (hg : Blk w g cur t) (cs : List Value) (hn : cs.length = Nat.min sLen dLen * k)
    (hsrc : ∀ j v, cs[j]? = some v → w.cell? (ad.add j) = some v) (hfit : off + cs.length ≤ cur.size) (h1 : ∀ v ∈ cs, v.oneCell' = true)
    (h : ∀ w', Hid (Blk w' g (splK cur.toList off cs).toArray t) → Fr (fun k => k = g) w w' → K (a.put o.dst (goInt (Nat.min sLen dLen))) w') :
    if Region.wanted o (yielded ops a.tmps) = true then Oper.wp P o a w K Q else E := by
  have hw : Region.wanted o (yielded ops a.tmps) = true := by simp [Region.wanted, hgd]
  rw [if_pos hw]
  exact wp_copy_k d s dT sT ho elem hu k hsz g off dLen dCap ad sLen sCap hd hs cur t hg cs hn hsrc hfit h1 h

/-- An append of zeros for which there is no room. -/
theorem wpList_append_z {w : World} {ops : Array Oper} {rest : List Oper} {o : Oper} {a : Act} {Q' : Exit → Act → World → Prop} (hgd : o.guard = none) (s x : Operand) (t tn : TypeId)
    (ho : o.op = .call { callee := .builtin .append, args := #[s, x], argTypes := #[t, tn] })
    (e : TypeId) (i : TypeInfo) (z : Value) (size bytes : Nat) (ht : P.underlying t = some (.slice e)) (htn : P.underlying tn = some (.int .i64)) (hi : P.info? e = some i) (hz : i.zero = some z)
    (hsize : i.size = size) (hby : i.bytes = bytes) (hzs : z.cells.size = size) (hsz : 0 < size)
    (ad : Addr) (n cap : Nat) (olds : List Value) (hs : a.eval s = .slice (some ad) n cap) (hol : olds.length = n * size) (hold : ∀ j v, olds[j]? = some v → w.cell? (ad.add j) = some v)
    (kI : Int) (k : Nat) (hkI : kI = k) (hx : a.eval x = .int .i64 kI) (h0 : 0 < k) (hg : cap < n + k) (h63 : n + k ≤ maxLen) (hbytes : (n + k) * bytes ≤ 140737488355328) (H : Nat) (hH : w.heap.size = H)
    (h : ∀ G w' zs, n + k ≤ G → G ≤ maxLen → Hid (zs.length = (G - n) * size) → Hid (Blk w' H (olds ++ zs).toArray e) → RowKit.Below w.heap.size w w' → wpList P ops Q' rest (a.put o.dst (.slice (some ⟨H, 0, none⟩) (n + k) G)) w') : wpList P ops Q' (o :: rest) a w := by
  subst hH hkI
  have hf : (Builtin.firstCells i.size n (.slice (some ad) n cap)).run P w.drew = .ok olds.toArray w.drew :=
    run_firstCells_some (P := P) w.drew i.size n ad n cap olds (by rw [hsize]; exact hol) (fun j v hj => hold j v hj)
  have hr := Lib.run_append_grow_zeros (P := P) w t tn o.type e i z .i64 .i64 ht htn hi hz (some ad) n cap olds hf k h0 (by omega) hg (by unfold maxLen at h63; omega) (by rw [hby]; have : k * bytes ≤ (n + k) * bytes := Nat.mul_le_mul_right _ (by omega); omega) (by rw [hby]; exact growslice_fits hg hbytes)
  have hge := grownCap_ge w (n + k) cap e
  have hle := grownCap_le_maxLen w (n + k) cap e h63
  refine Lib.wpList_append_run w hgd s x t tn ho _ _ hs hx _ _ hr ?_
  refine h (grownCap w (n + k) cap e) _ ((Builtin.zeroCells z.cells k ++ Builtin.zeroCells z.cells (grownCap w (n + k) cap e - (n + k))).toList) hge hle ?_ ?_ ?_
  · show _ = _
    simp only [Builtin.zeroCells, Array.toList_append, List.length_append, Array.length_toList, Array.size_map, Array.size_range, hzs]
    rw [← Nat.add_mul]; congr 1; omega
  · show Blk _ _ _ _
    have e1 : (olds ++ (Builtin.zeroCells z.cells k ++ Builtin.zeroCells z.cells (grownCap w (n + k) cap e - (n + k))).toList).toArray = olds.toArray ++ Builtin.zeroCells z.cells k ++ Builtin.zeroCells z.cells (grownCap w (n + k) cap e - (n + k)) := by
      apply Array.toList_inj.1
      simp
    rw [e1]
    exact heap_alloc_new w.drew _
  · exact Below.alloc (Below.drew (Below.refl _ _)) (Nat.le_refl _) _

/-- An append in place, within a statement that draws its order. -/
theorem step_append_in {w : World} {ops : Array Oper} {o : Oper} {a : Act} {K : Act → World → Prop} {Q : Exit → Act → World → Prop} {E : Prop}
    (hg : o.guard = none) (s x : Operand) (t : TypeId) (hop : o.op = Op.call { callee := Callee.builtin Builtin.append, args := #[s, x], argTypes := #[t, t] })
    (e : TypeId) (i : TypeInfo) (size : Nat) (h1 : P.underlying t = some (.slice e)) (h2 : P.info? e = some i) (h4 : i.size = size)
    (b n cap : Nat) (hs : a.eval s = .slice (some ⟨b, 0, none⟩) n cap) (cur : Array Value) (te : TypeId) (hb : Blk w b cur te)
    (ad : Addr) (m c : Nat) (news : List Value) (hx : a.eval x = .slice (some ad) m c) (hn : news.length = m * size) (hc : ∀ j u, news[j]? = some u → w.cell? (ad.add j) = some u) (h1c : ∀ u ∈ news, u.oneCell' = true)
    (hroom : n + m ≤ cap) (hfit : n * size + news.length ≤ cur.size)
    (hK : ∀ w', Hid (Blk w' b (splK cur.toList (n * size) news).toArray te) → Fr (fun k => k = b) w w' → K (a.put o.dst (.slice (some ⟨b, 0, none⟩) (n + m) cap)) w') :
    if Region.wanted o (yielded ops a.tmps) = true then Oper.wp P o a w K Q else E := by
  refine step_append_room hg s x t hop e i size h1 h2 h4 b 0 n cap hs ad m c news hx hn hc h1c hroom (fun j hj => ⟨?_, hb.frz _⟩) ?_
  · rw [hb.cell (0 + n * size + j) (Array.getElem?_eq_getElem (by omega))]; rfl
  · rw [setCells_rowK b te news (0 + n * size) cur w hb (by omega), Nat.zero_add]
    exact hK _ (setRow_heap w b _ _ te _ hb) (setRow_fr w b _)

/-- One element is cleared. -/
theorem run_clear_k (w : World) (t e ty : TypeId) (z : Value) (zs : List Value) (ht : P.underlying t = some (.slice e)) (hv : ∀ w, (zeroValue e).run P w = .ok z w) (hz : (Builtin.zeroCells z.cells 1).toList = zs) (h1 : ∀ u ∈ zs, u.oneCell' = true) (g o c : Nat)
    (cur : Array Value) (te : TypeId) (hg : Blk w g cur te) (hfit : o + zs.length ≤ cur.size) :
    (Builtin.clear_ #[t] ty #[.slice (some ⟨g, o, none⟩) 1 c]).run P w = .ok (.tuple #[]) (w.setRow g (splK cur.toList o zs).toArray) := by
  have hst := run_storeCells_at P g o te zs 0 cur w hg (by simpa using hfit) h1
  unfold splK
  simp [Builtin.clear_, run_underlying ht, hv, hz, hst]

end

end Go.Proofs.YtjalklmgdkhekaaDoor
