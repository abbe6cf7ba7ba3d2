/- GraphForms, whole: graphs that may not be, one thing at a time, are refused, whatever the numbers; no conditions. -/
import Derived.Test.YtdcdghofkpbljaaDoorRows
import Derived.Test.YtdcdghofkpbljaaDoorCards
import Derived.Test.YtdcdghofkpbljaaDoorTie
import Derived.LaidMore
import Derived.Lay
import Derived.SevenTiedAt
import Derived.Stop.Joined
import Derived.ProofKit
import Derived.OpenShut
import Derived.ShutString
import Derived.ChangeOld
import Derived.Below
import Derived.SizedLaws
import Derived.Test.YtdcdghofkpbljaaDoorGfAwake
import Derived.Test.YtdcdghofkpbljaaDoorGfStep
import Derived.Test.YtdcdghofkpbljaaDoorBitPlain
import Derived.Test.YtdcdghofkpbljaaDoorNmMay
import Derived.Deep.OwnRows
import Derived.Laws.OwnMore
namespace Go.Proofs.YtdcdghofkpbljaaDoor
open Go.ChangeShapes Go.WideShapes Go.ChangeAt Go.RowKit

/-- The world ahead of the one thing: the graph in its own cell, the nine names. -/
def fW (w : World) (n : Nat) : World := ((w.alloc (.cells #[.slice (at0 (n + 9)) 3 3, .slice (at0 (n + 10)) 1 1, .slice (at0 (n + 11)) 1 1] 27)).alloc (.cells #[.string ⟨#[113, 49]⟩, .string ⟨#[113, 50]⟩, .string ⟨#[113, 51]⟩, .string ⟨#[113, 52]⟩, .string ⟨#[113, 53]⟩, .string ⟨#[113, 54]⟩, .string ⟨#[113, 55]⟩, .string ⟨#[113, 56]⟩, .string ⟨#[113, 57]⟩] 9))
structure Fo (w4 W : World) (n g : Nat) (ec pc : Array Value) : Prop where
  v : Gv W n ec pc
  b : Blk W g #[.slice (at0 (n + 9)) 3 3, .slice (at0 (n + 10)) 1 1, .slice (at0 (n + 11)) 1 1] 27
  nn : Blk W (g + 1) #[.string ⟨#[113, 49]⟩, .string ⟨#[113, 50]⟩, .string ⟨#[113, 51]⟩, .string ⟨#[113, 52]⟩, .string ⟨#[113, 53]⟩, .string ⟨#[113, 54]⟩, .string ⟨#[113, 55]⟩, .string ⟨#[113, 56]⟩, .string ⟨#[113, 57]⟩] 9
  q : Q w4 W
theorem fW_fo {w4 w : World} (q : Q w4 w) (h : Gv w w4.heap.size (gvEc w4.heap.size) gvPc) : Fo w4 (fW w w4.heap.size) w4.heap.size w.heap.size (gvEc w4.heap.size) gvPc := by
  refine ⟨(h.q ((Q.refl w).alloc _)).q ((Q.refl _).alloc _), (Blk.new w _ _).q ((Q.refl _).alloc _), ?_, (q.alloc _).alloc _⟩
  have hl := Blk.new (w.alloc (.cells #[.slice (at0 (w4.heap.size + 9)) 3 3, .slice (at0 (w4.heap.size + 10)) 1 1, .slice (at0 (w4.heap.size + 11)) 1 1] 27)) #[.string ⟨#[113, 49]⟩, .string ⟨#[113, 50]⟩, .string ⟨#[113, 51]⟩, .string ⟨#[113, 52]⟩, .string ⟨#[113, 53]⟩, .string ⟨#[113, 54]⟩, .string ⟨#[113, 55]⟩, .string ⟨#[113, 56]⟩, .string ⟨#[113, 57]⟩] 9
  rw [size_alloc] at hl
  exact hl
theorem Fo.al' {w4 W : World} {n g : Nat} {ec pc : Array Value} (h : Fo w4 W n g ec pc) (o : Obj) : Fo w4 (W.alloc o) n g ec pc := ⟨h.v.q ((Q.refl _).alloc o), h.b.q ((Q.refl _).alloc o), h.nn.q ((Q.refl _).alloc o), h.q.alloc o⟩
theorem Fo.setE {w4 W : World} {g : Nat} {ec pc : Array Value} (h : Fo w4 W w4.heap.size g ec pc) (hg : w4.heap.size + 11 < g) (i : Nat) (u : Value) : Fo w4 (W.setCell ⟨w4.heap.size + 9, i, none⟩ u) w4.heap.size g (ec.setIfInBounds i u) pc :=
  ⟨h.v.setE i u, h.b.other (by omega) i u, h.nn.other (by omega) i u, h.q.setHi (by omega) i u⟩
theorem Fo.setP {w4 W : World} {g : Nat} {ec pc : Array Value} (h : Fo w4 W w4.heap.size g ec pc) (hg : w4.heap.size + 11 < g) (i : Nat) (u : Value) : Fo w4 (W.setCell ⟨w4.heap.size + 10, i, none⟩ u) w4.heap.size g ec (pc.setIfInBounds i u) :=
  ⟨h.v.setP i u, h.b.other (by omega) i u, h.nn.other (by omega) i u, h.q.setHi (by omega) i u⟩
theorem fo_ck {g : Gh} (h : gmB g = false) : ckE g = 900 := by unfold ckE; rw [h]; rfl

def nineW : Ws := [[113, 49], [113, 50], [113, 51], [113, 52], [113, 53], [113, 54], [113, 55], [113, 56], [113, 57]]
def foG0 : Gh := ([(([] : Ws), [sAo, sBo], ([] : Ws), ([] : Ws), [97, 114], false, ([] : Tx)), gvD1, gvD2], [(sTwo, 2)], [sLib])
theorem foM0 : gmB foG0 = false := by decide +kernel
def foX0 (n : Nat) : EdA := ((([] : Ws), [sAo, sBo], ([] : Ws), ([] : Ws), [97, 114], false, ([] : Tx)), (none, 0), (at0 (n + 2), 2), (none, 0), (none, 0))
def foG1 : Gh := ([([[46, 47, 108, 105, 98]], [sAo, sBo], ([] : Ws), ([] : Ws), [97, 114], false, ([] : Tx)), gvD1, gvD2], [(sTwo, 2)], [sLib])
theorem foM1 : gmB foG1 = false := by decide +kernel
def foX1 (n g0 : Nat) : EdA := (([[46, 47, 108, 105, 98]], [sAo, sBo], ([] : Ws), ([] : Ws), [97, 114], false, ([] : Tx)), (at0 (g0 + 1 + 1), 1), (at0 (n + 2), 2), (none, 0), (none, 0))
def foG2 : Gh := ([([sLib], [[]], ([] : Ws), ([] : Ws), [97, 114], false, ([] : Tx)), gvD1, gvD2], [(sTwo, 2)], [sLib])
theorem foM2 : gmB foG2 = false := by decide +kernel
def foX2 (n g0 : Nat) : EdA := (([sLib], [[]], ([] : Ws), ([] : Ws), [97, 114], false, ([] : Tx)), (at0 (n + 1), 1), (at0 (g0 + 1 + 1), 1), (none, 0), (none, 0))
def foG3 : Gh := ([([sLib], [sAo, sBo], [[47, 97]], ([] : Ws), [97, 114], false, ([] : Tx)), gvD1, gvD2], [(sTwo, 2)], [sLib])
theorem foM3 : gmB foG3 = false := by decide +kernel
def foX3 (n g0 : Nat) : EdA := (([sLib], [sAo, sBo], [[47, 97]], ([] : Ws), [97, 114], false, ([] : Tx)), (at0 (n + 1), 1), (at0 (n + 2), 2), (at0 (g0 + 1 + 1), 1), (none, 0))
def foG4 : Gh := ([([sLib], [sAo, sBo], ([] : Ws), [[97, 47, 46, 46, 47, 98]], [97, 114], false, ([] : Tx)), gvD1, gvD2], [(sTwo, 2)], [sLib])
theorem foM4 : gmB foG4 = false := by decide +kernel
def foX4 (n g0 : Nat) : EdA := (([sLib], [sAo, sBo], ([] : Ws), [[97, 47, 46, 46, 47, 98]], [97, 114], false, ([] : Tx)), (at0 (n + 1), 1), (at0 (n + 2), 2), (none, 0), (at0 (g0 + 1 + 1), 1))
def foG5 : Gh := ([([sLib], [sAo, sBo], ([] : Ws), ([] : Ws), ([] : Tx), false, ([] : Tx)), gvD1, gvD2], [(sTwo, 2)], [sLib])
theorem foM5 : gmB foG5 = false := by decide +kernel
def foX5 (n : Nat) : EdA := (([sLib], [sAo, sBo], ([] : Ws), ([] : Ws), ([] : Tx), false, ([] : Tx)), (at0 (n + 1), 1), (at0 (n + 2), 2), (none, 0), (none, 0))
def foG6 : Gh := ([([sLib], [sAo, sBo], ([] : Ws), ([] : Ws), [97, 10], false, ([] : Tx)), gvD1, gvD2], [(sTwo, 2)], [sLib])
theorem foM6 : gmB foG6 = false := by decide +kernel
def foX6 (n : Nat) : EdA := (([sLib], [sAo, sBo], ([] : Ws), ([] : Ws), [97, 10], false, ([] : Tx)), (at0 (n + 1), 1), (at0 (n + 2), 2), (none, 0), (none, 0))
def foG8 : Gh := ([([sLib], [sAo, sBo], ([] : Ws), ([] : Ws), [97, 114], false, [110, 111]), gvD1, gvD2], [(sTwo, 2)], [sLib])
theorem foM8 : gmB foG8 = false := by decide +kernel
def foX8 (n : Nat) : EdA := (([sLib], [sAo, sBo], ([] : Ws), ([] : Ws), [97, 114], false, [110, 111]), (at0 (n + 1), 1), (at0 (n + 2), 2), (none, 0), (none, 0))
def foG9 (d : Nat) : Gh := ([gvD0, gvD1, gvD2], [(sTwo, 1 - (1 + (d : Int)))], [sLib])
theorem foM9 (d : Nat) : gmB (foG9 d) = false := by unfold gmB plsB plsF poOk foG9; simp; omega
def foG10 (d : Nat) : Gh := ([gvD0, gvD1, gvD2], [(sTwo, 8 + (1 + (d : Int)))], [sLib])
theorem foM10 (d : Nat) : gmB (foG10 d) = false := by unfold gmB plsB plsF poOk foG10; simp; omega
def foG12 : Gh := ([gvD0, gvD1, gvD2], [([84, 119, 111], 2)], [sLib])
theorem foM12 : gmB foG12 = false := by decide +kernel
def foG14 : Gh := ([([sLib], nineW, ([] : Ws), ([] : Ws), [97, 114], false, ([] : Tx)), gvD1, gvD2], [(sTwo, 2)], [sLib])
theorem foM14 : gmB foG14 = false := by decide +kernel
def foX14 (n g0 : Nat) : EdA := (([sLib], nineW, ([] : Ws), ([] : Ws), [97, 114], false, ([] : Tx)), (at0 (n + 1), 1), (at0 (g0 + 1), 9), (none, 0), (none, 0))

def fWd (w : World) (n : Nat) (v : Value) : World := (w.alloc (.cells #[.slice (at0 (n + 9)) 3 3, .slice (at0 (n + 10)) 1 1, v] 27)).alloc (.cells #[.string ⟨#[113, 49]⟩, .string ⟨#[113, 50]⟩, .string ⟨#[113, 51]⟩, .string ⟨#[113, 52]⟩, .string ⟨#[113, 53]⟩, .string ⟨#[113, 54]⟩, .string ⟨#[113, 55]⟩, .string ⟨#[113, 56]⟩, .string ⟨#[113, 57]⟩] 9)
theorem fWd_facts {w4 w : World} (q : Q w4 w) (h : Gv w w4.heap.size (gvEc w4.heap.size) gvPc) (v : Value) : Gv (fWd w w4.heap.size v) w4.heap.size (gvEc w4.heap.size) gvPc ∧ Blk (fWd w w4.heap.size v) w.heap.size #[.slice (at0 (w4.heap.size + 9)) 3 3, .slice (at0 (w4.heap.size + 10)) 1 1, v] 27 ∧ Blk (fWd w w4.heap.size v) (w.heap.size + 1) #[.string ⟨#[113, 49]⟩, .string ⟨#[113, 50]⟩, .string ⟨#[113, 51]⟩, .string ⟨#[113, 52]⟩, .string ⟨#[113, 53]⟩, .string ⟨#[113, 54]⟩, .string ⟨#[113, 55]⟩, .string ⟨#[113, 56]⟩, .string ⟨#[113, 57]⟩] 9 ∧ Q w4 (fWd w w4.heap.size v) := by
  refine ⟨(h.q ((Q.refl w).alloc _)).q ((Q.refl _).alloc _), (Blk.new w _ _).q ((Q.refl _).alloc _), ?_, (q.alloc _).alloc _⟩
  have hl := Blk.new (w.alloc (.cells #[.slice (at0 (w4.heap.size + 9)) 3 3, .slice (at0 (w4.heap.size + 10)) 1 1, v] 27)) #[.string ⟨#[113, 49]⟩, .string ⟨#[113, 50]⟩, .string ⟨#[113, 51]⟩, .string ⟨#[113, 52]⟩, .string ⟨#[113, 53]⟩, .string ⟨#[113, 54]⟩, .string ⟨#[113, 55]⟩, .string ⟨#[113, 56]⟩, .string ⟨#[113, 57]⟩] 9
  rw [size_alloc] at hl
  exact hl
theorem Tryd.infoB' : (Tryd.prog.info? 5).map (fun i => (i.zero, i.size, i.bytes)) = some (some (.int .u8 0), 1, 1) := by kernel_rfl
theorem made_get' (z : Value) (n j : Nat) (h : j < n) : (madeCells #[z] n)[j]? = some z := by
  rw [← Array.getElem?_toList, toList_madeCells_one, List.getElem?_replicate, if_pos h]
theorem str_zeros' (n : Nat) (W : World) :
    (convert 32 9 (.slice (some ⟨W.heap.size, 0, none⟩) n n)).run Tryd.prog (W.alloc (.cells (madeCells #[.int .u8 0] n) 5)) = .ok (.string ⟨(List.replicate n 0).toArray⟩) (W.alloc (.cells (madeCells #[.int .u8 0] n) 5)) := by
  have h := run_convert_bytes_back (P := Tryd.prog) (W.alloc (.cells (madeCells #[.int .u8 0] n) 5)) 32 9 5 ⟨W.heap.size, 0, none⟩ n (List.replicate n 0) Tryd.underlying32 Tryd.underlying5 Tryd.underlying9 (by
    intro j hj
    have hj' : j < n := by simpa using hj
    refine news_new W _ 5 j _ ?_
    rw [Array.getElem?_toList, made_get' _ n j hj']
    simp)
  rw [List.length_replicate] at h
  exact h
def foD7 (d : Nat) : Ed := ([sLib], [sAo, sBo], [], [], List.replicate (257 + d) 0, false, [])
def foG7 (d : Nat) : Gh := ([foD7 d, gvD1, gvD2], [(sTwo, 2)], [sLib])
def foX7 (n d : Nat) : EdA := (foD7 d, (at0 (n + 1), 1), (at0 (n + 2), 2), (none, 0), (none, 0))
theorem foM7 (d : Nat) : gmB (foG7 d) = false := by
  have h1 : cmB (List.replicate (257 + d) 0) = false := by
    unfold cmB
    rw [List.length_replicate, decide_eq_false (show ¬ 257 + d ≤ 256 by omega), Bool.and_false]
  have h2 : edOk (foD7 d) = false := by
    unfold edOk
    rw [show cmB (foD7 d).2.2.2.2.1 = false from h1]; simp
  have h3 : edM' [(sTwo, 2)] (foD7 d) = false := by unfold edM'; rw [h2]; rfl
  unfold gmB esB foG7
  rw [show ([foD7 d, gvD1, gvD2].all (edM' [(sTwo, 2)])) = false by rw [List.all_cons, h3]; rfl]
  simp
theorem foZ7 (d : Nat) (hd : d < 128) : GhZ (foG7 d) := by
  refine ⟨fun x hx => ?_, by show 3 ≤ _; decide, by show 1 ≤ _; decide, fun x hx => ?_, wsz_of (ws := [sLib]) (by decide +kernel)⟩
  · unfold foG7 at hx
    simp only [List.mem_cons, List.not_mem_nil, or_false] at hx
    rcases hx with rfl | rfl | rfl
    · exact ⟨wsz_of (ws := [sLib]) (by decide +kernel), wsz_of (ws := [sAo, sBo]) (by decide +kernel), wsz_of (ws := []) (by decide +kernel), wsz_of (ws := []) (by decide +kernel), by show (List.replicate (257 + d) (0 : UInt8)).length ≤ maxLen; rw [List.length_replicate]; unfold maxLen; omega, by show (0 : Nat) ≤ _; decide⟩
    · exact edz_of (by decide +kernel)
    · exact edz_of (by decide +kernel)
  · unfold foG7 at hx
    simp only [List.mem_cons, List.not_mem_nil, or_false] at hx
    rw [hx]; show (3 : Nat) ≤ maxLen; decide
def foG13 : Gh := ([gvD0, gvD1, gvD2], [(sTwo, 2)], [[65]])
theorem foM13 : gmB foG13 = false := by decide +kernel
def foG15 : Gh := ([gvD0, gvD1, gvD2], [(sTwo, 2)], nineW)
theorem foM15 : gmB foG15 = false := by decide +kernel
def foG11 : Gh := ([gvD0, gvD1, gvD2], [(sTwo, 2), (sTwo, 2)], [sLib])
theorem foM11 : gmB foG11 = false := by decide +kernel
theorem Gv.fr {P : Nat → Prop} {w w' : World} {n : Nat} {ec pc : Array Value} (h : Gv w n ec pc) (hf : Fr P w w') (hn : ∀ k, n < k → k ≤ n + 11 → k ≠ n + 10 → ¬ P k) : Blk w' (n + 9) ec 31 ∧ EdRd w' (gvX0 n) ∧ EdRd w' (gvX1 n) ∧ EdRd w' (gvX2 n) ∧ RowT w' (at0 (n + 11)) [sLib] :=
  ⟨h.e.fr hf (hn _ (by omega) (by omega) (by omega)),
   ⟨tvR (h.t1.fr hf (hn _ (by omega) (by omega) (by omega))) _ rfl, tvR (h.t2.fr hf (hn _ (by omega) (by omega) (by omega))) _ rfl, Or.inl rfl, Or.inl rfl⟩,
   ⟨tvR (h.t3.fr hf (hn _ (by omega) (by omega) (by omega))) _ rfl, tvR (h.t4.fr hf (hn _ (by omega) (by omega) (by omega))) _ rfl, tvR (h.t5.fr hf (hn _ (by omega) (by omega) (by omega))) _ rfl, Or.inl rfl⟩,
   ⟨tvR (h.t6.fr hf (hn _ (by omega) (by omega) (by omega))) _ rfl, tvR (h.t7.fr hf (hn _ (by omega) (by omega) (by omega))) _ rfl, Or.inl rfl, tvR (h.t8.fr hf (hn _ (by omega) (by omega) (by omega))) _ rfl⟩,
   tvR (h.d.fr hf (hn _ (by omega) (by omega) (by omega))) _ rfl⟩
theorem own_of_blk' {w : World} {g B n size : Nat} {cs : Array Value} {t : TypeId} {xs : List Value} (h : Blk w g cs t) (hx : cs = xs.toArray) (hn : xs.length = n * size) (hb : B ≤ g) (hm : n ≤ maxLen) : w.ownsRow B t size (.slice (some ⟨g, 0, none⟩) n n) n xs := by
  subst hx
  exact ⟨hn, Or.inr ⟨g, n, _, rfl, hb, h, Nat.le_refl _, hm, by simpa using hn, by rw [← hn]; simp⟩⟩


set_option maxRecDepth 20000 in
set_option maxHeartbeats 32000000 in
theorem graphForms_any (a : Int) (_ : (Lit.int .i64 a).wf = true) (b : Int) (_ : (Lit.int .i64 b).wf = true) (w : World) :
    Calls Tryd.prog 3 #[.int .i64 a, .int .i64 b] w fun e w' => e = .returned (.bool true) ∧ Q w w' := by
  obtain ⟨j0, ji, jz0, jz1, jz2⟩ : ∃ i0, Tryd.prog.info? 34 = some i0 ∧ i0.zero = some (.agg #[.string ByteArray.empty, .int .i64 0]) ∧ i0.size = 2 ∧ i0.bytes = 24 := ⟨_, rfl, rfl, rfl, rfl⟩
  have h127 := and127 b
  obtain ⟨d, hd⟩ : ∃ d : Nat, b % 128 = (d : Int) := ⟨(b % 128).toNat, by omega⟩
  have hd128 : d < 128 := by omega
  rw [hd] at h127
  clear hd
  obtain ⟨r, hr16, hmod⟩ : ∃ r : Nat, r < 16 ∧ (IntKind.u64.wrap a).tmod 16 = (r : Int) := by
    have e : IntKind.u64.wrap a = a % 18446744073709551616 := rfl
    have hx : 0 ≤ a % 18446744073709551616 := by omega
    rw [e, Int.tmod_eq_emod_of_nonneg hx]
    exact ⟨((a % 18446744073709551616) % 16).toNat, by omega, by omega⟩
  go_enter Tryd.func3, Tryd.ntmps3
  go_wp2_with fail
  refine (gawake_any w).mono ?_
  rintro e w1 ⟨rfl, q1⟩
  go_wp2_with fail
  refine (given_any w1).mono ?_
  rintro e w2 ⟨rfl, v2, q2⟩
  have HFO := hide (fW_fo q2 v2)
  have hgg : w1.heap.size + 11 < w2.heap.size := v2.hi
  have HV := hide v2
  have HQ2 := hide q2
  clear v2 q2
  rcases (by omega : r = 0 ∨ r = 1 ∨ r = 2 ∨ r = 3 ∨ r = 4 ∨ r = 5 ∨ r = 6 ∨ r = 7 ∨ r = 8 ∨ r = 9 ∨ r = 10 ∨ r = 11 ∨ r = 12 ∨ r = 13 ∨ r = 14 ∨ r = 15) with rfl | rfl | rfl | rfl | rfl | rfl | rfl | rfl | rfl | rfl | rfl | rfl | rfl | rfl | rfl | rfl
  · have c1 : ∀ o1 o2, ((w2.alloc o1).alloc o2).frozen? ⟨w1.heap.size + 9, 0, none⟩ = false := fun o1 o2 => ((unhide HV).e.q (((Q.refl _).alloc o1).alloc o2)).frz 0
    have c2 := fun (o1 : Obj) (o2 : Obj) => ((unhide HV).e.q (((Q.refl _).alloc o1).alloc o2)).cell 0 rfl
    have hF : Fo w1 ((fW w2 w1.heap.size).setCell ⟨w1.heap.size + 9, 0, none⟩ (.slice none 0 0)) w1.heap.size w2.heap.size _ _ := (unhide HFO).setE hgg 0 (.slice none 0 0)
    have SX := hide ((gr_three (x0 := foX0 w1.heap.size) (x1 := gvX1 w1.heap.size) (x2 := gvX2 w1.heap.size) [(sTwo, 2)] hF.v.e rfl hF.v.p rfl hF.v.dd ⟨Or.inl rfl, hF.v.x0.b, Or.inl rfl, Or.inl rfl⟩ hF.v.x1 hF.v.x2 (ghz_of (show ghzB foG0 = true by decide +kernel))).says 3 1 1 (Nat.le_refl 1) (by decide))
    replace SX : Hid (Says ((fW w2 w1.heap.size).setCell ⟨w1.heap.size + 9, 0, none⟩ (.slice none 0 0)) (gvV w1.heap.size) foG0) := SX
    have BX := hide hF.b
    have qX := hF.q
    have b0 := hF.b.cell 0 rfl
    have b1 := hF.b.cell 1 rfl
    have b2 := hF.b.cell 2 rfl
    unfold fW at b0 b1 b2
    clear hF HFO HV HQ2
    go_wp2_with fail
    change Calls _ _ _ ((fW w2 w1.heap.size).setCell ⟨w1.heap.size + 9, 0, none⟩ (.slice none 0 0)) _
    clear b0 b1 b2 c1 c2
    generalize (fW w2 w1.heap.size).setCell ⟨w1.heap.size + 9, 0, none⟩ (.slice none 0 0) = w6 at *
    refine ((unhide SX).make w6 ⟨#[108, 105, 98]⟩ (Q.refl _)).mono ?_
    rintro e w7 ⟨rfl, q7⟩
    rw [fo_ck (foM0)]
    generalize mkI foG0 (bl ⟨#[108, 105, 98]⟩) = mi
    generalize mkIs foG0 (bl ⟨#[108, 105, 98]⟩) = ms
    go_wp2_with fail
    refine (given_any w7).mono ?_
    rintro e w8 ⟨rfl, v8, q8⟩
    have H8 := hide (gv_may w8 _ v8)
    clear v8
    go_wp2_with fail
    refine (unhide H8).mono ?_
    rintro e w9 ⟨rfl, q9⟩
    have q69 := q7.trans (q8.trans q9)
    clear H8 q7 q8 q9
    have H9 := hide ((unhide SX).may w9 q69)
    rw [foM0] at H9
    have b0 := ((unhide BX).q q69).cell 0 rfl
    have b1 := ((unhide BX).q q69).cell 1 rfl
    have b2 := ((unhide BX).q q69).cell 2 rfl
    go_wp2_with fail
    refine (unhide H9).mono ?_
    rintro e w10 ⟨rfl, q10⟩
    have q610 := q69.trans q10
    clear H9 b0 b1 b2 q69 q10
    have H10 := hide ((unhide SX).ck w10 q610)
    rw [fo_ck (foM0)] at H10
    have b0 := ((unhide BX).q q610).cell 0 rfl
    have b1 := ((unhide BX).q q610).cell 1 rfl
    have b2 := ((unhide BX).q q610).cell 2 rfl
    go_wp2_with fail
    refine (unhide H10).mono ?_
    rintro e w11 ⟨rfl, q11⟩
    have q611 := q610.trans q11
    clear H10 b0 b1 b2 q610 q11
    go_wp2_with fail
    refine (num_any _ _).mono ?_
    rintro e w12 ⟨rfl, rfl⟩
    go_wp2_with fail
    refine (num_any _ _).mono ?_
    rintro e w13 ⟨rfl, rfl⟩
    have H13 := hide (nameMay_any ⟨#[113, 57]⟩ w13 (by decide))
    rw [show mayB ⟨#[113, 57]⟩ = true by decide +kernel] at H13
    go_wp2_with fail
    refine (unhide H13).mono ?_
    rintro e w14 ⟨rfl, rfl⟩
    go_wp2_with fail
    go_ret
    exact ⟨rfl, q1.trans (qX.trans q611)⟩
  · have c1 : ∀ o1 o2 o3, (((w2.alloc o1).alloc o2).alloc o3).frozen? ⟨w1.heap.size + 9, 0, none⟩ = false := fun o1 o2 o3 => ((unhide HV).e.q ((((Q.refl _).alloc o1).alloc o2).alloc o3)).frz 0
    have c2 := fun (o1 : Obj) (o2 : Obj) (o3 : Obj) => ((unhide HV).e.q ((((Q.refl _).alloc o1).alloc o2).alloc o3)).cell 0 rfl
    have hF : Fo w1 (((fW w2 w1.heap.size).alloc (.cells #[.string ⟨#[46, 47, 108, 105, 98]⟩] 9)).setCell ⟨w1.heap.size + 9, 0, none⟩ (.slice (at0 (w2.heap.size + 1 + 1)) 1 1)) w1.heap.size w2.heap.size _ _ := ((unhide HFO).al' (.cells #[.string ⟨#[46, 47, 108, 105, 98]⟩] 9)).setE hgg 0 (.slice (at0 (w2.heap.size + 1 + 1)) 1 1)
    have hnew : Blk (((fW w2 w1.heap.size).alloc (.cells #[.string ⟨#[46, 47, 108, 105, 98]⟩] 9)).setCell ⟨w1.heap.size + 9, 0, none⟩ (.slice (at0 (w2.heap.size + 1 + 1)) 1 1)) (w2.heap.size + 1 + 1) #[.string ⟨#[46, 47, 108, 105, 98]⟩] 9 := by
      have h := Blk.new (fW w2 w1.heap.size) #[.string ⟨#[46, 47, 108, 105, 98]⟩] 9
      rw [show (fW w2 w1.heap.size).heap.size = w2.heap.size + 1 + 1 by unfold fW; rw [size_alloc, size_alloc]] at h
      exact h.other (by omega) _ _
    have SX := hide ((gr_three (x0 := foX1 w1.heap.size w2.heap.size) (x1 := gvX1 w1.heap.size) (x2 := gvX2 w1.heap.size) [(sTwo, 2)] hF.v.e rfl hF.v.p rfl hF.v.dd ⟨tvR hnew _ rfl, hF.v.x0.b, Or.inl rfl, Or.inl rfl⟩ hF.v.x1 hF.v.x2 (ghz_of (show ghzB foG1 = true by decide +kernel))).says 3 1 1 (Nat.le_refl 1) (by decide))
    replace SX : Hid (Says (((fW w2 w1.heap.size).alloc (.cells #[.string ⟨#[46, 47, 108, 105, 98]⟩] 9)).setCell ⟨w1.heap.size + 9, 0, none⟩ (.slice (at0 (w2.heap.size + 1 + 1)) 1 1)) (gvV w1.heap.size) foG1) := SX
    have BX := hide hF.b
    have qX := hF.q
    have b0 := hF.b.cell 0 rfl
    have b1 := hF.b.cell 1 rfl
    have b2 := hF.b.cell 2 rfl
    unfold fW at b0 b1 b2
    clear hF HFO HV HQ2
    go_wp2_with fail
    change Calls _ _ _ (((fW w2 w1.heap.size).alloc (.cells #[.string ⟨#[46, 47, 108, 105, 98]⟩] 9)).setCell ⟨w1.heap.size + 9, 0, none⟩ (.slice (at0 (w2.heap.size + 1 + 1)) 1 1)) _
    clear b0 b1 b2 c1 c2 hnew
    generalize ((fW w2 w1.heap.size).alloc (.cells #[.string ⟨#[46, 47, 108, 105, 98]⟩] 9)).setCell ⟨w1.heap.size + 9, 0, none⟩ (.slice (at0 (w2.heap.size + 1 + 1)) 1 1) = w6 at *
    refine ((unhide SX).make w6 ⟨#[108, 105, 98]⟩ (Q.refl _)).mono ?_
    rintro e w7 ⟨rfl, q7⟩
    rw [fo_ck (foM1)]
    generalize mkI foG1 (bl ⟨#[108, 105, 98]⟩) = mi
    generalize mkIs foG1 (bl ⟨#[108, 105, 98]⟩) = ms
    go_wp2_with fail
    refine (given_any w7).mono ?_
    rintro e w8 ⟨rfl, v8, q8⟩
    have H8 := hide (gv_may w8 _ v8)
    clear v8
    go_wp2_with fail
    refine (unhide H8).mono ?_
    rintro e w9 ⟨rfl, q9⟩
    have q69 := q7.trans (q8.trans q9)
    clear H8 q7 q8 q9
    have H9 := hide ((unhide SX).may w9 q69)
    rw [foM1] at H9
    have b0 := ((unhide BX).q q69).cell 0 rfl
    have b1 := ((unhide BX).q q69).cell 1 rfl
    have b2 := ((unhide BX).q q69).cell 2 rfl
    go_wp2_with fail
    refine (unhide H9).mono ?_
    rintro e w10 ⟨rfl, q10⟩
    have q610 := q69.trans q10
    clear H9 b0 b1 b2 q69 q10
    have H10 := hide ((unhide SX).ck w10 q610)
    rw [fo_ck (foM1)] at H10
    have b0 := ((unhide BX).q q610).cell 0 rfl
    have b1 := ((unhide BX).q q610).cell 1 rfl
    have b2 := ((unhide BX).q q610).cell 2 rfl
    go_wp2_with fail
    refine (unhide H10).mono ?_
    rintro e w11 ⟨rfl, q11⟩
    have q611 := q610.trans q11
    clear H10 b0 b1 b2 q610 q11
    go_wp2_with fail
    refine (num_any _ _).mono ?_
    rintro e w12 ⟨rfl, rfl⟩
    go_wp2_with fail
    refine (num_any _ _).mono ?_
    rintro e w13 ⟨rfl, rfl⟩
    have H13 := hide (nameMay_any ⟨#[113, 57]⟩ w13 (by decide))
    rw [show mayB ⟨#[113, 57]⟩ = true by decide +kernel] at H13
    go_wp2_with fail
    refine (unhide H13).mono ?_
    rintro e w14 ⟨rfl, rfl⟩
    go_wp2_with fail
    go_ret
    exact ⟨rfl, q1.trans (qX.trans q611)⟩
  · have c1 : ∀ o1 o2 o3, (((w2.alloc o1).alloc o2).alloc o3).frozen? ⟨w1.heap.size + 9, 1, none⟩ = false := fun o1 o2 o3 => ((unhide HV).e.q ((((Q.refl _).alloc o1).alloc o2).alloc o3)).frz 1
    have c2 := fun (o1 : Obj) (o2 : Obj) (o3 : Obj) => ((unhide HV).e.q ((((Q.refl _).alloc o1).alloc o2).alloc o3)).cell 1 rfl
    have hF : Fo w1 (((fW w2 w1.heap.size).alloc (.cells #[.string ⟨#[]⟩] 9)).setCell ⟨w1.heap.size + 9, 1, none⟩ (.slice (at0 (w2.heap.size + 1 + 1)) 1 1)) w1.heap.size w2.heap.size _ _ := ((unhide HFO).al' (.cells #[.string ⟨#[]⟩] 9)).setE hgg 1 (.slice (at0 (w2.heap.size + 1 + 1)) 1 1)
    have hnew : Blk (((fW w2 w1.heap.size).alloc (.cells #[.string ⟨#[]⟩] 9)).setCell ⟨w1.heap.size + 9, 1, none⟩ (.slice (at0 (w2.heap.size + 1 + 1)) 1 1)) (w2.heap.size + 1 + 1) #[.string ⟨#[]⟩] 9 := by
      have h := Blk.new (fW w2 w1.heap.size) #[.string ⟨#[]⟩] 9
      rw [show (fW w2 w1.heap.size).heap.size = w2.heap.size + 1 + 1 by unfold fW; rw [size_alloc, size_alloc]] at h
      exact h.other (by omega) _ _
    have SX := hide ((gr_three (x0 := foX2 w1.heap.size w2.heap.size) (x1 := gvX1 w1.heap.size) (x2 := gvX2 w1.heap.size) [(sTwo, 2)] hF.v.e rfl hF.v.p rfl hF.v.dd ⟨hF.v.x0.a, tvR hnew _ rfl, Or.inl rfl, Or.inl rfl⟩ hF.v.x1 hF.v.x2 (ghz_of (show ghzB foG2 = true by decide +kernel))).says 3 1 1 (Nat.le_refl 1) (by decide))
    replace SX : Hid (Says (((fW w2 w1.heap.size).alloc (.cells #[.string ⟨#[]⟩] 9)).setCell ⟨w1.heap.size + 9, 1, none⟩ (.slice (at0 (w2.heap.size + 1 + 1)) 1 1)) (gvV w1.heap.size) foG2) := SX
    have BX := hide hF.b
    have qX := hF.q
    have b0 := hF.b.cell 0 rfl
    have b1 := hF.b.cell 1 rfl
    have b2 := hF.b.cell 2 rfl
    unfold fW at b0 b1 b2
    clear hF HFO HV HQ2
    go_wp2_with fail
    change Calls _ _ _ (((fW w2 w1.heap.size).alloc (.cells #[.string ⟨#[]⟩] 9)).setCell ⟨w1.heap.size + 9, 1, none⟩ (.slice (at0 (w2.heap.size + 1 + 1)) 1 1)) _
    clear b0 b1 b2 c1 c2 hnew
    generalize ((fW w2 w1.heap.size).alloc (.cells #[.string ⟨#[]⟩] 9)).setCell ⟨w1.heap.size + 9, 1, none⟩ (.slice (at0 (w2.heap.size + 1 + 1)) 1 1) = w6 at *
    refine ((unhide SX).make w6 ⟨#[108, 105, 98]⟩ (Q.refl _)).mono ?_
    rintro e w7 ⟨rfl, q7⟩
    rw [fo_ck (foM2)]
    generalize mkI foG2 (bl ⟨#[108, 105, 98]⟩) = mi
    generalize mkIs foG2 (bl ⟨#[108, 105, 98]⟩) = ms
    go_wp2_with fail
    refine (given_any w7).mono ?_
    rintro e w8 ⟨rfl, v8, q8⟩
    have H8 := hide (gv_may w8 _ v8)
    clear v8
    go_wp2_with fail
    refine (unhide H8).mono ?_
    rintro e w9 ⟨rfl, q9⟩
    have q69 := q7.trans (q8.trans q9)
    clear H8 q7 q8 q9
    have H9 := hide ((unhide SX).may w9 q69)
    rw [foM2] at H9
    have b0 := ((unhide BX).q q69).cell 0 rfl
    have b1 := ((unhide BX).q q69).cell 1 rfl
    have b2 := ((unhide BX).q q69).cell 2 rfl
    go_wp2_with fail
    refine (unhide H9).mono ?_
    rintro e w10 ⟨rfl, q10⟩
    have q610 := q69.trans q10
    clear H9 b0 b1 b2 q69 q10
    have H10 := hide ((unhide SX).ck w10 q610)
    rw [fo_ck (foM2)] at H10
    have b0 := ((unhide BX).q q610).cell 0 rfl
    have b1 := ((unhide BX).q q610).cell 1 rfl
    have b2 := ((unhide BX).q q610).cell 2 rfl
    go_wp2_with fail
    refine (unhide H10).mono ?_
    rintro e w11 ⟨rfl, q11⟩
    have q611 := q610.trans q11
    clear H10 b0 b1 b2 q610 q11
    go_wp2_with fail
    refine (num_any _ _).mono ?_
    rintro e w12 ⟨rfl, rfl⟩
    go_wp2_with fail
    refine (num_any _ _).mono ?_
    rintro e w13 ⟨rfl, rfl⟩
    have H13 := hide (nameMay_any ⟨#[113, 57]⟩ w13 (by decide))
    rw [show mayB ⟨#[113, 57]⟩ = true by decide +kernel] at H13
    go_wp2_with fail
    refine (unhide H13).mono ?_
    rintro e w14 ⟨rfl, rfl⟩
    go_wp2_with fail
    go_ret
    exact ⟨rfl, q1.trans (qX.trans q611)⟩
  · have c1 : ∀ o1 o2 o3, (((w2.alloc o1).alloc o2).alloc o3).frozen? ⟨w1.heap.size + 9, 2, none⟩ = false := fun o1 o2 o3 => ((unhide HV).e.q ((((Q.refl _).alloc o1).alloc o2).alloc o3)).frz 2
    have c2 := fun (o1 : Obj) (o2 : Obj) (o3 : Obj) => ((unhide HV).e.q ((((Q.refl _).alloc o1).alloc o2).alloc o3)).cell 2 rfl
    have hF : Fo w1 (((fW w2 w1.heap.size).alloc (.cells #[.string ⟨#[47, 97]⟩] 9)).setCell ⟨w1.heap.size + 9, 2, none⟩ (.slice (at0 (w2.heap.size + 1 + 1)) 1 1)) w1.heap.size w2.heap.size _ _ := ((unhide HFO).al' (.cells #[.string ⟨#[47, 97]⟩] 9)).setE hgg 2 (.slice (at0 (w2.heap.size + 1 + 1)) 1 1)
    have hnew : Blk (((fW w2 w1.heap.size).alloc (.cells #[.string ⟨#[47, 97]⟩] 9)).setCell ⟨w1.heap.size + 9, 2, none⟩ (.slice (at0 (w2.heap.size + 1 + 1)) 1 1)) (w2.heap.size + 1 + 1) #[.string ⟨#[47, 97]⟩] 9 := by
      have h := Blk.new (fW w2 w1.heap.size) #[.string ⟨#[47, 97]⟩] 9
      rw [show (fW w2 w1.heap.size).heap.size = w2.heap.size + 1 + 1 by unfold fW; rw [size_alloc, size_alloc]] at h
      exact h.other (by omega) _ _
    have SX := hide ((gr_three (x0 := foX3 w1.heap.size w2.heap.size) (x1 := gvX1 w1.heap.size) (x2 := gvX2 w1.heap.size) [(sTwo, 2)] hF.v.e rfl hF.v.p rfl hF.v.dd ⟨hF.v.x0.a, hF.v.x0.b, tvR hnew _ rfl, Or.inl rfl⟩ hF.v.x1 hF.v.x2 (ghz_of (show ghzB foG3 = true by decide +kernel))).says 3 1 1 (Nat.le_refl 1) (by decide))
    replace SX : Hid (Says (((fW w2 w1.heap.size).alloc (.cells #[.string ⟨#[47, 97]⟩] 9)).setCell ⟨w1.heap.size + 9, 2, none⟩ (.slice (at0 (w2.heap.size + 1 + 1)) 1 1)) (gvV w1.heap.size) foG3) := SX
    have BX := hide hF.b
    have qX := hF.q
    have b0 := hF.b.cell 0 rfl
    have b1 := hF.b.cell 1 rfl
    have b2 := hF.b.cell 2 rfl
    unfold fW at b0 b1 b2
    clear hF HFO HV HQ2
    go_wp2_with fail
    change Calls _ _ _ (((fW w2 w1.heap.size).alloc (.cells #[.string ⟨#[47, 97]⟩] 9)).setCell ⟨w1.heap.size + 9, 2, none⟩ (.slice (at0 (w2.heap.size + 1 + 1)) 1 1)) _
    clear b0 b1 b2 c1 c2 hnew
    generalize ((fW w2 w1.heap.size).alloc (.cells #[.string ⟨#[47, 97]⟩] 9)).setCell ⟨w1.heap.size + 9, 2, none⟩ (.slice (at0 (w2.heap.size + 1 + 1)) 1 1) = w6 at *
    refine ((unhide SX).make w6 ⟨#[108, 105, 98]⟩ (Q.refl _)).mono ?_
    rintro e w7 ⟨rfl, q7⟩
    rw [fo_ck (foM3)]
    generalize mkI foG3 (bl ⟨#[108, 105, 98]⟩) = mi
    generalize mkIs foG3 (bl ⟨#[108, 105, 98]⟩) = ms
    go_wp2_with fail
    refine (given_any w7).mono ?_
    rintro e w8 ⟨rfl, v8, q8⟩
    have H8 := hide (gv_may w8 _ v8)
    clear v8
    go_wp2_with fail
    refine (unhide H8).mono ?_
    rintro e w9 ⟨rfl, q9⟩
    have q69 := q7.trans (q8.trans q9)
    clear H8 q7 q8 q9
    have H9 := hide ((unhide SX).may w9 q69)
    rw [foM3] at H9
    have b0 := ((unhide BX).q q69).cell 0 rfl
    have b1 := ((unhide BX).q q69).cell 1 rfl
    have b2 := ((unhide BX).q q69).cell 2 rfl
    go_wp2_with fail
    refine (unhide H9).mono ?_
    rintro e w10 ⟨rfl, q10⟩
    have q610 := q69.trans q10
    clear H9 b0 b1 b2 q69 q10
    have H10 := hide ((unhide SX).ck w10 q610)
    rw [fo_ck (foM3)] at H10
    have b0 := ((unhide BX).q q610).cell 0 rfl
    have b1 := ((unhide BX).q q610).cell 1 rfl
    have b2 := ((unhide BX).q q610).cell 2 rfl
    go_wp2_with fail
    refine (unhide H10).mono ?_
    rintro e w11 ⟨rfl, q11⟩
    have q611 := q610.trans q11
    clear H10 b0 b1 b2 q610 q11
    go_wp2_with fail
    refine (num_any _ _).mono ?_
    rintro e w12 ⟨rfl, rfl⟩
    go_wp2_with fail
    refine (num_any _ _).mono ?_
    rintro e w13 ⟨rfl, rfl⟩
    have H13 := hide (nameMay_any ⟨#[113, 57]⟩ w13 (by decide))
    rw [show mayB ⟨#[113, 57]⟩ = true by decide +kernel] at H13
    go_wp2_with fail
    refine (unhide H13).mono ?_
    rintro e w14 ⟨rfl, rfl⟩
    go_wp2_with fail
    go_ret
    exact ⟨rfl, q1.trans (qX.trans q611)⟩
  · have c1 : ∀ o1 o2 o3, (((w2.alloc o1).alloc o2).alloc o3).frozen? ⟨w1.heap.size + 9, 3, none⟩ = false := fun o1 o2 o3 => ((unhide HV).e.q ((((Q.refl _).alloc o1).alloc o2).alloc o3)).frz 3
    have c2 := fun (o1 : Obj) (o2 : Obj) (o3 : Obj) => ((unhide HV).e.q ((((Q.refl _).alloc o1).alloc o2).alloc o3)).cell 3 rfl
    have hF : Fo w1 (((fW w2 w1.heap.size).alloc (.cells #[.string ⟨#[97, 47, 46, 46, 47, 98]⟩] 9)).setCell ⟨w1.heap.size + 9, 3, none⟩ (.slice (at0 (w2.heap.size + 1 + 1)) 1 1)) w1.heap.size w2.heap.size _ _ := ((unhide HFO).al' (.cells #[.string ⟨#[97, 47, 46, 46, 47, 98]⟩] 9)).setE hgg 3 (.slice (at0 (w2.heap.size + 1 + 1)) 1 1)
    have hnew : Blk (((fW w2 w1.heap.size).alloc (.cells #[.string ⟨#[97, 47, 46, 46, 47, 98]⟩] 9)).setCell ⟨w1.heap.size + 9, 3, none⟩ (.slice (at0 (w2.heap.size + 1 + 1)) 1 1)) (w2.heap.size + 1 + 1) #[.string ⟨#[97, 47, 46, 46, 47, 98]⟩] 9 := by
      have h := Blk.new (fW w2 w1.heap.size) #[.string ⟨#[97, 47, 46, 46, 47, 98]⟩] 9
      rw [show (fW w2 w1.heap.size).heap.size = w2.heap.size + 1 + 1 by unfold fW; rw [size_alloc, size_alloc]] at h
      exact h.other (by omega) _ _
    have SX := hide ((gr_three (x0 := foX4 w1.heap.size w2.heap.size) (x1 := gvX1 w1.heap.size) (x2 := gvX2 w1.heap.size) [(sTwo, 2)] hF.v.e rfl hF.v.p rfl hF.v.dd ⟨hF.v.x0.a, hF.v.x0.b, Or.inl rfl, tvR hnew _ rfl⟩ hF.v.x1 hF.v.x2 (ghz_of (show ghzB foG4 = true by decide +kernel))).says 3 1 1 (Nat.le_refl 1) (by decide))
    replace SX : Hid (Says (((fW w2 w1.heap.size).alloc (.cells #[.string ⟨#[97, 47, 46, 46, 47, 98]⟩] 9)).setCell ⟨w1.heap.size + 9, 3, none⟩ (.slice (at0 (w2.heap.size + 1 + 1)) 1 1)) (gvV w1.heap.size) foG4) := SX
    have BX := hide hF.b
    have qX := hF.q
    have b0 := hF.b.cell 0 rfl
    have b1 := hF.b.cell 1 rfl
    have b2 := hF.b.cell 2 rfl
    unfold fW at b0 b1 b2
    clear hF HFO HV HQ2
    go_wp2_with fail
    change Calls _ _ _ (((fW w2 w1.heap.size).alloc (.cells #[.string ⟨#[97, 47, 46, 46, 47, 98]⟩] 9)).setCell ⟨w1.heap.size + 9, 3, none⟩ (.slice (at0 (w2.heap.size + 1 + 1)) 1 1)) _
    clear b0 b1 b2 c1 c2 hnew
    generalize ((fW w2 w1.heap.size).alloc (.cells #[.string ⟨#[97, 47, 46, 46, 47, 98]⟩] 9)).setCell ⟨w1.heap.size + 9, 3, none⟩ (.slice (at0 (w2.heap.size + 1 + 1)) 1 1) = w6 at *
    refine ((unhide SX).make w6 ⟨#[108, 105, 98]⟩ (Q.refl _)).mono ?_
    rintro e w7 ⟨rfl, q7⟩
    rw [fo_ck (foM4)]
    generalize mkI foG4 (bl ⟨#[108, 105, 98]⟩) = mi
    generalize mkIs foG4 (bl ⟨#[108, 105, 98]⟩) = ms
    go_wp2_with fail
    refine (given_any w7).mono ?_
    rintro e w8 ⟨rfl, v8, q8⟩
    have H8 := hide (gv_may w8 _ v8)
    clear v8
    go_wp2_with fail
    refine (unhide H8).mono ?_
    rintro e w9 ⟨rfl, q9⟩
    have q69 := q7.trans (q8.trans q9)
    clear H8 q7 q8 q9
    have H9 := hide ((unhide SX).may w9 q69)
    rw [foM4] at H9
    have b0 := ((unhide BX).q q69).cell 0 rfl
    have b1 := ((unhide BX).q q69).cell 1 rfl
    have b2 := ((unhide BX).q q69).cell 2 rfl
    go_wp2_with fail
    refine (unhide H9).mono ?_
    rintro e w10 ⟨rfl, q10⟩
    have q610 := q69.trans q10
    clear H9 b0 b1 b2 q69 q10
    have H10 := hide ((unhide SX).ck w10 q610)
    rw [fo_ck (foM4)] at H10
    have b0 := ((unhide BX).q q610).cell 0 rfl
    have b1 := ((unhide BX).q q610).cell 1 rfl
    have b2 := ((unhide BX).q q610).cell 2 rfl
    go_wp2_with fail
    refine (unhide H10).mono ?_
    rintro e w11 ⟨rfl, q11⟩
    have q611 := q610.trans q11
    clear H10 b0 b1 b2 q610 q11
    go_wp2_with fail
    refine (num_any _ _).mono ?_
    rintro e w12 ⟨rfl, rfl⟩
    go_wp2_with fail
    refine (num_any _ _).mono ?_
    rintro e w13 ⟨rfl, rfl⟩
    have H13 := hide (nameMay_any ⟨#[113, 57]⟩ w13 (by decide))
    rw [show mayB ⟨#[113, 57]⟩ = true by decide +kernel] at H13
    go_wp2_with fail
    refine (unhide H13).mono ?_
    rintro e w14 ⟨rfl, rfl⟩
    go_wp2_with fail
    go_ret
    exact ⟨rfl, q1.trans (qX.trans q611)⟩
  · have c1 : ∀ o1 o2, ((w2.alloc o1).alloc o2).frozen? ⟨w1.heap.size + 9, 4, none⟩ = false := fun o1 o2 => ((unhide HV).e.q (((Q.refl _).alloc o1).alloc o2)).frz 4
    have c2 := fun (o1 : Obj) (o2 : Obj) => ((unhide HV).e.q (((Q.refl _).alloc o1).alloc o2)).cell 4 rfl
    have hF : Fo w1 ((fW w2 w1.heap.size).setCell ⟨w1.heap.size + 9, 4, none⟩ (.string ⟨#[]⟩)) w1.heap.size w2.heap.size _ _ := (unhide HFO).setE hgg 4 (.string ⟨#[]⟩)
    have SX := hide ((gr_three (x0 := foX5 w1.heap.size) (x1 := gvX1 w1.heap.size) (x2 := gvX2 w1.heap.size) [(sTwo, 2)] hF.v.e rfl hF.v.p rfl hF.v.dd ⟨hF.v.x0.a, hF.v.x0.b, Or.inl rfl, Or.inl rfl⟩ hF.v.x1 hF.v.x2 (ghz_of (show ghzB foG5 = true by decide +kernel))).says 3 1 1 (Nat.le_refl 1) (by decide))
    replace SX : Hid (Says ((fW w2 w1.heap.size).setCell ⟨w1.heap.size + 9, 4, none⟩ (.string ⟨#[]⟩)) (gvV w1.heap.size) foG5) := SX
    have BX := hide hF.b
    have qX := hF.q
    have b0 := hF.b.cell 0 rfl
    have b1 := hF.b.cell 1 rfl
    have b2 := hF.b.cell 2 rfl
    unfold fW at b0 b1 b2
    clear hF HFO HV HQ2
    go_wp2_with fail
    change Calls _ _ _ ((fW w2 w1.heap.size).setCell ⟨w1.heap.size + 9, 4, none⟩ (.string ⟨#[]⟩)) _
    clear b0 b1 b2 c1 c2
    generalize (fW w2 w1.heap.size).setCell ⟨w1.heap.size + 9, 4, none⟩ (.string ⟨#[]⟩) = w6 at *
    refine ((unhide SX).make w6 ⟨#[108, 105, 98]⟩ (Q.refl _)).mono ?_
    rintro e w7 ⟨rfl, q7⟩
    rw [fo_ck (foM5)]
    generalize mkI foG5 (bl ⟨#[108, 105, 98]⟩) = mi
    generalize mkIs foG5 (bl ⟨#[108, 105, 98]⟩) = ms
    go_wp2_with fail
    refine (given_any w7).mono ?_
    rintro e w8 ⟨rfl, v8, q8⟩
    have H8 := hide (gv_may w8 _ v8)
    clear v8
    go_wp2_with fail
    refine (unhide H8).mono ?_
    rintro e w9 ⟨rfl, q9⟩
    have q69 := q7.trans (q8.trans q9)
    clear H8 q7 q8 q9
    have H9 := hide ((unhide SX).may w9 q69)
    rw [foM5] at H9
    have b0 := ((unhide BX).q q69).cell 0 rfl
    have b1 := ((unhide BX).q q69).cell 1 rfl
    have b2 := ((unhide BX).q q69).cell 2 rfl
    go_wp2_with fail
    refine (unhide H9).mono ?_
    rintro e w10 ⟨rfl, q10⟩
    have q610 := q69.trans q10
    clear H9 b0 b1 b2 q69 q10
    have H10 := hide ((unhide SX).ck w10 q610)
    rw [fo_ck (foM5)] at H10
    have b0 := ((unhide BX).q q610).cell 0 rfl
    have b1 := ((unhide BX).q q610).cell 1 rfl
    have b2 := ((unhide BX).q q610).cell 2 rfl
    go_wp2_with fail
    refine (unhide H10).mono ?_
    rintro e w11 ⟨rfl, q11⟩
    have q611 := q610.trans q11
    clear H10 b0 b1 b2 q610 q11
    go_wp2_with fail
    refine (num_any _ _).mono ?_
    rintro e w12 ⟨rfl, rfl⟩
    go_wp2_with fail
    refine (num_any _ _).mono ?_
    rintro e w13 ⟨rfl, rfl⟩
    have H13 := hide (nameMay_any ⟨#[113, 57]⟩ w13 (by decide))
    rw [show mayB ⟨#[113, 57]⟩ = true by decide +kernel] at H13
    go_wp2_with fail
    refine (unhide H13).mono ?_
    rintro e w14 ⟨rfl, rfl⟩
    go_wp2_with fail
    go_ret
    exact ⟨rfl, q1.trans (qX.trans q611)⟩
  · have c1 : ∀ o1 o2, ((w2.alloc o1).alloc o2).frozen? ⟨w1.heap.size + 9, 4, none⟩ = false := fun o1 o2 => ((unhide HV).e.q (((Q.refl _).alloc o1).alloc o2)).frz 4
    have c2 := fun (o1 : Obj) (o2 : Obj) => ((unhide HV).e.q (((Q.refl _).alloc o1).alloc o2)).cell 4 rfl
    have hF : Fo w1 ((fW w2 w1.heap.size).setCell ⟨w1.heap.size + 9, 4, none⟩ (.string ⟨#[97, 10]⟩)) w1.heap.size w2.heap.size _ _ := (unhide HFO).setE hgg 4 (.string ⟨#[97, 10]⟩)
    have SX := hide ((gr_three (x0 := foX6 w1.heap.size) (x1 := gvX1 w1.heap.size) (x2 := gvX2 w1.heap.size) [(sTwo, 2)] hF.v.e rfl hF.v.p rfl hF.v.dd ⟨hF.v.x0.a, hF.v.x0.b, Or.inl rfl, Or.inl rfl⟩ hF.v.x1 hF.v.x2 (ghz_of (show ghzB foG6 = true by decide +kernel))).says 3 1 1 (Nat.le_refl 1) (by decide))
    replace SX : Hid (Says ((fW w2 w1.heap.size).setCell ⟨w1.heap.size + 9, 4, none⟩ (.string ⟨#[97, 10]⟩)) (gvV w1.heap.size) foG6) := SX
    have BX := hide hF.b
    have qX := hF.q
    have b0 := hF.b.cell 0 rfl
    have b1 := hF.b.cell 1 rfl
    have b2 := hF.b.cell 2 rfl
    unfold fW at b0 b1 b2
    clear hF HFO HV HQ2
    go_wp2_with fail
    change Calls _ _ _ ((fW w2 w1.heap.size).setCell ⟨w1.heap.size + 9, 4, none⟩ (.string ⟨#[97, 10]⟩)) _
    clear b0 b1 b2 c1 c2
    generalize (fW w2 w1.heap.size).setCell ⟨w1.heap.size + 9, 4, none⟩ (.string ⟨#[97, 10]⟩) = w6 at *
    refine ((unhide SX).make w6 ⟨#[108, 105, 98]⟩ (Q.refl _)).mono ?_
    rintro e w7 ⟨rfl, q7⟩
    rw [fo_ck (foM6)]
    generalize mkI foG6 (bl ⟨#[108, 105, 98]⟩) = mi
    generalize mkIs foG6 (bl ⟨#[108, 105, 98]⟩) = ms
    go_wp2_with fail
    refine (given_any w7).mono ?_
    rintro e w8 ⟨rfl, v8, q8⟩
    have H8 := hide (gv_may w8 _ v8)
    clear v8
    go_wp2_with fail
    refine (unhide H8).mono ?_
    rintro e w9 ⟨rfl, q9⟩
    have q69 := q7.trans (q8.trans q9)
    clear H8 q7 q8 q9
    have H9 := hide ((unhide SX).may w9 q69)
    rw [foM6] at H9
    have b0 := ((unhide BX).q q69).cell 0 rfl
    have b1 := ((unhide BX).q q69).cell 1 rfl
    have b2 := ((unhide BX).q q69).cell 2 rfl
    go_wp2_with fail
    refine (unhide H9).mono ?_
    rintro e w10 ⟨rfl, q10⟩
    have q610 := q69.trans q10
    clear H9 b0 b1 b2 q69 q10
    have H10 := hide ((unhide SX).ck w10 q610)
    rw [fo_ck (foM6)] at H10
    have b0 := ((unhide BX).q q610).cell 0 rfl
    have b1 := ((unhide BX).q q610).cell 1 rfl
    have b2 := ((unhide BX).q q610).cell 2 rfl
    go_wp2_with fail
    refine (unhide H10).mono ?_
    rintro e w11 ⟨rfl, q11⟩
    have q611 := q610.trans q11
    clear H10 b0 b1 b2 q610 q11
    go_wp2_with fail
    refine (num_any _ _).mono ?_
    rintro e w12 ⟨rfl, rfl⟩
    go_wp2_with fail
    refine (num_any _ _).mono ?_
    rintro e w13 ⟨rfl, rfl⟩
    have H13 := hide (nameMay_any ⟨#[113, 57]⟩ w13 (by decide))
    rw [show mayB ⟨#[113, 57]⟩ = true by decide +kernel] at H13
    go_wp2_with fail
    refine (unhide H13).mono ?_
    rintro e w14 ⟨rfl, rfl⟩
    go_wp2_with fail
    go_ret
    exact ⟨rfl, q1.trans (qX.trans q611)⟩
  · have hF := unhide HFO
    clear HV HQ2 HFO
    go_wp2_with fail
    change Code.wp _ _ _ _ (fW w2 w1.heap.size)
    generalize fW w2 w1.heap.size = w3 at *
    have hmk : ∀ w : World, (Instr.makeSlice 32 (.int .i64 (256 + (1 + (d : Int)))) (.int .i64 (256 + (1 + (d : Int))))).run Tryd.prog w = .ok (.slice (some ⟨w.heap.size, 0, none⟩) (257 + d) (257 + d)) (w.alloc (.cells (madeCells #[.int .u8 0] (257 + d)) 5)) := by
      intro w
      rw [show (256 + (1 + (d : Int))) = ((257 + d : Nat) : Int) by omega]
      exact run_make_row' (P := Tryd.prog) 32 5 (.int .u8 0) 1 Tryd.underlying32 Tryd.infoB' rfl .i64 .i64 (257 + d) (by omega) (by omega) w
    have hst := str_zeros' (257 + d)
    have hst2 : (convert 32 9 (.slice (some ⟨w3.heap.size, 0, none⟩) (257 + d) (257 + d))).run Tryd.prog (w3.alloc (.cells (madeCells #[.int .u8 0] (257 + d)) 5)).drew = .ok (.string ⟨(List.replicate (257 + d) 0).toArray⟩) (w3.alloc (.cells (madeCells #[.int .u8 0] (257 + d)) 5)).drew := hst w3.drew
    have bl0 : w3.cell? ⟨w2.heap.size, 0, none⟩ = some (.slice (at0 (w1.heap.size + 9)) 3 3) := hF.b.cell 0 rfl
    have bl0a : ∀ ob, (w3.alloc ob).cell? ⟨w2.heap.size, 0, none⟩ = some (.slice (at0 (w1.heap.size + 9)) 3 3) := fun ob => (hF.b.q ((Q.refl _).alloc ob)).cell 0 rfl
    have e4 : ∀ ob, (w3.alloc ob).cell? ⟨w1.heap.size + 9, 4, none⟩ = some (.string ⟨#[97, 114]⟩) := fun ob => (hF.v.e.q ((Q.refl _).alloc ob)).cell 4 rfl
    have f4 : ∀ ob, (w3.alloc ob).frozen? ⟨w1.heap.size + 9, 4, none⟩ = false := fun ob => (hF.v.e.q ((Q.refl _).alloc ob)).frz 4
    have hd1 : (257 : Int) + (d : Int) ≤ 384 := by omega
    have HF := hide hF
    clear hF
    go_region
    all_goals
      have h0 := ((unhide HF).al' (.cells (madeCells #[.int .u8 0] (257 + d)) 5)).setE hgg 4 (.string ⟨Array.replicate (257 + d) 0⟩)
      have hF : Fo w1 ((w3.alloc (.cells (madeCells #[.int .u8 0] (257 + d)) 5)).setCell ⟨w1.heap.size + 9, 4, none⟩ (.string ⟨Array.replicate (257 + d) 0⟩)).drew w1.heap.size w2.heap.size _ _ := ⟨h0.v.q ((Q.refl _).drew), h0.b.q ((Q.refl _).drew), h0.nn.q ((Q.refl _).drew), h0.q.drew⟩
      have SX : Hid (Says ((w3.alloc (.cells (madeCells #[.int .u8 0] (257 + d)) 5)).setCell ⟨w1.heap.size + 9, 4, none⟩ (.string ⟨Array.replicate (257 + d) 0⟩)).drew (gvV w1.heap.size) (foG7 d)) := (gr_three (x0 := foX7 w1.heap.size d) (x1 := gvX1 w1.heap.size) (x2 := gvX2 w1.heap.size) [(sTwo, 2)] hF.v.e rfl hF.v.p rfl hF.v.dd ⟨hF.v.x0.a, hF.v.x0.b, Or.inl rfl, Or.inl rfl⟩ hF.v.x1 hF.v.x2 (foZ7 d hd128)).says 3 1 1 (Nat.le_refl 1) (by decide)
      have BX := hide hF.b
      have qX := hF.q
      have z0 := (unhide BX).cell 0 rfl
      have z1 := (unhide BX).cell 1 rfl
      have z2 := (unhide BX).cell 2 rfl
      clear hF h0 HF hmk hst hst2 bl0 bl0a e4 f4 hd1
      generalize ((w3.alloc (.cells (madeCells #[.int .u8 0] (257 + d)) 5)).setCell ⟨w1.heap.size + 9, 4, none⟩ (.string ⟨Array.replicate (257 + d) 0⟩)).drew = w6 at *
      go_wp2_with fail
      clear z0 z1 z2
      refine ((unhide SX).make w6 ⟨#[108, 105, 98]⟩ (Q.refl _)).mono ?_
      rintro e w7 ⟨rfl, q7⟩
      rw [fo_ck (foM7 d)]
      generalize mkI (foG7 d) (bl ⟨#[108, 105, 98]⟩) = mi
      generalize mkIs (foG7 d) (bl ⟨#[108, 105, 98]⟩) = ms
      go_wp2_with fail
      refine (given_any w7).mono ?_
      rintro e w8 ⟨rfl, v8, q8⟩
      have H8 := hide (gv_may w8 _ v8)
      clear v8
      go_wp2_with fail
      refine (unhide H8).mono ?_
      rintro e w9 ⟨rfl, q9⟩
      have q69 := q7.trans (q8.trans q9)
      clear H8 q7 q8 q9
      have H9 := hide ((unhide SX).may w9 q69)
      rw [foM7 d] at H9
      have b0 := ((unhide BX).q q69).cell 0 rfl
      have b1 := ((unhide BX).q q69).cell 1 rfl
      have b2 := ((unhide BX).q q69).cell 2 rfl
      go_wp2_with fail
      refine (unhide H9).mono ?_
      rintro e w10 ⟨rfl, q10⟩
      have q610 := q69.trans q10
      clear H9 b0 b1 b2 q69 q10
      have H10 := hide ((unhide SX).ck w10 q610)
      rw [fo_ck (foM7 d)] at H10
      have b0 := ((unhide BX).q q610).cell 0 rfl
      have b1 := ((unhide BX).q q610).cell 1 rfl
      have b2 := ((unhide BX).q q610).cell 2 rfl
      go_wp2_with fail
      refine (unhide H10).mono ?_
      rintro e w11 ⟨rfl, q11⟩
      have q611 := q610.trans q11
      clear H10 b0 b1 b2 q610 q11
      go_wp2_with fail
      refine (num_any _ _).mono ?_
      rintro e w12 ⟨rfl, rfl⟩
      go_wp2_with fail
      refine (num_any _ _).mono ?_
      rintro e w13 ⟨rfl, rfl⟩
      have H13 := hide (nameMay_any ⟨#[113, 57]⟩ w13 (by decide))
      rw [show mayB ⟨#[113, 57]⟩ = true by decide +kernel] at H13
      go_wp2_with fail
      refine (unhide H13).mono ?_
      rintro e w14 ⟨rfl, rfl⟩
      go_wp2_with fail
      go_ret
      exact ⟨rfl, q1.trans (qX.trans q611)⟩
  · have c1 : ∀ o1 o2, ((w2.alloc o1).alloc o2).frozen? ⟨w1.heap.size + 9, 6, none⟩ = false := fun o1 o2 => ((unhide HV).e.q (((Q.refl _).alloc o1).alloc o2)).frz 6
    have c2 := fun (o1 : Obj) (o2 : Obj) => ((unhide HV).e.q (((Q.refl _).alloc o1).alloc o2)).cell 6 rfl
    have hF : Fo w1 ((fW w2 w1.heap.size).setCell ⟨w1.heap.size + 9, 6, none⟩ (.string ⟨#[110, 111]⟩)) w1.heap.size w2.heap.size _ _ := (unhide HFO).setE hgg 6 (.string ⟨#[110, 111]⟩)
    have SX := hide ((gr_three (x0 := foX8 w1.heap.size) (x1 := gvX1 w1.heap.size) (x2 := gvX2 w1.heap.size) [(sTwo, 2)] hF.v.e rfl hF.v.p rfl hF.v.dd ⟨hF.v.x0.a, hF.v.x0.b, Or.inl rfl, Or.inl rfl⟩ hF.v.x1 hF.v.x2 (ghz_of (show ghzB foG8 = true by decide +kernel))).says 3 1 1 (Nat.le_refl 1) (by decide))
    replace SX : Hid (Says ((fW w2 w1.heap.size).setCell ⟨w1.heap.size + 9, 6, none⟩ (.string ⟨#[110, 111]⟩)) (gvV w1.heap.size) foG8) := SX
    have BX := hide hF.b
    have qX := hF.q
    have b0 := hF.b.cell 0 rfl
    have b1 := hF.b.cell 1 rfl
    have b2 := hF.b.cell 2 rfl
    unfold fW at b0 b1 b2
    clear hF HFO HV HQ2
    go_wp2_with fail
    change Calls _ _ _ ((fW w2 w1.heap.size).setCell ⟨w1.heap.size + 9, 6, none⟩ (.string ⟨#[110, 111]⟩)) _
    clear b0 b1 b2 c1 c2
    generalize (fW w2 w1.heap.size).setCell ⟨w1.heap.size + 9, 6, none⟩ (.string ⟨#[110, 111]⟩) = w6 at *
    refine ((unhide SX).make w6 ⟨#[108, 105, 98]⟩ (Q.refl _)).mono ?_
    rintro e w7 ⟨rfl, q7⟩
    rw [fo_ck (foM8)]
    generalize mkI foG8 (bl ⟨#[108, 105, 98]⟩) = mi
    generalize mkIs foG8 (bl ⟨#[108, 105, 98]⟩) = ms
    go_wp2_with fail
    refine (given_any w7).mono ?_
    rintro e w8 ⟨rfl, v8, q8⟩
    have H8 := hide (gv_may w8 _ v8)
    clear v8
    go_wp2_with fail
    refine (unhide H8).mono ?_
    rintro e w9 ⟨rfl, q9⟩
    have q69 := q7.trans (q8.trans q9)
    clear H8 q7 q8 q9
    have H9 := hide ((unhide SX).may w9 q69)
    rw [foM8] at H9
    have b0 := ((unhide BX).q q69).cell 0 rfl
    have b1 := ((unhide BX).q q69).cell 1 rfl
    have b2 := ((unhide BX).q q69).cell 2 rfl
    go_wp2_with fail
    refine (unhide H9).mono ?_
    rintro e w10 ⟨rfl, q10⟩
    have q610 := q69.trans q10
    clear H9 b0 b1 b2 q69 q10
    have H10 := hide ((unhide SX).ck w10 q610)
    rw [fo_ck (foM8)] at H10
    have b0 := ((unhide BX).q q610).cell 0 rfl
    have b1 := ((unhide BX).q q610).cell 1 rfl
    have b2 := ((unhide BX).q q610).cell 2 rfl
    go_wp2_with fail
    refine (unhide H10).mono ?_
    rintro e w11 ⟨rfl, q11⟩
    have q611 := q610.trans q11
    clear H10 b0 b1 b2 q610 q11
    go_wp2_with fail
    refine (num_any _ _).mono ?_
    rintro e w12 ⟨rfl, rfl⟩
    go_wp2_with fail
    refine (num_any _ _).mono ?_
    rintro e w13 ⟨rfl, rfl⟩
    have H13 := hide (nameMay_any ⟨#[113, 57]⟩ w13 (by decide))
    rw [show mayB ⟨#[113, 57]⟩ = true by decide +kernel] at H13
    go_wp2_with fail
    refine (unhide H13).mono ?_
    rintro e w14 ⟨rfl, rfl⟩
    go_wp2_with fail
    go_ret
    exact ⟨rfl, q1.trans (qX.trans q611)⟩
  · have c1 : ∀ o1 o2, ((w2.alloc o1).alloc o2).frozen? ⟨w1.heap.size + 10, 1, none⟩ = false := fun o1 o2 => ((unhide HV).p.q (((Q.refl _).alloc o1).alloc o2)).frz 1
    have c2 := fun (o1 : Obj) (o2 : Obj) => ((unhide HV).p.q (((Q.refl _).alloc o1).alloc o2)).cell 1 rfl
    have hF : Fo w1 ((fW w2 w1.heap.size).setCell ⟨w1.heap.size + 10, 1, none⟩ (.int .i64 (1 - (1 + (d : Int))))) w1.heap.size w2.heap.size _ _ := (unhide HFO).setP hgg 1 (.int .i64 (1 - (1 + (d : Int))))
    have SX := hide ((gr_three (x0 := gvX0 w1.heap.size) (x1 := gvX1 w1.heap.size) (x2 := gvX2 w1.heap.size) [(sTwo, 1 - (1 + (d : Int)))] hF.v.e rfl hF.v.p rfl hF.v.dd hF.v.x0 hF.v.x1 hF.v.x2 (ghz_of (show ghzB (foG9 d) = true by rfl))).says 3 1 1 (Nat.le_refl 1) (by decide))
    replace SX : Hid (Says ((fW w2 w1.heap.size).setCell ⟨w1.heap.size + 10, 1, none⟩ (.int .i64 (1 - (1 + (d : Int))))) (gvV w1.heap.size) (foG9 d)) := SX
    have BX := hide hF.b
    have qX := hF.q
    have b0 := hF.b.cell 0 rfl
    have b1 := hF.b.cell 1 rfl
    have b2 := hF.b.cell 2 rfl
    unfold fW at b0 b1 b2
    clear hF HFO HV HQ2
    go_wp2_with fail
    change Calls _ _ _ ((fW w2 w1.heap.size).setCell ⟨w1.heap.size + 10, 1, none⟩ (.int .i64 (1 - (1 + (d : Int))))) _
    clear b0 b1 b2 c1 c2
    generalize (fW w2 w1.heap.size).setCell ⟨w1.heap.size + 10, 1, none⟩ (.int .i64 (1 - (1 + (d : Int)))) = w6 at *
    refine ((unhide SX).make w6 ⟨#[108, 105, 98]⟩ (Q.refl _)).mono ?_
    rintro e w7 ⟨rfl, q7⟩
    rw [fo_ck (foM9 d)]
    generalize mkI (foG9 d) (bl ⟨#[108, 105, 98]⟩) = mi
    generalize mkIs (foG9 d) (bl ⟨#[108, 105, 98]⟩) = ms
    go_wp2_with fail
    refine (given_any w7).mono ?_
    rintro e w8 ⟨rfl, v8, q8⟩
    have H8 := hide (gv_may w8 _ v8)
    clear v8
    go_wp2_with fail
    refine (unhide H8).mono ?_
    rintro e w9 ⟨rfl, q9⟩
    have q69 := q7.trans (q8.trans q9)
    clear H8 q7 q8 q9
    have H9 := hide ((unhide SX).may w9 q69)
    rw [foM9 d] at H9
    have b0 := ((unhide BX).q q69).cell 0 rfl
    have b1 := ((unhide BX).q q69).cell 1 rfl
    have b2 := ((unhide BX).q q69).cell 2 rfl
    go_wp2_with fail
    refine (unhide H9).mono ?_
    rintro e w10 ⟨rfl, q10⟩
    have q610 := q69.trans q10
    clear H9 b0 b1 b2 q69 q10
    have H10 := hide ((unhide SX).ck w10 q610)
    rw [fo_ck (foM9 d)] at H10
    have b0 := ((unhide BX).q q610).cell 0 rfl
    have b1 := ((unhide BX).q q610).cell 1 rfl
    have b2 := ((unhide BX).q q610).cell 2 rfl
    go_wp2_with fail
    refine (unhide H10).mono ?_
    rintro e w11 ⟨rfl, q11⟩
    have q611 := q610.trans q11
    clear H10 b0 b1 b2 q610 q11
    go_wp2_with fail
    refine (num_any _ _).mono ?_
    rintro e w12 ⟨rfl, rfl⟩
    go_wp2_with fail
    refine (num_any _ _).mono ?_
    rintro e w13 ⟨rfl, rfl⟩
    have H13 := hide (nameMay_any ⟨#[113, 57]⟩ w13 (by decide))
    rw [show mayB ⟨#[113, 57]⟩ = true by decide +kernel] at H13
    go_wp2_with fail
    refine (unhide H13).mono ?_
    rintro e w14 ⟨rfl, rfl⟩
    go_wp2_with fail
    go_ret
    exact ⟨rfl, q1.trans (qX.trans q611)⟩
  · have c1 : ∀ o1 o2, ((w2.alloc o1).alloc o2).frozen? ⟨w1.heap.size + 10, 1, none⟩ = false := fun o1 o2 => ((unhide HV).p.q (((Q.refl _).alloc o1).alloc o2)).frz 1
    have c2 := fun (o1 : Obj) (o2 : Obj) => ((unhide HV).p.q (((Q.refl _).alloc o1).alloc o2)).cell 1 rfl
    have hF : Fo w1 ((fW w2 w1.heap.size).setCell ⟨w1.heap.size + 10, 1, none⟩ (.int .i64 (8 + (1 + (d : Int))))) w1.heap.size w2.heap.size _ _ := (unhide HFO).setP hgg 1 (.int .i64 (8 + (1 + (d : Int))))
    have SX := hide ((gr_three (x0 := gvX0 w1.heap.size) (x1 := gvX1 w1.heap.size) (x2 := gvX2 w1.heap.size) [(sTwo, 8 + (1 + (d : Int)))] hF.v.e rfl hF.v.p rfl hF.v.dd hF.v.x0 hF.v.x1 hF.v.x2 (ghz_of (show ghzB (foG10 d) = true by rfl))).says 3 1 1 (Nat.le_refl 1) (by decide))
    replace SX : Hid (Says ((fW w2 w1.heap.size).setCell ⟨w1.heap.size + 10, 1, none⟩ (.int .i64 (8 + (1 + (d : Int))))) (gvV w1.heap.size) (foG10 d)) := SX
    have BX := hide hF.b
    have qX := hF.q
    have b0 := hF.b.cell 0 rfl
    have b1 := hF.b.cell 1 rfl
    have b2 := hF.b.cell 2 rfl
    unfold fW at b0 b1 b2
    clear hF HFO HV HQ2
    go_wp2_with fail
    change Calls _ _ _ ((fW w2 w1.heap.size).setCell ⟨w1.heap.size + 10, 1, none⟩ (.int .i64 (8 + (1 + (d : Int))))) _
    clear b0 b1 b2 c1 c2
    generalize (fW w2 w1.heap.size).setCell ⟨w1.heap.size + 10, 1, none⟩ (.int .i64 (8 + (1 + (d : Int)))) = w6 at *
    refine ((unhide SX).make w6 ⟨#[108, 105, 98]⟩ (Q.refl _)).mono ?_
    rintro e w7 ⟨rfl, q7⟩
    rw [fo_ck (foM10 d)]
    generalize mkI (foG10 d) (bl ⟨#[108, 105, 98]⟩) = mi
    generalize mkIs (foG10 d) (bl ⟨#[108, 105, 98]⟩) = ms
    go_wp2_with fail
    refine (given_any w7).mono ?_
    rintro e w8 ⟨rfl, v8, q8⟩
    have H8 := hide (gv_may w8 _ v8)
    clear v8
    go_wp2_with fail
    refine (unhide H8).mono ?_
    rintro e w9 ⟨rfl, q9⟩
    have q69 := q7.trans (q8.trans q9)
    clear H8 q7 q8 q9
    have H9 := hide ((unhide SX).may w9 q69)
    rw [foM10 d] at H9
    have b0 := ((unhide BX).q q69).cell 0 rfl
    have b1 := ((unhide BX).q q69).cell 1 rfl
    have b2 := ((unhide BX).q q69).cell 2 rfl
    go_wp2_with fail
    refine (unhide H9).mono ?_
    rintro e w10 ⟨rfl, q10⟩
    have q610 := q69.trans q10
    clear H9 b0 b1 b2 q69 q10
    have H10 := hide ((unhide SX).ck w10 q610)
    rw [fo_ck (foM10 d)] at H10
    have b0 := ((unhide BX).q q610).cell 0 rfl
    have b1 := ((unhide BX).q q610).cell 1 rfl
    have b2 := ((unhide BX).q q610).cell 2 rfl
    go_wp2_with fail
    refine (unhide H10).mono ?_
    rintro e w11 ⟨rfl, q11⟩
    have q611 := q610.trans q11
    clear H10 b0 b1 b2 q610 q11
    go_wp2_with fail
    refine (num_any _ _).mono ?_
    rintro e w12 ⟨rfl, rfl⟩
    go_wp2_with fail
    refine (num_any _ _).mono ?_
    rintro e w13 ⟨rfl, rfl⟩
    have H13 := hide (nameMay_any ⟨#[113, 57]⟩ w13 (by decide))
    rw [show mayB ⟨#[113, 57]⟩ = true by decide +kernel] at H13
    go_wp2_with fail
    refine (unhide H13).mono ?_
    rintro e w14 ⟨rfl, rfl⟩
    go_wp2_with fail
    go_ret
    exact ⟨rfl, q1.trans (qX.trans q611)⟩
  · have hF := unhide HFO
    clear HV HQ2 HFO
    go_wp2_with fail
    change Code.wp _ _ _ _ (fW w2 w1.heap.size)
    generalize fW w2 w1.heap.size = w3 at *
    have bl0 : w3.cell? ⟨w2.heap.size, 0, none⟩ = some (.slice (at0 (w1.heap.size + 9)) 3 3) := hF.b.cell 0 rfl
    have bl1 : w3.cell? ⟨w2.heap.size, 1, none⟩ = some (.slice (at0 (w1.heap.size + 10)) 1 1) := hF.b.cell 1 rfl
    have bl2 : w3.cell? ⟨w2.heap.size, 2, none⟩ = some (.slice (at0 (w1.heap.size + 11)) 1 1) := hF.b.cell 2 rfl
    have p0 : w3.cell? ⟨w1.heap.size + 10, 0, none⟩ = some (.string ⟨#[116, 119, 111]⟩) := hF.v.p.cell 0 rfl
    have p1 : w3.cell? ⟨w1.heap.size + 10, 1, none⟩ = some (.int .i64 2) := hF.v.p.cell 1 rfl
    have HOP := hide (own_of_blk' (B := w1.heap.size) (n := 1) (size := 2) (xs := lay pov [(sTwo, 2)]) hF.v.p rfl rfl (by omega) (by decide))
    have bl1a : ∀ ob, (w3.alloc ob).cell? ⟨w2.heap.size, 1, none⟩ = some (.slice (at0 (w1.heap.size + 10)) 1 1) := fun ob => (hF.b.q ((Q.refl _).alloc ob)).cell 1 rfl
    have hB3 : w1.heap.size ≤ w3.drew.heap.size := hF.q.size
    have HF := hide hF
    clear hF
    go_region_law (refine step_row rfl (.tmp 104) (.tmp 109) 24 rfl w1.heap.size 34 j0 _ 2 24 Tryd.underlying24 ji jz0 jz1 jz2 rfl (by decide) (at0 (w1.heap.size + 10)) 1 1 (lay pov [(sTwo, 2)]) (by rfl) (own_q (unhide HOP) ((Q.refl w3).drew.alloc _)) (some ⟨w3.drew.heap.size, 0, none⟩) 1 1 (lay pov [(sTwo, 2)]) (by rfl) (SrcRow.new w3.drew #[.string ⟨#[116, 119, 111]⟩, .int .i64 2] _ 2 rfl) (by intro u hu; simp [lay, pov] at hu; rcases hu with rfl | rfl <;> rfl) (by decide) (by decide) (le_alloc hB3 _) ?_; intro ao5 cap5 w5 own5 grow5; have bG5 := hide ((unhide HF).b.grown ((Q.refl w3).drew.alloc _) grow5 (fun k hk => by have hk' : w1.heap.size + 10 = k := Option.some.inj hk; omega)); have frz5 := (unhide bG5).frz 1; have cG5 : w5.cell? ⟨w2.heap.size, 1, none⟩ = some (.slice (at0 (w1.heap.size + 10)) 1 1) := (unhide bG5).cell 1 rfl)
    all_goals
      have hF := unhide HF
      have frA : Fr (fun k => k = w1.heap.size + 10) w3 w5 := (Fr.of_q ((Q.refl w3).drew.alloc _)).trans ((Fr.grown grow5).mono (fun k hk => (Option.some.inj hk).symm))
      have frB : Fr (fun k => k = w1.heap.size + 10 ∨ k = w2.heap.size) w3 (w5.setCell ⟨w2.heap.size, 1, none⟩ (.slice ao5 2 cap5)) := (frA.mono (fun k h => Or.inl h)).trans ((Fr.set _ _ _ _).mono (fun k h => Or.inr h))
      obtain ⟨ge, r0, r1, r2, gd⟩ := hF.v.fr frB (fun k h1 h2 h3 h4 => by rcases h4 with h | h <;> omega)
      have own5' : w5.ownsRow w1.heap.size 34 2 (.slice ao5 2 cap5) 2 (lay pov [(sTwo, 2), (sTwo, 2)]) := own5
      have own6 := own_fr own5' (Fr.set w5 w2.heap.size 1 (.slice ao5 2 cap5)) (fun k hk => (unhide bG5).row own5' (by decide) k hk)
      have hgr : GfR (w5.setCell ⟨w2.heap.size, 1, none⟩ (.slice ao5 2 cap5)) foG11 [gvX0 w1.heap.size, gvX1 w1.heap.size, gvX2 w1.heap.size] (at0 (w1.heap.size + 9)) ao5 (at0 (w1.heap.size + 11)) := by
        refine ⟨rowB ev_len ge _ rfl, rfl, RowG.own pov_len (by decide) own6, gd, fun x hx => ?_, ghz_of (by decide +kernel)⟩
        simp only [List.mem_cons, List.not_mem_nil, or_false] at hx
        rcases hx with rfl | rfl | rfl
        · exact r0
        · exact r1
        · exact r2
      have SX : Hid (Says (w5.setCell ⟨w2.heap.size, 1, none⟩ (.slice ao5 2 cap5)) (.agg #[.slice (at0 (w1.heap.size + 9)) 3 3, .slice ao5 2 cap5, .slice (at0 (w1.heap.size + 11)) 1 1]) foG11) := hgr.says 3 cap5 1 (own_le own6).1 (own_le own6).2.1
      have BX : Hid (Blk (w5.setCell ⟨w2.heap.size, 1, none⟩ (.slice ao5 2 cap5)) w2.heap.size #[.slice (at0 (w1.heap.size + 9)) 3 3, .slice ao5 2 cap5, .slice (at0 (w1.heap.size + 11)) 1 1] 27) := (unhide bG5).set 1 _
      have qX : Q w1 (w5.setCell ⟨w2.heap.size, 1, none⟩ (.slice ao5 2 cap5)) := Below.trans hF.q (frB.below hF.q.size (fun k hk => by rcases hk with h | h <;> omega))
      have z0 := (unhide BX).cell 0 rfl
      have z1 := (unhide BX).cell 1 rfl
      have z2 := (unhide BX).cell 2 rfl
      clear hF frA frB ge r0 r1 r2 gd own5 own5' own6 hgr grow5 HF HOP
      go_wp2_with fail
      generalize (w5.setCell ⟨w2.heap.size, 1, none⟩ (.slice ao5 2 cap5)) = w6 at *
      clear z0 z1 z2
      refine ((unhide SX).make w6 ⟨#[108, 105, 98]⟩ (Q.refl _)).mono ?_
      rintro e w7 ⟨rfl, q7⟩
      rw [fo_ck (foM11)]
      generalize mkI foG11 (bl ⟨#[108, 105, 98]⟩) = mi
      generalize mkIs foG11 (bl ⟨#[108, 105, 98]⟩) = ms
      go_wp2_with fail
      refine (given_any w7).mono ?_
      rintro e w8 ⟨rfl, v8, q8⟩
      have H8 := hide (gv_may w8 _ v8)
      clear v8
      go_wp2_with fail
      refine (unhide H8).mono ?_
      rintro e w9 ⟨rfl, q9⟩
      have q69 := q7.trans (q8.trans q9)
      clear H8 q7 q8 q9
      have H9 := hide ((unhide SX).may w9 q69)
      rw [foM11] at H9
      have b0 := ((unhide BX).q q69).cell 0 rfl
      have b1 := ((unhide BX).q q69).cell 1 rfl
      have b2 := ((unhide BX).q q69).cell 2 rfl
      go_wp2_with fail
      refine (unhide H9).mono ?_
      rintro e w10 ⟨rfl, q10⟩
      have q610 := q69.trans q10
      clear H9 b0 b1 b2 q69 q10
      have H10 := hide ((unhide SX).ck w10 q610)
      rw [fo_ck (foM11)] at H10
      have b0 := ((unhide BX).q q610).cell 0 rfl
      have b1 := ((unhide BX).q q610).cell 1 rfl
      have b2 := ((unhide BX).q q610).cell 2 rfl
      go_wp2_with fail
      refine (unhide H10).mono ?_
      rintro e w11 ⟨rfl, q11⟩
      have q611 := q610.trans q11
      clear H10 b0 b1 b2 q610 q11
      go_wp2_with fail
      refine (num_any _ _).mono ?_
      rintro e w12 ⟨rfl, rfl⟩
      go_wp2_with fail
      refine (num_any _ _).mono ?_
      rintro e w13 ⟨rfl, rfl⟩
      have H13 := hide (nameMay_any ⟨#[113, 57]⟩ w13 (by decide))
      rw [show mayB ⟨#[113, 57]⟩ = true by decide +kernel] at H13
      go_wp2_with fail
      refine (unhide H13).mono ?_
      rintro e w14 ⟨rfl, rfl⟩
      go_wp2_with fail
      go_ret
      exact ⟨rfl, q1.trans (qX.trans q611)⟩
  · have c1 : ∀ o1 o2, ((w2.alloc o1).alloc o2).frozen? ⟨w1.heap.size + 10, 0, none⟩ = false := fun o1 o2 => ((unhide HV).p.q (((Q.refl _).alloc o1).alloc o2)).frz 0
    have c2 := fun (o1 : Obj) (o2 : Obj) => ((unhide HV).p.q (((Q.refl _).alloc o1).alloc o2)).cell 0 rfl
    have hF : Fo w1 ((fW w2 w1.heap.size).setCell ⟨w1.heap.size + 10, 0, none⟩ (.string ⟨#[84, 119, 111]⟩)) w1.heap.size w2.heap.size _ _ := (unhide HFO).setP hgg 0 (.string ⟨#[84, 119, 111]⟩)
    have SX := hide ((gr_three (x0 := gvX0 w1.heap.size) (x1 := gvX1 w1.heap.size) (x2 := gvX2 w1.heap.size) [([84, 119, 111], 2)] hF.v.e rfl hF.v.p rfl hF.v.dd hF.v.x0 hF.v.x1 hF.v.x2 (ghz_of (show ghzB foG12 = true by decide +kernel))).says 3 1 1 (Nat.le_refl 1) (by decide))
    replace SX : Hid (Says ((fW w2 w1.heap.size).setCell ⟨w1.heap.size + 10, 0, none⟩ (.string ⟨#[84, 119, 111]⟩)) (gvV w1.heap.size) foG12) := SX
    have BX := hide hF.b
    have qX := hF.q
    have b0 := hF.b.cell 0 rfl
    have b1 := hF.b.cell 1 rfl
    have b2 := hF.b.cell 2 rfl
    unfold fW at b0 b1 b2
    clear hF HFO HV HQ2
    go_wp2_with fail
    change Calls _ _ _ ((fW w2 w1.heap.size).setCell ⟨w1.heap.size + 10, 0, none⟩ (.string ⟨#[84, 119, 111]⟩)) _
    clear b0 b1 b2 c1 c2
    generalize (fW w2 w1.heap.size).setCell ⟨w1.heap.size + 10, 0, none⟩ (.string ⟨#[84, 119, 111]⟩) = w6 at *
    refine ((unhide SX).make w6 ⟨#[108, 105, 98]⟩ (Q.refl _)).mono ?_
    rintro e w7 ⟨rfl, q7⟩
    rw [fo_ck (foM12)]
    generalize mkI foG12 (bl ⟨#[108, 105, 98]⟩) = mi
    generalize mkIs foG12 (bl ⟨#[108, 105, 98]⟩) = ms
    go_wp2_with fail
    refine (given_any w7).mono ?_
    rintro e w8 ⟨rfl, v8, q8⟩
    have H8 := hide (gv_may w8 _ v8)
    clear v8
    go_wp2_with fail
    refine (unhide H8).mono ?_
    rintro e w9 ⟨rfl, q9⟩
    have q69 := q7.trans (q8.trans q9)
    clear H8 q7 q8 q9
    have H9 := hide ((unhide SX).may w9 q69)
    rw [foM12] at H9
    have b0 := ((unhide BX).q q69).cell 0 rfl
    have b1 := ((unhide BX).q q69).cell 1 rfl
    have b2 := ((unhide BX).q q69).cell 2 rfl
    go_wp2_with fail
    refine (unhide H9).mono ?_
    rintro e w10 ⟨rfl, q10⟩
    have q610 := q69.trans q10
    clear H9 b0 b1 b2 q69 q10
    have H10 := hide ((unhide SX).ck w10 q610)
    rw [fo_ck (foM12)] at H10
    have b0 := ((unhide BX).q q610).cell 0 rfl
    have b1 := ((unhide BX).q q610).cell 1 rfl
    have b2 := ((unhide BX).q q610).cell 2 rfl
    go_wp2_with fail
    refine (unhide H10).mono ?_
    rintro e w11 ⟨rfl, q11⟩
    have q611 := q610.trans q11
    clear H10 b0 b1 b2 q610 q11
    go_wp2_with fail
    refine (num_any _ _).mono ?_
    rintro e w12 ⟨rfl, rfl⟩
    go_wp2_with fail
    refine (num_any _ _).mono ?_
    rintro e w13 ⟨rfl, rfl⟩
    have H13 := hide (nameMay_any ⟨#[113, 57]⟩ w13 (by decide))
    rw [show mayB ⟨#[113, 57]⟩ = true by decide +kernel] at H13
    go_wp2_with fail
    refine (unhide H13).mono ?_
    rintro e w14 ⟨rfl, rfl⟩
    go_wp2_with fail
    go_ret
    exact ⟨rfl, q1.trans (qX.trans q611)⟩
  · obtain ⟨gv, gb, gn, gq⟩ := fWd_facts (unhide HQ2) (unhide HV) (.slice (at0 (w2.heap.size + 1 + 1)) 1 1)
    have gv' := gv.q ((Q.refl _).alloc (.cells #[.string ⟨#[65]⟩] 9))
    have hnew : Blk ((fWd w2 w1.heap.size (.slice (at0 (w2.heap.size + 1 + 1)) 1 1)).alloc (.cells #[.string ⟨#[65]⟩] 9)) (w2.heap.size + 1 + 1) #[.string ⟨#[65]⟩] 9 := by
      have h := Blk.new (fWd w2 w1.heap.size (.slice (at0 (w2.heap.size + 1 + 1)) 1 1)) #[.string ⟨#[65]⟩] 9
      rw [show (fWd w2 w1.heap.size (.slice (at0 (w2.heap.size + 1 + 1)) 1 1)).heap.size = w2.heap.size + 1 + 1 by unfold fWd; rw [size_alloc, size_alloc]] at h
      exact h
    have SX : Hid (Says ((fWd w2 w1.heap.size (.slice (at0 (w2.heap.size + 1 + 1)) 1 1)).alloc (.cells #[.string ⟨#[65]⟩] 9)) (.agg #[.slice (at0 (w1.heap.size + 9)) 3 3, .slice (at0 (w1.heap.size + 10)) 1 1, .slice (at0 (w2.heap.size + 1 + 1)) 1 1]) foG13) := (gr_three (x0 := gvX0 w1.heap.size) (x1 := gvX1 w1.heap.size) (x2 := gvX2 w1.heap.size) [(sTwo, 2)] gv'.e rfl gv'.p rfl (tvR hnew [[65]] rfl) gv'.x0 gv'.x1 gv'.x2 (ghz_of (show ghzB foG13 = true by decide +kernel))).says 3 1 1 (Nat.le_refl 1) (by decide)
    have BX := hide (gb.q ((Q.refl _).alloc (.cells #[.string ⟨#[65]⟩] 9)))
    have qX := gq.alloc (.cells #[.string ⟨#[65]⟩] 9)
    clear gv gb gn gq gv' hnew HFO HV HQ2
    go_wp2_with fail
    change Calls _ _ _ ((fWd w2 w1.heap.size (.slice (at0 (w2.heap.size + 1 + 1)) 1 1)).alloc (.cells #[.string ⟨#[65]⟩] 9)) _
    generalize (fWd w2 w1.heap.size (.slice (at0 (w2.heap.size + 1 + 1)) 1 1)).alloc (.cells #[.string ⟨#[65]⟩] 9) = w6 at *
    refine ((unhide SX).make w6 ⟨#[108, 105, 98]⟩ (Q.refl _)).mono ?_
    rintro e w7 ⟨rfl, q7⟩
    rw [fo_ck (foM13)]
    generalize mkI foG13 (bl ⟨#[108, 105, 98]⟩) = mi
    generalize mkIs foG13 (bl ⟨#[108, 105, 98]⟩) = ms
    go_wp2_with fail
    refine (given_any w7).mono ?_
    rintro e w8 ⟨rfl, v8, q8⟩
    have H8 := hide (gv_may w8 _ v8)
    clear v8
    go_wp2_with fail
    refine (unhide H8).mono ?_
    rintro e w9 ⟨rfl, q9⟩
    have q69 := q7.trans (q8.trans q9)
    clear H8 q7 q8 q9
    have H9 := hide ((unhide SX).may w9 q69)
    rw [foM13] at H9
    have b0 := ((unhide BX).q q69).cell 0 rfl
    have b1 := ((unhide BX).q q69).cell 1 rfl
    have b2 := ((unhide BX).q q69).cell 2 rfl
    go_wp2_with fail
    refine (unhide H9).mono ?_
    rintro e w10 ⟨rfl, q10⟩
    have q610 := q69.trans q10
    clear H9 b0 b1 b2 q69 q10
    have H10 := hide ((unhide SX).ck w10 q610)
    rw [fo_ck (foM13)] at H10
    have b0 := ((unhide BX).q q610).cell 0 rfl
    have b1 := ((unhide BX).q q610).cell 1 rfl
    have b2 := ((unhide BX).q q610).cell 2 rfl
    go_wp2_with fail
    refine (unhide H10).mono ?_
    rintro e w11 ⟨rfl, q11⟩
    have q611 := q610.trans q11
    clear H10 b0 b1 b2 q610 q11
    go_wp2_with fail
    refine (num_any _ _).mono ?_
    rintro e w12 ⟨rfl, rfl⟩
    go_wp2_with fail
    refine (num_any _ _).mono ?_
    rintro e w13 ⟨rfl, rfl⟩
    have H13 := hide (nameMay_any ⟨#[113, 57]⟩ w13 (by decide))
    rw [show mayB ⟨#[113, 57]⟩ = true by decide +kernel] at H13
    go_wp2_with fail
    refine (unhide H13).mono ?_
    rintro e w14 ⟨rfl, rfl⟩
    go_wp2_with fail
    go_ret
    exact ⟨rfl, q1.trans (qX.trans q611)⟩
  · have c1 : ∀ o1 o2, ((w2.alloc o1).alloc o2).frozen? ⟨w1.heap.size + 9, 1, none⟩ = false := fun o1 o2 => ((unhide HV).e.q (((Q.refl _).alloc o1).alloc o2)).frz 1
    have c2 := fun (o1 : Obj) (o2 : Obj) => ((unhide HV).e.q (((Q.refl _).alloc o1).alloc o2)).cell 1 rfl
    have hF : Fo w1 ((fW w2 w1.heap.size).setCell ⟨w1.heap.size + 9, 1, none⟩ (.slice (at0 (w2.heap.size + 1)) 9 9)) w1.heap.size w2.heap.size _ _ := (unhide HFO).setE hgg 1 (.slice (at0 (w2.heap.size + 1)) 9 9)
    have SX := hide ((gr_three (x0 := foX14 w1.heap.size w2.heap.size) (x1 := gvX1 w1.heap.size) (x2 := gvX2 w1.heap.size) [(sTwo, 2)] hF.v.e rfl hF.v.p rfl hF.v.dd ⟨hF.v.x0.a, tvR hF.nn _ rfl, Or.inl rfl, Or.inl rfl⟩ hF.v.x1 hF.v.x2 (ghz_of (show ghzB foG14 = true by decide +kernel))).says 3 1 1 (Nat.le_refl 1) (by decide))
    replace SX : Hid (Says ((fW w2 w1.heap.size).setCell ⟨w1.heap.size + 9, 1, none⟩ (.slice (at0 (w2.heap.size + 1)) 9 9)) (gvV w1.heap.size) foG14) := SX
    have BX := hide hF.b
    have qX := hF.q
    have b0 := hF.b.cell 0 rfl
    have b1 := hF.b.cell 1 rfl
    have b2 := hF.b.cell 2 rfl
    unfold fW at b0 b1 b2
    clear hF HFO HV HQ2
    go_wp2_with fail
    change Calls _ _ _ ((fW w2 w1.heap.size).setCell ⟨w1.heap.size + 9, 1, none⟩ (.slice (at0 (w2.heap.size + 1)) 9 9)) _
    clear b0 b1 b2 c1 c2
    generalize (fW w2 w1.heap.size).setCell ⟨w1.heap.size + 9, 1, none⟩ (.slice (at0 (w2.heap.size + 1)) 9 9) = w6 at *
    refine ((unhide SX).make w6 ⟨#[108, 105, 98]⟩ (Q.refl _)).mono ?_
    rintro e w7 ⟨rfl, q7⟩
    rw [fo_ck (foM14)]
    generalize mkI foG14 (bl ⟨#[108, 105, 98]⟩) = mi
    generalize mkIs foG14 (bl ⟨#[108, 105, 98]⟩) = ms
    go_wp2_with fail
    refine (given_any w7).mono ?_
    rintro e w8 ⟨rfl, v8, q8⟩
    have H8 := hide (gv_may w8 _ v8)
    clear v8
    go_wp2_with fail
    refine (unhide H8).mono ?_
    rintro e w9 ⟨rfl, q9⟩
    have q69 := q7.trans (q8.trans q9)
    clear H8 q7 q8 q9
    have H9 := hide ((unhide SX).may w9 q69)
    rw [foM14] at H9
    have b0 := ((unhide BX).q q69).cell 0 rfl
    have b1 := ((unhide BX).q q69).cell 1 rfl
    have b2 := ((unhide BX).q q69).cell 2 rfl
    go_wp2_with fail
    refine (unhide H9).mono ?_
    rintro e w10 ⟨rfl, q10⟩
    have q610 := q69.trans q10
    clear H9 b0 b1 b2 q69 q10
    have H10 := hide ((unhide SX).ck w10 q610)
    rw [fo_ck (foM14)] at H10
    have b0 := ((unhide BX).q q610).cell 0 rfl
    have b1 := ((unhide BX).q q610).cell 1 rfl
    have b2 := ((unhide BX).q q610).cell 2 rfl
    go_wp2_with fail
    refine (unhide H10).mono ?_
    rintro e w11 ⟨rfl, q11⟩
    have q611 := q610.trans q11
    clear H10 b0 b1 b2 q610 q11
    go_wp2_with fail
    refine (num_any _ _).mono ?_
    rintro e w12 ⟨rfl, rfl⟩
    go_wp2_with fail
    refine (num_any _ _).mono ?_
    rintro e w13 ⟨rfl, rfl⟩
    have H13 := hide (nameMay_any ⟨#[113, 57]⟩ w13 (by decide))
    rw [show mayB ⟨#[113, 57]⟩ = true by decide +kernel] at H13
    go_wp2_with fail
    refine (unhide H13).mono ?_
    rintro e w14 ⟨rfl, rfl⟩
    go_wp2_with fail
    go_ret
    exact ⟨rfl, q1.trans (qX.trans q611)⟩
  · obtain ⟨gv, gb, gn, gq⟩ := fWd_facts (unhide HQ2) (unhide HV) (.slice (at0 (w2.heap.size + 1)) 9 9)
    have SX : Hid (Says (fWd w2 w1.heap.size (.slice (at0 (w2.heap.size + 1)) 9 9)) (.agg #[.slice (at0 (w1.heap.size + 9)) 3 3, .slice (at0 (w1.heap.size + 10)) 1 1, .slice (at0 (w2.heap.size + 1)) 9 9]) foG15) := (gr_three (x0 := gvX0 w1.heap.size) (x1 := gvX1 w1.heap.size) (x2 := gvX2 w1.heap.size) [(sTwo, 2)] gv.e rfl gv.p rfl (tvR gn nineW rfl) gv.x0 gv.x1 gv.x2 (ghz_of (show ghzB foG15 = true by decide +kernel))).says 3 1 9 (Nat.le_refl 1) (by decide)
    have BX := hide gb
    have qX := gq
    clear gv gb gn gq HFO HV HQ2
    go_wp2_with fail
    change Calls _ _ _ (fWd w2 w1.heap.size (.slice (at0 (w2.heap.size + 1)) 9 9)) _
    generalize fWd w2 w1.heap.size (.slice (at0 (w2.heap.size + 1)) 9 9) = w6 at *
    refine ((unhide SX).make w6 ⟨#[108, 105, 98]⟩ (Q.refl _)).mono ?_
    rintro e w7 ⟨rfl, q7⟩
    rw [fo_ck (foM15)]
    generalize mkI foG15 (bl ⟨#[108, 105, 98]⟩) = mi
    generalize mkIs foG15 (bl ⟨#[108, 105, 98]⟩) = ms
    go_wp2_with fail
    refine (given_any w7).mono ?_
    rintro e w8 ⟨rfl, v8, q8⟩
    have H8 := hide (gv_may w8 _ v8)
    clear v8
    go_wp2_with fail
    refine (unhide H8).mono ?_
    rintro e w9 ⟨rfl, q9⟩
    have q69 := q7.trans (q8.trans q9)
    clear H8 q7 q8 q9
    have H9 := hide ((unhide SX).may w9 q69)
    rw [foM15] at H9
    have b0 := ((unhide BX).q q69).cell 0 rfl
    have b1 := ((unhide BX).q q69).cell 1 rfl
    have b2 := ((unhide BX).q q69).cell 2 rfl
    go_wp2_with fail
    refine (unhide H9).mono ?_
    rintro e w10 ⟨rfl, q10⟩
    have q610 := q69.trans q10
    clear H9 b0 b1 b2 q69 q10
    have H10 := hide ((unhide SX).ck w10 q610)
    rw [fo_ck (foM15)] at H10
    have b0 := ((unhide BX).q q610).cell 0 rfl
    have b1 := ((unhide BX).q q610).cell 1 rfl
    have b2 := ((unhide BX).q q610).cell 2 rfl
    go_wp2_with fail
    refine (unhide H10).mono ?_
    rintro e w11 ⟨rfl, q11⟩
    have q611 := q610.trans q11
    clear H10 b0 b1 b2 q610 q11
    go_wp2_with fail
    refine (num_any _ _).mono ?_
    rintro e w12 ⟨rfl, rfl⟩
    go_wp2_with fail
    refine (num_any _ _).mono ?_
    rintro e w13 ⟨rfl, rfl⟩
    have H13 := hide (nameMay_any ⟨#[113, 57]⟩ w13 (by decide))
    rw [show mayB ⟨#[113, 57]⟩ = true by decide +kernel] at H13
    go_wp2_with fail
    refine (unhide H13).mono ?_
    rintro e w14 ⟨rfl, rfl⟩
    go_wp2_with fail
    go_ret
    exact ⟨rfl, q1.trans (qX.trans q611)⟩

set_option maxRecDepth 100000 in
theorem graphForms_lifted (os : Os) (started : os.Started) (H : Type) (enc : TypeId × Value → H) :
    ReturnsInHanded {} Tryd.checked os 3 .any (fun w args => (Rows.graphFormsSpec.pre enc Tryd.prog Tryd.f3 [] false w args ∧ laidMetH Tryd.prog Rows.graphFormsRow.laid w) ∧ sizedMet enc Tryd.prog Tryd.f3 (OpenSpec.ofChange Rows.graphFormsSpec) false w args) (Rows.graphFormsSpec.post enc Tryd.prog Tryd.f3 false true false false) := by
  refine returnsInHanded_of_change_and (C := Tryd.checked) (X := fun w _ => laidMetH Tryd.prog Rows.graphFormsRow.laid w) (fun _ _ _ hh h => h.of_heap hh) Tryd.own started (by kernel_rfl) Tryd.func3
    (ChangeSpec.witness_shaped (enc := enc) (C := Tryd.checked) (os := os) (X := fun w _ => laidMetH Tryd.prog Rows.graphFormsRow.laid w) false (World.laidAll Tryd.prog os Rows.graphFormsRow.laid) #[.int .i64 0, .int .i64 0] 8 (World.laidAll_os _ _ _)
      (World.shaped_of_ZipB (by kernel_rfl) (by kernel_rfl)) (by kernel_rfl) (by kernel_rfl) (by kernel_rfl)
      (by rw [MakeChecks.laidMetH_plain _ _ _ (by kernel_rfl)]; exact laidMet_laidAll _ (by kernel_rfl) (by kernel_rfl))) ?_
  intro W base args ds gs before hval0 hW _ hsz0 hL _
  have hval : ∀ (j : Nat) t v, Tryd.f3.params[j]? = some t → args[j]? = some v → Value.okWide Tryd.prog W .any base t v := hval0
  have hW' := hW
  obtain ⟨p, q, hA0, hV, rfl, hfz, hnd⟩ := hW
  have hA : DataW.TrodAll enc Tryd.prog W 0 (fun _ => true) true Tryd.f3.params.toList args.toList ds p := hA0
  rw [Tryd.params3] at hA hval
  obtain ⟨v0, vs0, d0, ds0, p0, q0, hargs, rfl, rfl, h0, r0⟩ := trodAll_cons hA
  obtain ⟨v1, vs1, d1, ds1, p1, q1, rfl, rfl, rfl, h1, r1⟩ := trodAll_cons r0
  obtain ⟨rfl, rfl, rfl⟩ := trodAll_nil r1
  obtain rfl : args = #[v0, v1] := by cases args; simp_all
  obtain ⟨rfl, rfl⟩ := trodVars_none hV
  obtain ⟨a0, rfl, rfl, rfl, w0⟩ := open_int Tryd.underlying3 (hval 0 3 v0 rfl rfl) h0
  obtain ⟨a1, rfl, rfl, rfl, w1⟩ := open_int Tryd.underlying3 (hval 1 3 v1 rfl rfl) h1
  clear hA0 hval0
  simp only [List.append_nil] at hW'
  refine (graphForms_any a0 w0 a1 w1 W).mono fun e W' ⟨he, bel⟩ => ?_
  subst he
  exact ⟨_, rfl, _, _, _, [], [], [], hW', trodAll_mk1 (shut_bool Tryd.underlying4 _), (trodAll_cons_mk (shut_int Tryd.underlying3 w0) (trodAll_cons_mk (shut_int Tryd.underlying3 w1) trodAll_mk0)), rfl, bel.frame _, fun h => by cases h⟩

theorem graphForms_holds : Rows.GraphFormsSaid :=
  OpenClaim.holds_of_wide 3 Tryd.f3 rfl rfl rfl rfl rfl rfl rfl ⟨rfl, rfl, rfl, rfl, rfl⟩ rfl rfl rfl rfl rfl (by kernel_rfl) Tryd.func3 (by kernel_rfl)
    (of_decide_eq_true (by kernel_rfl)) (by unfold Func.isWrapper; first | (rw [if_pos (by decide +kernel)]; kernel_rfl) | (rw [if_neg (by decide +kernel)]; exact ⟨rfl, rfl⟩))
    (fun os started H enc _ => graphForms_lifted os started H enc)
theorem graphForms_card : Rows.GraphFormsCardSaid :=
  Claim7.holds_tied_plain_at .later [] [.data, .pinned] true (true, "34930c2335a0f5bc5a06bdbfd5f205e646aed1e26a5a50b32a028c5565e280cf") false graphForms_holds (fun _ h => by cases h) (by kernel_rfl) (fun _ h => by cases h) graphForms_row_tie rfl ⟨rfl, rfl⟩ (by kernel_rfl) rfl
    (fun f fn hf hfn => by
      obtain rfl : f = 3 := Option.some.inj ((show Tryd.prog.funcNamed Rows.graphFormsRow.func = some 3 by kernel_rfl).symm.trans hf) |>.symm
      obtain rfl : fn = Tryd.f3 := (Option.some.inj (Tryd.func3.symm.trans hfn)).symm
      exact ⟨by kernel_rfl, fun j t ht => by
        rw [Tryd.params3] at ht
        have hm : t ∈ [3, 3] := by simpa using Array.mem_of_getElem? ht
        have hall : ([3, 3].all fun u => !Tryd.prog.wantsStandIn u) = true := by kernel_rfl
        exact (show Tryd.prog.wantsStandIn t = false by simpa using List.all_eq_true.1 hall t hm)⟩)
    (by kernel_rfl)
#print axioms graphForms_card

end Go.Proofs.YtdcdghofkpbljaaDoor
