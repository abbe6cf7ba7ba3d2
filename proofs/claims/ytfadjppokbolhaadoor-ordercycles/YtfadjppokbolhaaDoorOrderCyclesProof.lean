/- OrderCycles, whole: edges in a ring have no order, of whichever kinds their needs are, without the last need they have one, whatever the numbers; no conditions. -/
import Derived.Test.YtfadjppokbolhaaDoorRows
import Derived.Test.YtfadjppokbolhaaDoorCards
import Derived.Test.YtfadjppokbolhaaDoorTie
import Derived.LaidMore
import Derived.Lay
import Derived.SevenTiedAt
import Derived.Stop.Joined
import Derived.ProofKit
import Derived.OpenShut
import Derived.ShutString
import Derived.ChangeOld
import Derived.Below
import Derived.SizedLaws
import Derived.Test.YtfadjppokbolhaaDoorOrAwake
import Derived.Test.YtfadjppokbolhaaDoorOrCyPlain
import Derived.Test.YtfadjppokbolhaaDoorGfStep
import Derived.Test.YtfadjppokbolhaaDoorBitPlain
import Derived.Test.YtfadjppokbolhaaDoorStrOne
namespace Go.Proofs.YtfadjppokbolhaaDoor
open Go.ChangeShapes Go.WideShapes Go.ChangeAt Go.RowKit

theorem oe_z3 : ∀ (i j : Fin 16) (q : Fin 3), edzB (oe q.1 i.1 j.1) = true := by decide +kernel
theorem oz_z : ∀ i : Fin 16, edzB (oz i.1) = true := by decide +kernel
theorem oe_z {q i j : Nat} (hi : i < 16) (hj : j < 16) : EdZ (oe q i j) := by
  rcases Nat.lt_or_ge q 2 with h | h
  · exact edz_of (oe_z3 ⟨i, hi⟩ ⟨j, hj⟩ ⟨q, by omega⟩)
  · rw [oe_two q i j h]; exact edz_of (oe_z3 ⟨i, hi⟩ ⟨j, hj⟩ ⟨2, by omega⟩)
theorem ghz_es {es : List Ed} (h : ∀ e ∈ es, EdZ e) (hl : es.length ≤ 4096) : GhZ (es, [], []) :=
  ⟨h, by show es.length ≤ _; omega, Nat.zero_le _, fun x hx => (by cases hx), wsz_of rfl⟩
theorem own_of_blk' {w : World} {g B n size : Nat} {cs : Array Value} {t : TypeId} {xs : List Value} (h : Blk w g cs t) (hx : cs = xs.toArray) (hn : xs.length = n * size) (hb : B ≤ g) (hm : n ≤ maxLen) : w.ownsRow B t size (.slice (some ⟨g, 0, none⟩) n n) n xs := by
  subst hx
  exact ⟨hn, Or.inr ⟨g, n, _, rfl, hb, h, Nat.le_refl _, hm, by simpa using hn, by rw [← hn]; simp⟩⟩

/-- The edge of a round: where its rows lie. -/
def ocY (n q i j : Nat) : EdA := (oe q i j, (some ⟨n + 1 + 1 + 1, 0, none⟩, 1), (if q = 0 then (some ⟨n + 1, 0, none⟩, 1) else (none, 0)), (if q = 1 then (some ⟨n + 1, 0, none⟩, 1) else (none, 0)), (if q = 0 then (none, 0) else if q = 1 then (none, 0) else (some ⟨n + 1, 0, none⟩, 1)))

def ocL (n : Nat) (p q : Int) (S S' : ByteArray) : List (Array Value × TypeId) := [(#[.int .u8 p], 5), (#[.string S], 9), (#[.int .u8 q], 5), (#[.string S'], 9), (#[.slice (some ⟨n + 1 + 1 + 1, 0, none⟩) 1 1, .slice none 0 0, .slice none 0 0, .slice none 0 0, .string ⟨#[120]⟩, .bool false, .string ⟨#[]⟩], 38)]
theorem ocN_eq {j : Nat} {c : UInt8} (h : (c.toNat : Int) = 97 + j) : (⟨#[111]⟩ ++ ⟨#[c]⟩ : ByteArray) = ⟨(ocN j).toArray⟩ := by
  have e : c = UInt8.ofNat (97 + j) := by apply UInt8.toNat.inj; rw [UInt8.toNat_ofNat']; have := c.toNat_lt; omega
  subst e
  exact of_bl (by rw [bl_app]; rfl)
theorem EdR.q'' {w w' : World} {B : Nat} {x : EdA} (h : EdR w B x) (q : Q w w') : EdR w' B x := ⟨own_q h.a q, own_q h.b q, own_q h.c q, own_q h.d q⟩
/-- Behind the store: an edge that takes what edge j makes. -/
theorem oc_edge {w : World} {n B q i j : Nat} (hn : B ≤ n) (h1 : Blk w (n + 1) #[.string ⟨(ocN j).toArray⟩] 9) (h3 : Blk w (n + 1 + 1 + 1) #[.string ⟨(ocN i).toArray⟩] 9) : EdR w B (ocY n q i j) := by
  have r1 : OwnT w B (some ⟨n + 1, 0, none⟩) 1 [ocN j] := own_of_blk' h1 rfl rfl (by omega) (show 1 ≤ maxLen by decide)
  have r3 : OwnT w B (some ⟨n + 1 + 1 + 1, 0, none⟩) 1 [ocN i] := own_of_blk' h3 rfl rfl (by omega) (show 1 ≤ maxLen by decide)
  have r0 : OwnT w B none 0 [] := World.ownsRow_nil _ _ _ _
  by_cases h0 : q = 0
  · subst h0; exact ⟨r3, r1, r0, r0⟩
  by_cases h2 : q = 1
  · subst h2; exact ⟨r3, r0, r1, r0⟩
  · refine ⟨r3, ?_, ?_, ?_⟩
    · show OwnT w B (ocY n q i j).2.2.1.1 (ocY n q i j).2.2.1.2 (ocY n q i j).1.2.1
      unfold ocY oe; simp only [if_neg h0]; exact r0
    · show OwnT w B (ocY n q i j).2.2.2.1.1 (ocY n q i j).2.2.2.1.2 (ocY n q i j).1.2.2.1
      unfold ocY oe; simp only [if_neg h2]; exact r0
    · show OwnT w B (ocY n q i j).2.2.2.2.1 (ocY n q i j).2.2.2.2.2 (ocY n q i j).1.2.2.2.1
      unfold ocY oe; simp only [if_neg h0, if_neg h2]; exact r1
theorem oc_cells (n q i j : Nat) : (ev (ocY n q i j)).toArray = #[.slice (some ⟨n + 1 + 1 + 1, 0, none⟩) 1 1, .slice none 0 0, .slice none 0 0, .slice none 0 0, .string ⟨#[120]⟩, .bool false, .string ⟨#[]⟩].setIfInBounds (if q = 0 then 1 else if q = 1 then 2 else 3) (.slice (some ⟨n + 1, 0, none⟩) 1 1) := by
  by_cases h0 : q = 0
  · subst h0; rfl
  by_cases h2 : q = 1
  · subst h2; rfl
  · rw [if_neg h0, if_neg h2]
    unfold ev EdA.v1 EdA.v2 EdA.v3 EdA.v4 ocY oe
    simp only [if_neg h0, if_neg h2]
    rfl
theorem oc_after {wr wc : World} {n B q i j : Nat} (hn : wr.heap.size = n) (hB : B ≤ n) (qc : Q wr wc) (h1 : Blk wc (n + 1) #[.string ⟨(ocN j).toArray⟩] 9) (h3 : Blk wc (n + 1 + 1 + 1) #[.string ⟨(ocN i).toArray⟩] 9) (h4 : Blk wc (n + 1 + 1 + 1 + 1) #[.slice (some ⟨n + 1 + 1 + 1, 0, none⟩) 1 1, .slice none 0 0, .slice none 0 0, .slice none 0 0, .string ⟨#[120]⟩, .bool false, .string ⟨#[]⟩] 38) (s : Nat) (hs : s = if q = 0 then 1 else if q = 1 then 2 else 3) :
    ∃ Y : EdA, Y.1 = oe q i j ∧ Blk (wc.setCell ⟨n + 1 + 1 + 1 + 1, s, none⟩ (.slice (some ⟨n + 1, 0, none⟩) 1 1)) (n + 1 + 1 + 1 + 1) (ev Y).toArray 38 ∧ EdR (wc.setCell ⟨n + 1 + 1 + 1 + 1, s, none⟩ (.slice (some ⟨n + 1, 0, none⟩) 1 1)) B Y ∧ Q wr (wc.setCell ⟨n + 1 + 1 + 1 + 1, s, none⟩ (.slice (some ⟨n + 1, 0, none⟩) 1 1)) := by
  refine ⟨ocY n q i j, rfl, ?_, oc_edge hB (h1.other (by omega) _ _) (h3.other (by omega) _ _), qc.setHi (by omega) _ _⟩
  rw [oc_cells, ← hs]
  exact h4.set s _

theorem fld_graph (a b c : Option Addr) (n1 n2 n3 n4 n5 n6 : Nat) : ∀ w', (Instr.field 26 (.agg #[.slice a n1 n2, .slice b n3 n4, .slice c n5 n6]) 0).run Tryd.prog w' = .ok (.slice a n1 n2) w' := fun _ => by kernel_rfl
/-! the last edge's lists are put to nil -/
def cl1 (x : EdA) : EdA := ((x.1.1, [], x.1.2.2.1, x.1.2.2.2.1, x.1.2.2.2.2.1, x.1.2.2.2.2.2.1, x.1.2.2.2.2.2.2), x.2.1, (none, 0), x.2.2.2.1, x.2.2.2.2)
def cl2 (x : EdA) : EdA := ((x.1.1, x.1.2.1, [], x.1.2.2.2.1, x.1.2.2.2.2.1, x.1.2.2.2.2.2.1, x.1.2.2.2.2.2.2), x.2.1, x.2.2.1, (none, 0), x.2.2.2.2)
def cl3 (x : EdA) : EdA := ((x.1.1, x.1.2.1, x.1.2.2.1, [], x.1.2.2.2.2.1, x.1.2.2.2.2.2.1, x.1.2.2.2.2.2.2), x.2.1, x.2.2.1, x.2.2.2.1, (none, 0))
def cl (x : EdA) : EdA := cl3 (cl2 (cl1 x))
theorem cl_oe (q i j : Nat) {x : EdA} (h : x.1 = oe q i j) : (cl x).1 = oz i := by
  show (x.1.1, ([] : Ws), ([] : Ws), ([] : Ws), x.1.2.2.2.2.1, x.1.2.2.2.2.2.1, x.1.2.2.2.2.2.2) = oz i
  rw [h]; rfl
def w3s (w : World) (ge p : Nat) : World := ((w.setCell ⟨ge, p * 7 + 1, none⟩ (.slice none 0 0)).setCell ⟨ge, p * 7 + 2, none⟩ (.slice none 0 0)).setCell ⟨ge, p * 7 + 3, none⟩ (.slice none 0 0)
theorem w3s_facts {w0 w : World} {B ge cap p G : Nat} {fs : List EdA} {x : EdA} {cs : Array Value} (hown : w.ownsRow B 38 7 (.slice (some ⟨ge, 0, none⟩) fs.length cap) fs.length (lay ev fs)) (hx : fs[p]? = some x) (hE : ∀ z ∈ fs, EdR w B z) (q : Q w0 w) (hge : w0.heap.size ≤ ge) (hG : Blk w G cs 26) :
    (w3s w ge p).ownsRow B 38 7 (.slice (some ⟨ge, 0, none⟩) (fs.set p (cl x)).length cap) (fs.set p (cl x)).length (lay ev (fs.set p (cl x))) ∧ (∀ z ∈ fs.set p (cl x), EdRd (w3s w ge p) z) ∧ Q w0 (w3s w ge p) ∧ Blk (w3s w ge p) G cs 26 := by
  have hp : p < fs.length := (List.getElem?_eq_some_iff.1 hx).1
  have hne : G ≠ ge := (hG.row hown (by decide) ge rfl).symm
  have o1 := own_set ev_len hown p 1 x (cl1 x) (.slice none 0 0) hx (by decide) rfl
  have o2 := own_set ev_len o1 p 2 (cl1 x) (cl2 (cl1 x)) (.slice none 0 0) (by rw [List.getElem?_set, if_pos rfl, if_pos hp]) (by decide) rfl
  rw [List.set_set] at o2
  have o3 := own_set ev_len o2 p 3 (cl2 (cl1 x)) (cl x) (.slice none 0 0) (by rw [List.getElem?_set, if_pos rfl, if_pos hp]) (by decide) rfl
  rw [List.set_set] at o3
  have hfr : Fr (fun k => k = ge) w (w3s w ge p) := ((Fr.set w ge _ _).trans (Fr.set _ ge _ _)).trans (Fr.set _ ge _ _)
  have hR : ∀ z ∈ fs, EdRd (w3s w ge p) z := fun z hz => ((hE z hz).fr hfr (fun k hk e => (hE z hz).row hown (by decide) k hk (by rw [e]; rfl))).rd
  refine ⟨?_, ?_, ((q.setHi hge _ _).setHi hge _ _).setHi hge _ _, hG.fr hfr hne⟩
  · show World.ownsRow _ _ _ _ (.slice _ (fs.set p (cl x)).length cap) (fs.set p (cl x)).length _
    rw [List.length_set]; exact o3
  · intro z hz
    rcases List.mem_or_eq_of_mem_set hz with h | rfl
    · exact hR z h
    · exact ⟨(hR x (List.mem_of_getElem? hx)).a, Or.inl rfl, Or.inl rfl, Or.inl rfl⟩

/-- What each of the three stores meets. -/
structure St3 (w : World) (ge p G : Nat) (v1 v2 v3 : Value) (cs : Array Value) : Prop where
  f1 : w.frozen? ⟨ge, p * 7 + 1, none⟩ = false
  c1 : w.cell? ⟨ge, p * 7 + 1, none⟩ = some v1
  b1 : Blk (w.setCell ⟨ge, p * 7 + 1, none⟩ (.slice none 0 0)) G cs 26
  f2 : (w.setCell ⟨ge, p * 7 + 1, none⟩ (.slice none 0 0)).frozen? ⟨ge, p * 7 + 2, none⟩ = false
  c2 : (w.setCell ⟨ge, p * 7 + 1, none⟩ (.slice none 0 0)).cell? ⟨ge, p * 7 + 2, none⟩ = some v2
  b2 : Blk ((w.setCell ⟨ge, p * 7 + 1, none⟩ (.slice none 0 0)).setCell ⟨ge, p * 7 + 2, none⟩ (.slice none 0 0)) G cs 26
  f3 : ((w.setCell ⟨ge, p * 7 + 1, none⟩ (.slice none 0 0)).setCell ⟨ge, p * 7 + 2, none⟩ (.slice none 0 0)).frozen? ⟨ge, p * 7 + 3, none⟩ = false
  c3 : ((w.setCell ⟨ge, p * 7 + 1, none⟩ (.slice none 0 0)).setCell ⟨ge, p * 7 + 2, none⟩ (.slice none 0 0)).cell? ⟨ge, p * 7 + 3, none⟩ = some v3
theorem st3_of {w : World} {B ge cap p G : Nat} {fs : List EdA} {x : EdA} {cs : Array Value} (hown : w.ownsRow B 38 7 (.slice (some ⟨ge, 0, none⟩) fs.length cap) fs.length (lay ev fs)) (hx : fs[p]? = some x) (hG : Blk w G cs 26) : St3 w ge p G x.v2 x.v3 x.v4 cs := by
  have hp : p < fs.length := (List.getElem?_eq_some_iff.1 hx).1
  have hne : G ≠ ge := (hG.row hown (by decide) ge rfl).symm
  have o1 := own_set ev_len hown p 1 x (cl1 x) (.slice none 0 0) hx (by decide) rfl
  have hx1 : (fs.set p (cl1 x))[p]? = some (cl1 x) := by rw [List.getElem?_set, if_pos rfl, if_pos hp]
  have o2 := own_set ev_len o1 p 2 (cl1 x) (cl2 (cl1 x)) (.slice none 0 0) hx1 (by decide) rfl
  rw [List.set_set] at o2
  have hx2 : (fs.set p (cl2 (cl1 x)))[p]? = some (cl2 (cl1 x)) := by rw [List.getElem?_set, if_pos rfl, if_pos hp]
  obtain ⟨g0, e0, _, _, z0, k0⟩ := own_some ev_len (by decide) (by omega) hown
  obtain ⟨g1, e1, _, _, z1, k1⟩ := own_some ev_len (by decide) (by omega) o1
  obtain ⟨g2, e2, _, _, z2, k2⟩ := own_some ev_len (by decide) (by omega) o2
  cases e0
  cases e1
  cases e2
  exact ⟨z0 _, k0 p 1 x _ hx (by decide) rfl, hG.other hne _ _, z1 _, k1 p 2 _ _ hx1 (by decide) rfl, (hG.other hne _ _).other hne _ _, z2 _, k2 p 3 _ _ hx2 (by decide) rfl⟩

set_option maxRecDepth 20000 in
set_option maxHeartbeats 16000000 in
theorem orderCycles_any (a : Int) (_ : (Lit.int .i64 a).wf = true) (b : Int) (_ : (Lit.int .i64 b).wf = true) (w : World) :
    Calls Tryd.prog 4 #[.int .i64 a, .int .i64 b] w fun e w' => e = .returned (.bool true) ∧ Q w w' := by
  obtain ⟨i0, hi, hz0, hz1, hz2⟩ : ∃ i0, Tryd.prog.info? 38 = some i0 ∧ i0.zero = some (.agg #[.slice none 0 0, .slice none 0 0, .slice none 0 0, .slice none 0 0, .string ByteArray.empty, .bool false, .string ByteArray.empty]) ∧ i0.size = 7 ∧ i0.bytes = 136 := ⟨_, rfl, rfl, rfl, rfl⟩
  have h15 := and15 a
  obtain ⟨d, hd⟩ : ∃ d : Nat, a % 16 = (d : Int) := ⟨(a % 16).toNat, by omega⟩
  have hd16 : d < 16 := by omega
  rw [hd] at h15
  clear hd
  obtain ⟨k, hk⟩ : ∃ k : Nat, 1 + (d : Int) = (k : Int) := ⟨d + 1, by omega⟩
  have hk0 : 0 < k := by omega
  have hk16 : k ≤ 16 := by omega
  have HK := hide hk
  clear hk
  go_enter Tryd.func4, Tryd.ntmps4
  go_wp2_with fail
  refine (oawake_any w).mono ?_
  rintro e w1 ⟨rfl, q1⟩
  have HB0 := hide (Blk.new w1 #[.slice none 0 0, .slice none 0 0, .slice none 0 0] 26)
  have qa := (Q.refl w1).alloc (.cells #[.slice none 0 0, .slice none 0 0, .slice none 0 0] 26)
  have hlt0 : w1.heap.size < (w1.alloc (.cells #[.slice none 0 0, .slice none 0 0, .slice none 0 0] 26)).heap.size := (unhide HB0).hi
  go_wp2_with fail
  rw [HK.out]
  generalize w1.alloc (.cells #[.slice none 0 0, .slice none 0 0, .slice none 0 0] 26) = wb at *
  go_loopw [7] (fun i wr => ∃ (m : Nat) (fs : List EdA) (ao : Option Addr) (cap : Nat), m ≤ k ∧ i = .int .i64 m ∧ fs.length ≤ m ∧ Blk wr w1.heap.size #[.slice ao fs.length cap, .slice none 0 0, .slice none 0 0] 26 ∧ wr.ownsRow wb.heap.size 38 7 (.slice ao fs.length cap) fs.length (lay ev fs) ∧ Q w1 wr ∧ wb.heap.size ≤ wr.heap.size ∧ Hid (fs.map Prod.fst = (ocR k b).take m ∧ ∀ y ∈ fs, EdR wr wb.heap.size y)) (fun i _ => k - (intOf i).toNat)
  case atStart => exact ⟨0, [], none, 0, Nat.zero_le _, rfl, Nat.le_refl _, unhide HB0, World.ownsRow_nil _ _ _ _, qa, Nat.le_refl _, ⟨rfl, fun y hy => by cases hy⟩⟩
  case round =>
    obtain ⟨m, fs, ao, cap, hm, rfl, hfl, hblk, hown, hq, hbs, HY⟩ := hrel
    have HBK := hide hblk
    have x0 : wr.cell? ⟨w1.heap.size, 0, none⟩ = some (.slice ao fs.length cap) := hblk.cell 0 rfl
    clear hblk
    by_cases hlt : m < k
    · obtain ⟨j, hj⟩ : ∃ j : Nat, (m + 1) % k = j := ⟨_, rfl⟩
      have hj16 : j < 16 := by have := Nat.mod_lt (m + 1) hk0; omega
      have hrem : ((m : Int) + 1).tmod (k : Int) = (j : Int) := by
        rw [Int.tmod_eq_emod_of_nonneg (by omega), ← hj]; push_cast; rfl
      have hkn : ¬ ((k : Int) = 0) := by omega
      obtain ⟨c, hcc, hcv⟩ := str_int (97 + (j : Int)) (by omega) (by omega)
      obtain ⟨c', hcc', hcv'⟩ := str_int (97 + (m : Int)) (by omega) (by omega)
      have hcv2 : ∀ ob ob2, (convert 36 9 (.slice (some ⟨wr.heap.size + 1 + 1, 0, none⟩) 1 1)).run Tryd.prog (((wr.alloc ob).alloc ob2).alloc (.cells #[.int .u8 (97 + (m : Int))] 5)) = .ok (.string ⟨#[c']⟩) (((wr.alloc ob).alloc ob2).alloc (.cells #[.int .u8 (97 + (m : Int))] 5)) := fun ob ob2 => by
        have := hcv' ((wr.alloc ob).alloc ob2); rwa [size_alloc, size_alloc] at this
      clear hcv'
      have HCC := hide hcc
      have HCC' := hide hcc'
      have HJ := hide hj
      clear hj hcc hcc'
      go_upto_region 10 with fail
      change Code.wp _ _ _ _ (al wr (ocL wr.heap.size (97 + (j : Int)) (97 + (m : Int)) (⟨#[111]⟩ ++ ⟨#[c]⟩) (⟨#[111]⟩ ++ ⟨#[c']⟩)))
      have hal := fun i x hx => al_blk (ocL wr.heap.size (97 + (j : Int)) (97 + (m : Int)) (⟨#[111]⟩ ++ ⟨#[c]⟩) (⟨#[111]⟩ ++ ⟨#[c']⟩)) wr i x hx
      have a1 := hal 1 _ rfl
      have a3 := hal 3 _ rfl
      have a4 := hal 4 _ rfl
      have qc := al_q (ocL wr.heap.size (97 + (j : Int)) (97 + (m : Int)) (⟨#[111]⟩ ++ ⟨#[c]⟩) (⟨#[111]⟩ ++ ⟨#[c']⟩)) wr
      clear hal hcv hcv2
      generalize al wr (ocL wr.heap.size (97 + (j : Int)) (97 + (m : Int)) (⟨#[111]⟩ ++ ⟨#[c]⟩) (⟨#[111]⟩ ++ ⟨#[c']⟩)) = wc at *
      have a1 : Blk wc (wr.heap.size + 1) #[.string ⟨(ocN j).toArray⟩] 9 := by rw [← ocN_eq (unhide HCC)]; exact a1
      have a3 : Blk wc (wr.heap.size + 1 + 1 + 1) #[.string ⟨(ocN m).toArray⟩] 9 := by rw [← ocN_eq (unhide HCC')]; exact a3
      obtain ⟨n, hn⟩ : ∃ n, wr.heap.size = n := ⟨_, rfl⟩
      have HN := hide hn
      rw [hn] at a1 a3 a4 hbs ⊢
      have HA := hide (fun q s hs => oc_after (q := q) (i := m) (j := j) hn hbs qc a1 a3 a4 s hs)
      have f4 : ∀ s, wc.frozen? ⟨n + 1 + 1 + 1 + 1, s, none⟩ = false := fun s => a4.frz s
      have e1 : wc.cell? ⟨n + 1 + 1 + 1 + 1, 1, none⟩ = some (.slice none 0 0) := a4.cell 1 rfl
      have e2 : wc.cell? ⟨n + 1 + 1 + 1 + 1, 2, none⟩ = some (.slice none 0 0) := a4.cell 2 rfl
      have e3 : wc.cell? ⟨n + 1 + 1 + 1 + 1, 3, none⟩ = some (.slice none 0 0) := a4.cell 3 rfl
      have h3 := and3 (b / 2 ^ m)
      obtain ⟨q, hqv⟩ : ∃ q : Nat, (b / 2 ^ m) % 4 = (q : Int) := ⟨((b / 2 ^ m) % 4).toNat, by omega⟩
      have HOK : Hid (ocK b m = q) := by show ((b / 2 ^ m) % 4).toNat = q; rw [hqv]; rfl
      rw [hqv] at h3
      have hm16 : m ≤ 64 := by omega
      clear hqv a1 a3 a4 hn
      have hcase : q = 0 ∨ q = 1 ∨ (((q : Int) == 0) = false ∧ ((q : Int) == 1) = false ∧ ¬ q = 0 ∧ ¬ q = 1) := by
        by_cases g0 : q = 0
        · exact Or.inl g0
        by_cases g1 : q = 1
        · exact Or.inr (Or.inl g1)
        · exact Or.inr (Or.inr ⟨by simp; omega, by simp; omega, g0, g1⟩)
      rcases hcase with rfl | rfl | ⟨g0, g1, g2, g3⟩
      · go_upto_region 16 with fail
        obtain ⟨Y, y1, y2, y3, y4⟩ := unhide HA 0 1 rfl
        have HY1 : Hid (Y.1 = oe (ocK b m) m j) := by show _ = _; rw [HOK.out]; exact y1
        generalize wc.setCell ⟨n + 1 + 1 + 1 + 1, 1, none⟩ (.slice (some ⟨n + 1, 0, none⟩) 1 1) = wd at *
        clear HA f4 e1 e2 e3 h3 y1
        have HD := hide y2
        have HDR := hide y3
        have d0 := y2.cell 0 rfl
        have d1 := y2.cell 1 rfl
        have d2 := y2.cell 2 rfl
        have d3 := y2.cell 3 rfl
        have d4 := y2.cell 4 rfl
        have d5 := y2.cell 5 rfl
        have d6 := y2.cell 6 rfl
        have x1 : wd.cell? ⟨w1.heap.size, 0, none⟩ = some (.slice ao fs.length cap) := ((unhide HBK).q y4).cell 0 rfl
        have qy := y4.alloc (.cells (ev Y).toArray 38)
        have HEY := hide (EdR.q'' y3 ((Q.refl wd).alloc (.cells (ev Y).toArray 38)))
        have HSY := hide (SrcRow.row ev_len (by decide) (rowB ev_len (Blk.new wd (ev Y).toArray 38) [Y] rfl))
        have HOW := hide (own_q hown qy)
        have hqs : wb.heap.size ≤ (wd.alloc (.cells (ev Y).toArray 38)).heap.size := by have := qy.size; rw [unhide HN] at this; omega
        have HFS : Hid (∀ z ∈ fs ++ [Y], EdR (wd.alloc (.cells (ev Y).toArray 38)) wb.heap.size z) := by
          show ∀ z ∈ fs ++ [Y], _
          intro z hz
          rcases List.mem_append.1 hz with h | h
          · exact (HY.out.2 z h).q'' qy
          · simp only [List.mem_cons, List.not_mem_nil, or_false] at h; rw [h]; exact unhide HEY
        have HMP : Hid ((fs ++ [Y]).map Prod.fst = (ocR k b).take (m + 1)) := by
          show _ = _
          rw [List.map_append, HY.out.1, List.take_add_one, oc_at hlt, unhide HJ]
          show _ ++ [Y.1] = _
          rw [unhide HY1]; rfl
        clear hown y3 HEY
        go_wp2_with (at_builtin; refine wpList_append_row rfl _ _ 22 rfl wb.heap.size 38 i0 (.agg #[.slice none 0 0, .slice none 0 0, .slice none 0 0, .slice none 0 0, .string ByteArray.empty, .bool false, .string ByteArray.empty]) 7 136 Tryd.underlying22 hi hz0 hz1 hz2 rfl (by decide) ao fs.length cap (lay ev fs) rfl (unhide HOW) (some ⟨wd.heap.size, 0, none⟩) 1 1 (lay ev [Y]) rfl (unhide HSY) (one_layE _) (by unfold maxLen; omega) (by omega) hqs ?_)
        intro ao3 cap3 w3 own3 grow3
        have q3 : Q w1 w3 := Below.grown (hq.trans qy) grow3 (Nat.le_trans (Nat.le_of_lt hlt0) hqs) (fun r hr => Nat.le_trans (Nat.le_of_lt hlt0) ((unhide HOW).lt r hr).1)
        have bG3 := ((unhide HBK).q qy).fr (Fr.grown grow3) (fun hx => ((unhide HBK).q qy).row (unhide HOW) (by decide) _ hx rfl)
        have HO3 : w3.ownsRow wb.heap.size 38 7 (.slice ao3 (fs ++ [Y]).length cap3) (fs ++ [Y]).length (lay ev (fs ++ [Y])) := by
          rw [List.length_append, lay_app]; exact own3
        have HE3 : ∀ z ∈ fs ++ [Y], EdR w3 wb.heap.size z := fun z hz => (HFS.out z hz).fr (Fr.grown grow3) (fun r hr hp => (HFS.out z hz).row (unhide HOW) (by decide) r hr hp)
        have hs3 : wb.heap.size ≤ w3.heap.size := Nat.le_trans hqs grow3.size
        have hl3 : (fs ++ [Y]).length = fs.length + 1 := by simp
        have HB4 := hide (bG3.set 0 (.slice ao3 (fs.length + 1) cap3))
        have HO4 := hide (own_fr HO3 (Fr.set w3 w1.heap.size 0 (.slice ao3 (fs.length + 1) cap3)) (fun r hr => bG3.row HO3 (by decide) r hr))
        have HE4 : Hid (∀ z ∈ fs ++ [Y], EdR (w3.setCell ⟨w1.heap.size, 0, none⟩ (.slice ao3 (fs.length + 1) cap3)) wb.heap.size z) := fun z hz => (HE3 z hz).fr (Fr.set _ _ _ _) (fun r hr => (HE3 z hz).blk bG3 (by decide) r hr)
        have q4 : Q w1 (w3.setCell ⟨w1.heap.size, 0, none⟩ (.slice ao3 (fs.length + 1) cap3)) := q3.setHi (Nat.le_refl _) 0 _
        have hs4 : wb.heap.size ≤ (w3.setCell ⟨w1.heap.size, 0, none⟩ (.slice ao3 (fs.length + 1) cap3)).heap.size := by simpa [World.setCell] using hs3
        have HL3 := hide hl3
        have frz3 := bG3.frz 0
        have cH3 : w3.cell? ⟨w1.heap.size, 0, none⟩ = some (.slice ao fs.length cap) := bG3.cell 0 rfl
        clear own3 grow3 HO3 HE3 HFS HOW HSY q3 hs3 hqs qy hl3 bG3 HY
        go_wp2
        go_roundw
        case rel =>
          refine ⟨m + 1, fs ++ [Y], ao3, cap3, by omega, by go_num, ?_, ?_, unhide HO4, q4, hs4, ⟨unhide HMP, unhide HE4⟩⟩
          · rw [unhide HL3]; omega
          · rw [unhide HL3]; exact unhide HB4
        case measure => simp [intOf]; omega
      · go_upto_region 16 with fail
        obtain ⟨Y, y1, y2, y3, y4⟩ := unhide HA 1 2 rfl
        have HY1 : Hid (Y.1 = oe (ocK b m) m j) := by show _ = _; rw [HOK.out]; exact y1
        generalize wc.setCell ⟨n + 1 + 1 + 1 + 1, 2, none⟩ (.slice (some ⟨n + 1, 0, none⟩) 1 1) = wd at *
        clear HA f4 e1 e2 e3 h3 y1
        have HD := hide y2
        have HDR := hide y3
        have d0 := y2.cell 0 rfl
        have d1 := y2.cell 1 rfl
        have d2 := y2.cell 2 rfl
        have d3 := y2.cell 3 rfl
        have d4 := y2.cell 4 rfl
        have d5 := y2.cell 5 rfl
        have d6 := y2.cell 6 rfl
        have x1 : wd.cell? ⟨w1.heap.size, 0, none⟩ = some (.slice ao fs.length cap) := ((unhide HBK).q y4).cell 0 rfl
        have qy := y4.alloc (.cells (ev Y).toArray 38)
        have HEY := hide (EdR.q'' y3 ((Q.refl wd).alloc (.cells (ev Y).toArray 38)))
        have HSY := hide (SrcRow.row ev_len (by decide) (rowB ev_len (Blk.new wd (ev Y).toArray 38) [Y] rfl))
        have HOW := hide (own_q hown qy)
        have hqs : wb.heap.size ≤ (wd.alloc (.cells (ev Y).toArray 38)).heap.size := by have := qy.size; rw [unhide HN] at this; omega
        have HFS : Hid (∀ z ∈ fs ++ [Y], EdR (wd.alloc (.cells (ev Y).toArray 38)) wb.heap.size z) := by
          show ∀ z ∈ fs ++ [Y], _
          intro z hz
          rcases List.mem_append.1 hz with h | h
          · exact (HY.out.2 z h).q'' qy
          · simp only [List.mem_cons, List.not_mem_nil, or_false] at h; rw [h]; exact unhide HEY
        have HMP : Hid ((fs ++ [Y]).map Prod.fst = (ocR k b).take (m + 1)) := by
          show _ = _
          rw [List.map_append, HY.out.1, List.take_add_one, oc_at hlt, unhide HJ]
          show _ ++ [Y.1] = _
          rw [unhide HY1]; rfl
        clear hown y3 HEY
        go_wp2_with (at_builtin; refine wpList_append_row rfl _ _ 22 rfl wb.heap.size 38 i0 (.agg #[.slice none 0 0, .slice none 0 0, .slice none 0 0, .slice none 0 0, .string ByteArray.empty, .bool false, .string ByteArray.empty]) 7 136 Tryd.underlying22 hi hz0 hz1 hz2 rfl (by decide) ao fs.length cap (lay ev fs) rfl (unhide HOW) (some ⟨wd.heap.size, 0, none⟩) 1 1 (lay ev [Y]) rfl (unhide HSY) (one_layE _) (by unfold maxLen; omega) (by omega) hqs ?_)
        intro ao3 cap3 w3 own3 grow3
        have q3 : Q w1 w3 := Below.grown (hq.trans qy) grow3 (Nat.le_trans (Nat.le_of_lt hlt0) hqs) (fun r hr => Nat.le_trans (Nat.le_of_lt hlt0) ((unhide HOW).lt r hr).1)
        have bG3 := ((unhide HBK).q qy).fr (Fr.grown grow3) (fun hx => ((unhide HBK).q qy).row (unhide HOW) (by decide) _ hx rfl)
        have HO3 : w3.ownsRow wb.heap.size 38 7 (.slice ao3 (fs ++ [Y]).length cap3) (fs ++ [Y]).length (lay ev (fs ++ [Y])) := by
          rw [List.length_append, lay_app]; exact own3
        have HE3 : ∀ z ∈ fs ++ [Y], EdR w3 wb.heap.size z := fun z hz => (HFS.out z hz).fr (Fr.grown grow3) (fun r hr hp => (HFS.out z hz).row (unhide HOW) (by decide) r hr hp)
        have hs3 : wb.heap.size ≤ w3.heap.size := Nat.le_trans hqs grow3.size
        have hl3 : (fs ++ [Y]).length = fs.length + 1 := by simp
        have HB4 := hide (bG3.set 0 (.slice ao3 (fs.length + 1) cap3))
        have HO4 := hide (own_fr HO3 (Fr.set w3 w1.heap.size 0 (.slice ao3 (fs.length + 1) cap3)) (fun r hr => bG3.row HO3 (by decide) r hr))
        have HE4 : Hid (∀ z ∈ fs ++ [Y], EdR (w3.setCell ⟨w1.heap.size, 0, none⟩ (.slice ao3 (fs.length + 1) cap3)) wb.heap.size z) := fun z hz => (HE3 z hz).fr (Fr.set _ _ _ _) (fun r hr => (HE3 z hz).blk bG3 (by decide) r hr)
        have q4 : Q w1 (w3.setCell ⟨w1.heap.size, 0, none⟩ (.slice ao3 (fs.length + 1) cap3)) := q3.setHi (Nat.le_refl _) 0 _
        have hs4 : wb.heap.size ≤ (w3.setCell ⟨w1.heap.size, 0, none⟩ (.slice ao3 (fs.length + 1) cap3)).heap.size := by simpa [World.setCell] using hs3
        have HL3 := hide hl3
        have frz3 := bG3.frz 0
        have cH3 : w3.cell? ⟨w1.heap.size, 0, none⟩ = some (.slice ao fs.length cap) := bG3.cell 0 rfl
        clear own3 grow3 HO3 HE3 HFS HOW HSY q3 hs3 hqs qy hl3 bG3 HY
        go_wp2
        go_roundw
        case rel =>
          refine ⟨m + 1, fs ++ [Y], ao3, cap3, by omega, by go_num, ?_, ?_, unhide HO4, q4, hs4, ⟨unhide HMP, unhide HE4⟩⟩
          · rw [unhide HL3]; omega
          · rw [unhide HL3]; exact unhide HB4
        case measure => simp [intOf]; omega
      · go_upto_region 16 with fail
        obtain ⟨Y, y1, y2, y3, y4⟩ := unhide HA q 3 (by rw [if_neg g2, if_neg g3])
        have HY1 : Hid (Y.1 = oe (ocK b m) m j) := by show _ = _; rw [HOK.out]; exact y1
        generalize wc.setCell ⟨n + 1 + 1 + 1 + 1, 3, none⟩ (.slice (some ⟨n + 1, 0, none⟩) 1 1) = wd at *
        clear HA f4 e1 e2 e3 h3 y1
        have HD := hide y2
        have HDR := hide y3
        have d0 := y2.cell 0 rfl
        have d1 := y2.cell 1 rfl
        have d2 := y2.cell 2 rfl
        have d3 := y2.cell 3 rfl
        have d4 := y2.cell 4 rfl
        have d5 := y2.cell 5 rfl
        have d6 := y2.cell 6 rfl
        have x1 : wd.cell? ⟨w1.heap.size, 0, none⟩ = some (.slice ao fs.length cap) := ((unhide HBK).q y4).cell 0 rfl
        have qy := y4.alloc (.cells (ev Y).toArray 38)
        have HEY := hide (EdR.q'' y3 ((Q.refl wd).alloc (.cells (ev Y).toArray 38)))
        have HSY := hide (SrcRow.row ev_len (by decide) (rowB ev_len (Blk.new wd (ev Y).toArray 38) [Y] rfl))
        have HOW := hide (own_q hown qy)
        have hqs : wb.heap.size ≤ (wd.alloc (.cells (ev Y).toArray 38)).heap.size := by have := qy.size; rw [unhide HN] at this; omega
        have HFS : Hid (∀ z ∈ fs ++ [Y], EdR (wd.alloc (.cells (ev Y).toArray 38)) wb.heap.size z) := by
          show ∀ z ∈ fs ++ [Y], _
          intro z hz
          rcases List.mem_append.1 hz with h | h
          · exact (HY.out.2 z h).q'' qy
          · simp only [List.mem_cons, List.not_mem_nil, or_false] at h; rw [h]; exact unhide HEY
        have HMP : Hid ((fs ++ [Y]).map Prod.fst = (ocR k b).take (m + 1)) := by
          show _ = _
          rw [List.map_append, HY.out.1, List.take_add_one, oc_at hlt, unhide HJ]
          show _ ++ [Y.1] = _
          rw [unhide HY1]; rfl
        clear hown y3 HEY
        go_wp2_with (at_builtin; refine wpList_append_row rfl _ _ 22 rfl wb.heap.size 38 i0 (.agg #[.slice none 0 0, .slice none 0 0, .slice none 0 0, .slice none 0 0, .string ByteArray.empty, .bool false, .string ByteArray.empty]) 7 136 Tryd.underlying22 hi hz0 hz1 hz2 rfl (by decide) ao fs.length cap (lay ev fs) rfl (unhide HOW) (some ⟨wd.heap.size, 0, none⟩) 1 1 (lay ev [Y]) rfl (unhide HSY) (one_layE _) (by unfold maxLen; omega) (by omega) hqs ?_)
        intro ao3 cap3 w3 own3 grow3
        have q3 : Q w1 w3 := Below.grown (hq.trans qy) grow3 (Nat.le_trans (Nat.le_of_lt hlt0) hqs) (fun r hr => Nat.le_trans (Nat.le_of_lt hlt0) ((unhide HOW).lt r hr).1)
        have bG3 := ((unhide HBK).q qy).fr (Fr.grown grow3) (fun hx => ((unhide HBK).q qy).row (unhide HOW) (by decide) _ hx rfl)
        have HO3 : w3.ownsRow wb.heap.size 38 7 (.slice ao3 (fs ++ [Y]).length cap3) (fs ++ [Y]).length (lay ev (fs ++ [Y])) := by
          rw [List.length_append, lay_app]; exact own3
        have HE3 : ∀ z ∈ fs ++ [Y], EdR w3 wb.heap.size z := fun z hz => (HFS.out z hz).fr (Fr.grown grow3) (fun r hr hp => (HFS.out z hz).row (unhide HOW) (by decide) r hr hp)
        have hs3 : wb.heap.size ≤ w3.heap.size := Nat.le_trans hqs grow3.size
        have hl3 : (fs ++ [Y]).length = fs.length + 1 := by simp
        have HB4 := hide (bG3.set 0 (.slice ao3 (fs.length + 1) cap3))
        have HO4 := hide (own_fr HO3 (Fr.set w3 w1.heap.size 0 (.slice ao3 (fs.length + 1) cap3)) (fun r hr => bG3.row HO3 (by decide) r hr))
        have HE4 : Hid (∀ z ∈ fs ++ [Y], EdR (w3.setCell ⟨w1.heap.size, 0, none⟩ (.slice ao3 (fs.length + 1) cap3)) wb.heap.size z) := fun z hz => (HE3 z hz).fr (Fr.set _ _ _ _) (fun r hr => (HE3 z hz).blk bG3 (by decide) r hr)
        have q4 : Q w1 (w3.setCell ⟨w1.heap.size, 0, none⟩ (.slice ao3 (fs.length + 1) cap3)) := q3.setHi (Nat.le_refl _) 0 _
        have hs4 : wb.heap.size ≤ (w3.setCell ⟨w1.heap.size, 0, none⟩ (.slice ao3 (fs.length + 1) cap3)).heap.size := by simpa [World.setCell] using hs3
        have HL3 := hide hl3
        have frz3 := bG3.frz 0
        have cH3 : w3.cell? ⟨w1.heap.size, 0, none⟩ = some (.slice ao fs.length cap) := bG3.cell 0 rfl
        clear own3 grow3 HO3 HE3 HFS HOW HSY q3 hs3 hqs qy hl3 bG3 HY
        go_wp2
        go_roundw
        case rel =>
          refine ⟨m + 1, fs ++ [Y], ao3, cap3, by omega, by go_num, ?_, ?_, unhide HO4, q4, hs4, ⟨unhide HMP, unhide HE4⟩⟩
          · rw [unhide HL3]; omega
          · rw [unhide HL3]; exact unhide HB4
        case measure => simp [intOf]; omega
    · have hmk : m = k := by omega
      obtain ⟨p, hp⟩ : ∃ p, k = p + 1 := ⟨k - 1, by omega⟩
      have hfm : fs.map Prod.fst = ocR k b := by
        rw [HY.out.1, List.take_of_length_le (by rw [oc_len]; omega)]
      have hfk : fs.length = k := by
        have := congrArg List.length hfm
        rwa [List.length_map, oc_len] at this
      have hez : ∀ e ∈ ocR k b, EdZ e := by
        intro e he
        obtain ⟨i, hi, rfl⟩ := List.getElem_of_mem he
        rw [oc_len] at hi
        have := oc_at (n := b) hi
        rw [List.getElem?_eq_getElem (by rw [oc_len]; exact hi)] at this
        rw [Option.some.inj this]
        exact oe_z (by omega) (by have := Nat.mod_lt (i + 1) hk0; omega)
      have HSG : Hid (OSays wr (.agg #[.slice ao fs.length cap, .slice none 0 0, .slice none 0 0]) (ocR k b, [], [])) := by
        have hr : GfR wr (ocR k b, [], []) fs ao none none := ⟨RowG.own ev_len (by decide) hown, hfm, Or.inl rfl, Or.inl rfl, fun z hz => (HY.out.2 z hz).rd, ghz_es hez (by rw [oc_len]; omega)⟩
        exact hr.osays cap 0 0 (Nat.le_refl 0) (by decide)
      obtain ⟨xl, hxl⟩ : ∃ xl, fs[p]? = some xl := ⟨_, List.getElem?_eq_getElem (by omega)⟩
      have hxq : xl.1 = oe (ocK b p) p ((p + 1) % k) := by
        have h1 : (fs.map Prod.fst)[p]? = some xl.1 := by rw [List.getElem?_map, hxl]; rfl
        rw [hfm, oc_at (by omega)] at h1
        exact (Option.some.inj h1).symm
      have hset : (fs.set p (cl xl)).map Prod.fst = ocO k b := by
        rw [List.map_set, hfm, cl_oe _ _ _ hxq]
        unfold ocO
        rw [hp]; rfl
      obtain ⟨ge, rfl, hge, hge2, hfz, hcl⟩ := own_some ev_len (by decide) (by omega) hown
      have HX := hide hxl
      have HSET := hide hset
      have HOW := hide hown
      have HEZ := hide hez
      have HEF := hide HY.out.2
      have H1001 := hide ((unhide HSG).at (oc_cyc b hk16 hk0) (orL_empty (by rw [oc_cyc b hk16 hk0]; decide)) wr (Q.refl _))
      have x1 : wr.cell? ⟨w1.heap.size, 1, none⟩ = some (.slice none 0 0) := (unhide HBK).cell 1 rfl
      have x2 : wr.cell? ⟨w1.heap.size, 2, none⟩ = some (.slice none 0 0) := (unhide HBK).cell 2 rfl
      have HP := hide hp
      have HFK := hide hfk
      have hpk : p < k := by omega
      have hpf : p < fs.length := by omega
      have hkp : (k : Int) - 1 = (p : Int) := by omega
      have hlt2 : ¬ ((m : Int) < (k : Int)) := by omega
      clear hfm hez hxl hxq hset hown HSG hmk hp hfk hfz hcl HY
      go_wp2_with fail
      refine (unhide H1001).mono ?_
      rintro e w5 ⟨ao5, cap5, rfl, _, q5⟩
      have bG := (unhide HBK).q q5
      have own5 := own_q (unhide HOW) q5
      obtain ⟨s1, s2, s3, s4, s5, s6, s7, s8⟩ := st3_of own5 (unhide HX) bG
      obtain ⟨ow8, rd8, q8, bg8⟩ := w3s_facts own5 (unhide HX) (fun z hz => ((unhide HEF) z hz).q'' q5) (hq.trans q5) (Nat.le_trans (Nat.le_of_lt hlt0) hge) bG
      have g0 : w5.cell? ⟨w1.heap.size, 0, none⟩ = some (.slice (some ⟨ge, 0, none⟩) fs.length cap) := bG.cell 0 rfl
      have g1 := s3.cell 0 rfl
      have g2 := s6.cell 0 rfl
      have y0 := bg8.cell 0 rfl
      have y1 := bg8.cell 1 rfl
      have y2 := bg8.cell 2 rfl
      have hpI : (p : Int) < (fs.length : Int) := by omega
      have HSG8 : Hid (OSays (w3s w5 ge p) (.agg #[.slice (some ⟨ge, 0, none⟩) fs.length cap, .slice none 0 0, .slice none 0 0]) (ocO k b, [], [])) := by
        have hez : ∀ e ∈ ocO k b, EdZ e := by
          intro e he
          unfold ocO at he
          rcases List.mem_or_eq_of_mem_set he with h | h
          · exact unhide HEZ e h
          · rw [h]; exact edz_of (oz_z ⟨k - 1, by omega⟩)
        have hr : GfR (w3s w5 ge p) (ocO k b, [], []) (fs.set p (cl xl)) (some ⟨ge, 0, none⟩) none none := ⟨RowG.own ev_len (by decide) ow8, unhide HSET, Or.inl rfl, Or.inl rfl, rd8, ghz_es hez (by rw [oco_len]; omega)⟩
        have h := hr.osays cap 0 0 (Nat.le_refl 0) (by decide)
        rwa [List.length_set] at h
      have HOK8 := hide ((unhide HSG8).at (oc_row b hk16 hk0).1 (oc_row b hk16 hk0).2 _ (Q.refl _))
      unfold w3s at y0 y1 y2 HOK8 q8
      clear ow8 rd8 bg8 own5 bG s3 s6 HSG8
      go_wp2_with fail
      generalize ((w5.setCell ⟨ge, p * 7 + 1, none⟩ (.slice none 0 0)).setCell ⟨ge, p * 7 + 2, none⟩ (.slice none 0 0)).setCell ⟨ge, p * 7 + 3, none⟩ (.slice none 0 0) = w8 at *
      refine (unhide HOK8).mono ?_
      rintro e w9 ⟨ao9, cap9, rfl, own9, q9⟩
      have qw9 := q1.trans (q8.trans q9)
      have HR9 := hide (OwnI.row own9)
      have hlr : ((List.range k).reverse).length = k := by simp
      rw [hlr]
      clear own9 q9 q8 HOK8 H1001 s1 s2 s4 s5 s7 s8 g0 g1 g2 y0 y1 y2 hlr
      go_wp2_with (go_at_call 9; refine (num_any _ _).mono ?_; rintro e w10 ⟨rfl, rfl⟩)
      rename World => wz
      clear x0 x1 x2 hq hbs hlt hm hfl
      go_loop [14] (fun i => ∃ j : Nat, j ≤ k ∧ i = .int .i64 j) (fun i => k - (intOf i).toNat)
      case atStart => exact ⟨0, Nat.zero_le _, rfl⟩
      case round =>
        obtain ⟨j, hj, rfl⟩ := hrel
        by_cases hltj : j < k
        · obtain ⟨x, hx⟩ : ∃ x, p = x + j := ⟨p - j, by omega⟩
          have hrx : (List.range k).reverse[j]? = some x := by
            rw [List.getElem?_reverse (by simpa using hltj), List.length_range, List.getElem?_range (by omega)]
            congr 1; have := unhide HP; omega
          rcases unhide HR9 with he | ⟨g2, o2, rfl, hg2, hcell2⟩
          · rw [he] at hrx; simp at hrx
          have cr : wz.cell? ⟨g2, o2 + j, none⟩ = some (.int .i64 (x : Int)) := by have := hcell2 j 0 x _ hrx (by decide) rfl; simpa using this
          have hpx : (p : Int) - (j : Int) = (x : Int) := by omega
          clear hcell2 hrx hx
          go_wp2_with fail
          go_round
          case rel => exact ⟨j + 1, by omega, by go_num⟩
          case measure => simp [intOf]; omega
        · go_wp2_with fail
          refine (given_any wz).mono ?_
          rintro e w11 ⟨rfl, _, q11⟩
          have hfd := fld_graph (at0 (wz.heap.size + 9)) (at0 (wz.heap.size + 10)) (at0 (wz.heap.size + 11)) 3 3 1 1 1 1
          go_wp2_with fail
          go_ret
          exact ⟨rfl, qw9.trans q11⟩

set_option maxRecDepth 100000 in
theorem orderCycles_lifted (os : Os) (started : os.Started) (H : Type) (enc : TypeId × Value → H) :
    ReturnsInHanded {} Tryd.checked os 4 .any (fun w args => (Rows.orderCyclesSpec.pre enc Tryd.prog Tryd.f4 [] false w args ∧ laidMetH Tryd.prog Rows.orderCyclesRow.laid w) ∧ sizedMet enc Tryd.prog Tryd.f4 (OpenSpec.ofChange Rows.orderCyclesSpec) false w args) (Rows.orderCyclesSpec.post enc Tryd.prog Tryd.f4 false true false false) := by
  refine returnsInHanded_of_change_and (C := Tryd.checked) (X := fun w _ => laidMetH Tryd.prog Rows.orderCyclesRow.laid w) (fun _ _ _ hh h => h.of_heap hh) Tryd.own started (by kernel_rfl) Tryd.func4
    (ChangeSpec.witness_shaped (enc := enc) (C := Tryd.checked) (os := os) (X := fun w _ => laidMetH Tryd.prog Rows.orderCyclesRow.laid w) false (World.laidAll Tryd.prog os Rows.orderCyclesRow.laid) #[.int .i64 0, .int .i64 0] 8 (World.laidAll_os _ _ _)
      (World.shaped_of_ZipB (by kernel_rfl) (by kernel_rfl)) (by kernel_rfl) (by kernel_rfl) (by kernel_rfl)
      (by rw [MakeChecks.laidMetH_plain _ _ _ (by kernel_rfl)]; exact laidMet_laidAll _ (by kernel_rfl) (by kernel_rfl))) ?_
  intro W base args ds gs before hval0 hW _ hsz0 hL _
  have hval : ∀ (j : Nat) t v, Tryd.f4.params[j]? = some t → args[j]? = some v → Value.okWide Tryd.prog W .any base t v := hval0
  have hW' := hW
  obtain ⟨p, q, hA0, hV, rfl, hfz, hnd⟩ := hW
  have hA : DataW.TrodAll enc Tryd.prog W 0 (fun _ => true) true Tryd.f4.params.toList args.toList ds p := hA0
  rw [Tryd.params4] at hA hval
  obtain ⟨v0, vs0, d0, ds0, p0, q0, hargs, rfl, rfl, h0, r0⟩ := trodAll_cons hA
  obtain ⟨v1, vs1, d1, ds1, p1, q1, rfl, rfl, rfl, h1, r1⟩ := trodAll_cons r0
  obtain ⟨rfl, rfl, rfl⟩ := trodAll_nil r1
  obtain rfl : args = #[v0, v1] := by cases args; simp_all
  obtain ⟨rfl, rfl⟩ := trodVars_none hV
  obtain ⟨a0, rfl, rfl, rfl, w0⟩ := open_int Tryd.underlying3 (hval 0 3 v0 rfl rfl) h0
  obtain ⟨a1, rfl, rfl, rfl, w1⟩ := open_int Tryd.underlying3 (hval 1 3 v1 rfl rfl) h1
  clear hA0 hval0
  simp only [List.append_nil] at hW'
  refine (orderCycles_any a0 w0 a1 w1 W).mono fun e W' ⟨he, bel⟩ => ?_
  subst he
  exact ⟨_, rfl, _, _, _, [], [], [], hW', trodAll_mk1 (shut_bool Tryd.underlying4 _), (trodAll_cons_mk (shut_int Tryd.underlying3 w0) (trodAll_cons_mk (shut_int Tryd.underlying3 w1) trodAll_mk0)), rfl, bel.frame _, fun h => by cases h⟩

theorem orderCycles_holds : Rows.OrderCyclesSaid :=
  OpenClaim.holds_of_wide 4 Tryd.f4 rfl rfl rfl rfl rfl rfl rfl ⟨rfl, rfl, rfl, rfl, rfl⟩ rfl rfl rfl rfl rfl (by kernel_rfl) Tryd.func4 (by kernel_rfl)
    (of_decide_eq_true (by kernel_rfl)) (by unfold Func.isWrapper; first | (rw [if_pos (by decide +kernel)]; kernel_rfl) | (rw [if_neg (by decide +kernel)]; exact ⟨rfl, rfl⟩))
    (fun os started H enc _ => orderCycles_lifted os started H enc)
theorem orderCycles_card : Rows.OrderCyclesCardSaid :=
  Claim7.holds_tied_plain_at .later [] [.data, .pinned] true (true, "543e068f81d2f4f0877a308eff9da4ecc968e2cc2313aa9e16d82eb0a95efa9c") false orderCycles_holds (fun _ h => by cases h) (by kernel_rfl) (fun _ h => by cases h) orderCycles_row_tie rfl ⟨rfl, rfl⟩ (by kernel_rfl) rfl
    (fun f fn hf hfn => by
      obtain rfl : f = 4 := Option.some.inj ((show Tryd.prog.funcNamed Rows.orderCyclesRow.func = some 4 by kernel_rfl).symm.trans hf) |>.symm
      obtain rfl : fn = Tryd.f4 := (Option.some.inj (Tryd.func4.symm.trans hfn)).symm
      exact ⟨by kernel_rfl, fun j t ht => by
        rw [Tryd.params4] at ht
        have hm : t ∈ [3, 3] := by simpa using Array.mem_of_getElem? ht
        have hall : ([3, 3].all fun u => !Tryd.prog.wantsStandIn u) = true := by kernel_rfl
        exact (show Tryd.prog.wantsStandIn t = false by simpa using List.all_eq_true.1 hall t hm)⟩)
    (by kernel_rfl)
#print axioms orderCycles_card

end Go.Proofs.YtfadjppokbolhaaDoor
