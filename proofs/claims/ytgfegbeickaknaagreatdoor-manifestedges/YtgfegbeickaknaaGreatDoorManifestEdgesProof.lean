/- The statement on build lines of a rule, each an edge of its own, holds for all rows of numbers; no conditions. -/
import Derived.Test.YtgfegbeickaknaaGreatDoorRows
import Derived.Test.YtgfegbeickaknaaGreatDoorCards
import Derived.Test.YtgfegbeickaknaaGreatDoorTie
import Derived.LaidMore
import Derived.Lay
import Derived.SevenTiedAt
import Derived.Stop.Joined
import Derived.ProofKit
import Derived.OpenShut
import Derived.ShutString
import Derived.ChangeOld
import Derived.Below
import Derived.SizedLaws
import Derived.Test.YtgfegbeickaknaaGreatDoorPk1
import Derived.Test.YtgfegbeickaknaaGreatDoorMfAwake
import Derived.Test.YtgfegbeickaknaaGreatDoorMfTab
import Derived.Test.YtgfegbeickaknaaGreatDoorMfBuild
import Derived.Test.YtgfegbeickaknaaGreatDoorWk1
import Derived.Test.YtgfegbeickaknaaGreatDoorRowPlain
namespace Go.Proofs.YtgfegbeickaknaaGreatDoor
open Go.ChangeShapes Go.WideShapes Go.ChangeAt Go.RowKit

/-- A row of texts that fills a block. -/
def KT (w : World) (ao : Option Addr) (ws : Ws) : Prop := ws = [] ∨ ∃ g, ao = some ⟨g, 0, none⟩ ∧ Blk w g (lay tv ws).toArray 9
theorem KT.row {w : World} {ao : Option Addr} {ws : Ws} (h : KT w ao ws) : RowT w ao ws := by
  rcases h with h | ⟨g, rfl, hb⟩
  · exact Or.inl h
  · exact rowB tv_len hb ws rfl
theorem KT.fr {P : Nat → Prop} {w w' : World} {ao : Option Addr} {ws : Ws} (h : KT w ao ws) (hf : Fr P w w') (hn : ∀ g cs, Blk w g cs 9 → ¬ P g) : KT w' ao ws := by
  rcases h with h | ⟨g, e, hb⟩
  · exact Or.inl h
  · exact Or.inr ⟨g, e, hb.fr hf (hn g _ hb)⟩

structure EdK (w : World) (x : EdA) : Prop where
  a : KT w x.2.1.1 x.1.1
  b : KT w x.2.2.1.1 x.1.2.1
  c : KT w x.2.2.2.1.1 x.1.2.2.1
  d : KT w x.2.2.2.2.1 x.1.2.2.2.1
  l : x.1.1.length ≤ 4096 ∧ x.1.2.1.length ≤ 4096 ∧ x.1.2.2.1.length ≤ 4096 ∧ x.1.2.2.2.1.length ≤ 4096
theorem EdK.rd {w : World} {x : EdA} (h : EdK w x) : EdRd w x := ⟨h.a.row, h.b.row, h.c.row, h.d.row⟩
theorem EdK.fr {P : Nat → Prop} {w w' : World} {x : EdA} (h : EdK w x) (hf : Fr P w w') (hn : ∀ g cs, Blk w g cs 9 → ¬ P g) : EdK w' x := ⟨h.a.fr hf hn, h.b.fr hf hn, h.c.fr hf hn, h.d.fr hf hn, h.l⟩
theorem EdK.q {w w' : World} {x : EdA} (h : EdK w x) (q : Q w w') : EdK w' x := h.fr (P := fun _ => False) (Fr.of_q q) (fun _ _ _ h => h)
theorem EdK.grown {w w' : World} {x : EdA} (h : EdK w x) {B n : Nat} {v : Value} {xs : List Value} (ho : w.ownsRow B 42 7 v n xs) (hg : w.grownBy w' v.ownBlock) : EdK w' x :=
  h.fr (Fr.grown hg) (fun g _ hb hk => hb.row ho (by decide) g hk rfl)
theorem EdK.set {w : World} {x : EdA} (h : EdK w x) {E i : Nat} {u : Value} {cs : Array Value} (hb : Blk w E cs 42) : EdK (w.setCell ⟨E, i, none⟩ u) x :=
  h.fr (Fr.set w E i u) (fun g _ hb2 hk => hb2.ne hb (by decide) hk)
theorem one7 (a b c d : Value) (ha : a.oneCell' = true) (hb : b.oneCell' = true) (hc : c.oneCell' = true) (hd : d.oneCell' = true) (s t : ByteArray) (x : Bool) : ∀ u ∈ [a, b, c, d, .string s, .bool x, .string t], u.oneCell' = true := by
  intro u hu
  simp only [List.mem_cons, List.not_mem_nil, or_false] at hu
  rcases hu with rfl | rfl | rfl | rfl | rfl | rfl | rfl
  · exact ha
  · exact hb
  · exact hc
  · exact hd
  · rfl
  · rfl
  · rfl
/-- The blocks of a round. -/
def ev0L (n : Nat) (z : Int) (o c : ByteArray) : List (Array Value × TypeId) := [(#[.int .u8 z], 5), (#[.string o], 9), (#[.string (ByteArray.mk #[105, 49]), .string (ByteArray.mk #[105, 50])], 9), (#[.string (ByteArray.mk #[104])], 9),
  (#[.slice (some ⟨n + 1, 0, none⟩) 1 1, .slice (some ⟨n + 1 + 1, 0, none⟩) 2 2, .slice (some ⟨n + 1 + 1 + 1, 0, none⟩) 1 1, .slice none 0 0, .string c, .bool false, .string { data := #[] }], 42)]
def ev2L (z : Int) (o : ByteArray) : List (Array Value × TypeId) := [(#[.int .u8 z], 5), (#[.string o], 9), (#[.string (ByteArray.mk #[122])], 9)]
theorem me_more {l c : Tx} {es : List Ed} {e : Ed} (h : Run l (meS es)) (hs : ∃ x r, lnT c = some ((false, x) :: r) ∧ runL (meS es) ((false, x) :: r) = .ok (meS (es ++ [e]))) : Run (l ++ c) (meS (es ++ [e])) := by
  obtain ⟨x, r, h1, h2⟩ := hs
  exact h.more h1 h2
theorem of_byteE {c : UInt8} {k : Nat} (h : (c.toNat : Int) = 97 + (k : Int)) : c = UInt8.ofNat (97 + k) := by
  rw [show 97 + k = c.toNat by omega, UInt8.ofNat_toNat]

set_option maxRecDepth 20000 in
set_option maxHeartbeats 16000000 in
theorem manifestEdges_any (w : World) (a : Option Addr) (len cap : Nat) (z : List Int) (hrow : IsRow .i64 w a len cap z) (htab : TabB w.heap.size w) :
    Calls Tryz.prog 6 #[.slice a len cap] w fun e w' => e = .returned (.bool true) ∧ Q w w' := by
  have HT := hide htab
  clear htab
  obtain ⟨i0, hi, hz0, hz1, hz2⟩ := info_parts Tryz.infoE
  obtain ⟨hlc, hcm, hzl, hcells, _⟩ := hrow
  unfold maxLen at hcm
  obtain ⟨K, hK1, hK2, hK3⟩ : ∃ K : Nat, K ≤ len ∧ K ≤ 8 ∧ min (len : Int) 8 = (K : Int) := ⟨min len 8, by omega, by omega, by omega⟩
  go_enter Tryz.func6, Tryz.ntmps6
  go_wp2_with fail
  refine (mfawake_any _ (unhide HT)).mono ?_
  rintro e w1 ⟨rfl, q1⟩
  go_wp2_with fail
  go_loopw [3, 4, 6] (fun sv v i wr => ∃ (k : Nat) (es : List EdA) (t : ByteArray) (ao : Option Addr) (cp : Nat), k ≤ K ∧ i = .int .i64 k ∧ sv = .string t ∧ v = .slice ao es.length cp ∧ es.length ≤ k ∧ t.size ≤ 112 + 60 * k ∧ wr.ownsRow w1.heap.size 42 7 (.slice ao es.length cp) es.length (lay ev es) ∧ Q w1 wr ∧ Hid (∀ x ∈ es, EdK wr x) ∧ Hid (Run (bl t) (meS (es.map Prod.fst)))) (fun _ _ i _ => K - (intOf i).toNat)
  case atStart => exact ⟨0, [], ⟨meB.toArray⟩, none, 0, Nat.zero_le _, rfl, rfl, rfl, Nat.le_refl _, by decide +kernel, World.ownsRow_nil _ _ _ _, Q.refl _, (fun x hx => by cases hx), me_base⟩
  case round =>
    obtain ⟨k, es, t, ao, cp, hk, rfl, rfl, rfl, hek, hts, hown, hq, HE, HRN⟩ := hrel
    have hyc := own_le hown
    have hqs := hq.size
    by_cases hlt : k < K
    · have hlt' : (k : Int) < (K : Int) := by omega
      rcases hcells with h0 | ⟨b, o, rfl, hb, hcell⟩
      · omega
      have hc : wr.cell? ⟨b, o + k, none⟩ = some (.int .i64 (z.getD k 0)) := ((q1.trans hq).cell (p := ⟨b, o + k, none⟩) hb).trans (hcell k (by omega))
      generalize z.getD k 0 = n at hc
      clear hcell
      obtain ⟨c, hcc, hcv⟩ := str_int (97 + (k : Int)) (by omega) (by omega)
      have HCC := hide (of_byteE hcc)
      clear hcc
      have hk8 : k < 8 := by omega
      have hblt := World.block_lt_of_cell? _ _ hc
      have HCQ : Hid (∀ w2, Q wr w2 → w2.cell? ⟨b, o + k, none⟩ = some (.int .i64 n)) := fun w2 q => (q.cell (p := ⟨b, o + k, none⟩) hblt).trans hc
      have hc2 : ∀ ob, (wr.alloc ob).cell? ⟨b, o + k, none⟩ = some (.int .i64 n) := fun ob => HCQ.out _ ((Q.refl wr).alloc ob)
      have h1 := and1 n
      rcases (by omega : n % 2 = 0 ∨ n % 2 = 1) with h2 | h2
      · rw [h2] at h1
        clear h2
        go_upto_region 13 with fail
        generalize hoB : (({ data := #[111] } : ByteArray) ++ { data := #[c] }) = oB at *
        have HOB : Hid (bl oB = meO k) := by show _ = _; rw [← hoB, bl_app, unhide HCC]; rfl
        have hos : oB.size = 2 := by rw [← hoB]; rfl
        have HB1E : Hid (#[Value.string oB] = (lay tv [meO k]).toArray) := by show _ = _; rw [← HOB.out]; show _ = #[Value.string ⟨(bl oB).toArray⟩]; rw [mk_bl]
        change Code.wp _ _ _ _ (al wr (ev0L wr.heap.size (97 + (k : Int)) oB ((ByteArray.mk #[97, 32, 45, 119, 32, 105, 49, 32, 105, 50, 32, 62, 32]) ++ oB)))
        have q3 := al_q (ev0L wr.heap.size (97 + (k : Int)) oB ((ByteArray.mk #[97, 32, 45, 119, 32, 105, 49, 32, 105, 50, 32, 62, 32]) ++ oB)) wr
        have HK1 : Hid (Blk (al wr (ev0L wr.heap.size (97 + (k : Int)) oB ((ByteArray.mk #[97, 32, 45, 119, 32, 105, 49, 32, 105, 50, 32, 62, 32]) ++ oB))) (wr.heap.size + 1) #[.string oB] 9) := al_blk (ev0L wr.heap.size (97 + (k : Int)) oB ((ByteArray.mk #[97, 32, 45, 119, 32, 105, 49, 32, 105, 50, 32, 62, 32]) ++ oB)) wr 1 (#[.string oB], 9) rfl
        have HK2 : Hid (Blk (al wr (ev0L wr.heap.size (97 + (k : Int)) oB ((ByteArray.mk #[97, 32, 45, 119, 32, 105, 49, 32, 105, 50, 32, 62, 32]) ++ oB))) (wr.heap.size + 1 + 1) #[.string (ByteArray.mk #[105, 49]), .string (ByteArray.mk #[105, 50])] 9) := al_blk (ev0L wr.heap.size (97 + (k : Int)) oB ((ByteArray.mk #[97, 32, 45, 119, 32, 105, 49, 32, 105, 50, 32, 62, 32]) ++ oB)) wr 2 (#[.string (ByteArray.mk #[105, 49]), .string (ByteArray.mk #[105, 50])], 9) rfl
        have HK3 : Hid (Blk (al wr (ev0L wr.heap.size (97 + (k : Int)) oB ((ByteArray.mk #[97, 32, 45, 119, 32, 105, 49, 32, 105, 50, 32, 62, 32]) ++ oB))) (wr.heap.size + 1 + 1 + 1) #[.string (ByteArray.mk #[104])] 9) := al_blk (ev0L wr.heap.size (97 + (k : Int)) oB ((ByteArray.mk #[97, 32, 45, 119, 32, 105, 49, 32, 105, 50, 32, 62, 32]) ++ oB)) wr 3 (#[.string (ByteArray.mk #[104])], 9) rfl
        have HKE : Hid (Blk (al wr (ev0L wr.heap.size (97 + (k : Int)) oB ((ByteArray.mk #[97, 32, 45, 119, 32, 105, 49, 32, 105, 50, 32, 62, 32]) ++ oB))) (wr.heap.size + 1 + 1 + 1 + 1) #[.slice (some ⟨wr.heap.size + 1, 0, none⟩) 1 1, .slice (some ⟨wr.heap.size + 1 + 1, 0, none⟩) 2 2, .slice (some ⟨wr.heap.size + 1 + 1 + 1, 0, none⟩) 1 1, .slice none 0 0, .string ((ByteArray.mk #[97, 32, 45, 119, 32, 105, 49, 32, 105, 50, 32, 62, 32]) ++ oB), .bool false, .string { data := #[] }] 42) := al_blk (ev0L wr.heap.size (97 + (k : Int)) oB ((ByteArray.mk #[97, 32, 45, 119, 32, 105, 49, 32, 105, 50, 32, 62, 32]) ++ oB)) wr 4 (#[.slice (some ⟨wr.heap.size + 1, 0, none⟩) 1 1, .slice (some ⟨wr.heap.size + 1 + 1, 0, none⟩) 2 2, .slice (some ⟨wr.heap.size + 1 + 1 + 1, 0, none⟩) 1 1, .slice none 0 0, .string ((ByteArray.mk #[97, 32, 45, 119, 32, 105, 49, 32, 105, 50, 32, 62, 32]) ++ oB), .bool false, .string { data := #[] }], 42) rfl
        have hcw := HCQ.out _ q3
        have HOW := hide (own_q hown q3)
        have HEW : Hid (∀ y ∈ es, EdK (al wr (ev0L wr.heap.size (97 + (k : Int)) oB ((ByteArray.mk #[97, 32, 45, 119, 32, 105, 49, 32, 105, 50, 32, 62, 32]) ++ oB))) y) := fun y hy => (HE.out y hy).q q3
        have hsW : w1.heap.size ≤ (al wr (ev0L wr.heap.size (97 + (k : Int)) oB ((ByteArray.mk #[97, 32, 45, 119, 32, 105, 49, 32, 105, 50, 32, 62, 32]) ++ oB))).heap.size := Nat.le_trans hqs q3.size
        have HLT : Hid (∀ r, (Value.slice ao es.length cp).ownBlock = some r → r < wr.heap.size) := fun r hr => (hown.lt r hr).2
        have HQL : Hid (wr.heap.size ≤ wr.heap.size) := Nat.le_refl _
        clear hc hc2 hown HE HCQ hoB hcv
        generalize al wr (ev0L wr.heap.size (97 + (k : Int)) oB ((ByteArray.mk #[97, 32, 45, 119, 32, 105, 49, 32, 105, 50, 32, 62, 32]) ++ oB)) = w3 at *
        have HWR : Hid (wr.heap.size = wr.heap.size) := rfl
        generalize hn0 : wr.heap.size = n0 at *
        have e0 : w3.cell? ⟨n0 + 1 + 1 + 1 + 1, 0, none⟩ = some (.slice (some ⟨n0 + 1, 0, none⟩) 1 1) := (unhide HKE).cell 0 rfl
        have e1 : w3.cell? ⟨n0 + 1 + 1 + 1 + 1, 1, none⟩ = some (.slice (some ⟨n0 + 1 + 1, 0, none⟩) 2 2) := (unhide HKE).cell 1 rfl
        have e2 : w3.cell? ⟨n0 + 1 + 1 + 1 + 1, 2, none⟩ = some (.slice (some ⟨n0 + 1 + 1 + 1, 0, none⟩) 1 1) := (unhide HKE).cell 2 rfl
        have e3 : w3.cell? ⟨n0 + 1 + 1 + 1 + 1, 3, none⟩ = some (.slice none 0 0) := (unhide HKE).cell 3 rfl
        have e4 : w3.cell? ⟨n0 + 1 + 1 + 1 + 1, 4, none⟩ = some (.string ((ByteArray.mk #[97, 32, 45, 119, 32, 105, 49, 32, 105, 50, 32, 62, 32]) ++ oB)) := (unhide HKE).cell 4 rfl
        have e5 : w3.cell? ⟨n0 + 1 + 1 + 1 + 1, 5, none⟩ = some (.bool false) := (unhide HKE).cell 5 rfl
        have e6 : w3.cell? ⟨n0 + 1 + 1 + 1 + 1, 6, none⟩ = some (.string { data := #[] }) := (unhide HKE).cell 6 rfl
        have f4 := (unhide HKE).frz 4
        cases h3 : (bits .and .i64 n 2 == 2)
        · have HZ : Hid ((t ++ { data := #[98, 117, 105, 108, 100, 32] } ++ oB ++ (ByteArray.mk #[32, 58, 32, 97, 32, 105, 49, 32, 46, 47, 105, 50, 32, 124, 32, 104, 10])).size = t.size + 25) := by show _ = _; rw [← bl_size]; simp only [bl_app, List.length_append, bl_size, hos]; rfl
          have HV0 : Hid (ev ((ed0 k, (some ⟨n0 + 1, 0, none⟩, 1), (some ⟨n0 + 1 + 1, 0, none⟩, 2), (some ⟨n0 + 1 + 1 + 1, 0, none⟩, 1), (none, 0)) : EdA) = [.slice (some ⟨n0 + 1, 0, none⟩) 1 1, .slice (some ⟨n0 + 1 + 1, 0, none⟩) 2 2, .slice (some ⟨n0 + 1 + 1 + 1, 0, none⟩) 1 1, .slice none 0 0, .string ((ByteArray.mk #[97, 32, 45, 119, 32, 105, 49, 32, 105, 50, 32, 62, 32]) ++ oB), .bool false, .string { data := #[] }]) := by
            show _ = _
            have hc0 : (⟨(ed0 k).2.2.2.2.1.toArray⟩ : ByteArray) = (ByteArray.mk #[97, 32, 45, 119, 32, 105, 49, 32, 105, 50, 32, 62, 32]) ++ oB := (of_bl (by rw [bl_app, HOB.out]; rfl)).symm
            show [Value.slice _ _ _, .slice _ _ _, .slice _ _ _, .slice _ _ _, .string ⟨(ed0 k).2.2.2.2.1.toArray⟩, .bool false, .string ⟨#[]⟩] = _
            rw [hc0]; rfl
          have HRR : Hid (Run (bl (t ++ { data := #[98, 117, 105, 108, 100, 32] } ++ oB ++ (ByteArray.mk #[32, 58, 32, 97, 32, 105, 49, 32, 46, 47, 105, 50, 32, 124, 32, 104, 10]))) (meS (es.map Prod.fst ++ [ed0 k]))) := by
            show Run _ _
            have := me_more HRN.out (me0_step k hk8 (es.map Prod.fst) (by rw [List.length_map]; omega))
            rwa [show bl (t ++ { data := #[98, 117, 105, 108, 100, 32] } ++ oB ++ (ByteArray.mk #[32, 58, 32, 97, 32, 105, 49, 32, 46, 47, 105, 50, 32, 124, 32, 104, 10])) = bl t ++ me0 k by rw [bl_app, bl_app, bl_app, HOB.out]; unfold me0; simp only [List.append_assoc]; rfl]
          clear HRN
          go_wp2_with (at_builtin; refine wpList_append_lies _ rfl _ _ 22 rfl w1.heap.size 42 i0 (.agg #[.slice none 0 0, .slice none 0 0, .slice none 0 0, .slice none 0 0, .string ByteArray.empty, .bool false, .string ByteArray.empty]) 7 136 Tryz.underlying22 hi hz0 hz1 hz2 rfl (by decide) _ _ _ rfl ((unhide HOW).alloc _) ⟨w3.heap.size, 0, none⟩ 1 1 [.slice (some ⟨n0 + 1, 0, none⟩) 1 1, .slice (some ⟨n0 + 1 + 1, 0, none⟩) 2 2, .slice (some ⟨n0 + 1 + 1 + 1, 0, none⟩) 1 1, .slice none 0 0, .string ((ByteArray.mk #[97, 32, 45, 119, 32, 105, 49, 32, 105, 50, 32, 62, 32]) ++ oB), .bool false, .string { data := #[] }] rfl rfl (news_at (by simp) #[.slice (some ⟨n0 + 1, 0, none⟩) 1 1, .slice (some ⟨n0 + 1 + 1, 0, none⟩) 2 2, .slice (some ⟨n0 + 1 + 1 + 1, 0, none⟩) 1 1, .slice none 0 0, .string ((ByteArray.mk #[97, 32, 45, 119, 32, 105, 49, 32, 105, 50, 32, 62, 32]) ++ oB), .bool false, .string { data := #[] }] _) (one7 _ _ _ _ rfl rfl rfl rfl _ _ _) (by decide) (by unfold maxLen; omega) (by omega) (le_alloc hsW _) (w3.heap.size + 1) (by simp) ?_)
          intro g' cp' w9 hown2 hgrow hor hglt
          have hq9 : Q w1 w9 := Below.grown ((hq.trans q3).alloc _) hgrow (le_alloc hsW _) (fun r hr => ((unhide HOW).lt r hr).1)
          have HO : Hid (w9.ownsRow w1.heap.size 42 7 (.slice (some ⟨g', 0, none⟩) (es ++ [((ed0 k, (some ⟨n0 + 1, 0, none⟩, 1), (some ⟨n0 + 1 + 1, 0, none⟩, 2), (some ⟨n0 + 1 + 1 + 1, 0, none⟩, 1), (none, 0)) : EdA)]).length cp') (es ++ [((ed0 k, (some ⟨n0 + 1, 0, none⟩, 1), (some ⟨n0 + 1 + 1, 0, none⟩, 2), (some ⟨n0 + 1 + 1 + 1, 0, none⟩, 1), (none, 0)) : EdA)]).length (lay ev (es ++ [((ed0 k, (some ⟨n0 + 1, 0, none⟩, 1), (some ⟨n0 + 1 + 1, 0, none⟩, 2), (some ⟨n0 + 1 + 1 + 1, 0, none⟩, 1), (none, 0)) : EdA)]))) := by
            have h := hown2
            rw [lay_snoc, unhide HV0, List.length_append]
            exact h
          have HE9 : Hid (∀ y ∈ es ++ [((ed0 k, (some ⟨n0 + 1, 0, none⟩, 1), (some ⟨n0 + 1 + 1, 0, none⟩, 2), (some ⟨n0 + 1 + 1 + 1, 0, none⟩, 1), (none, 0)) : EdA)], EdK w9 y) := by
            show ∀ y ∈ es ++ [((ed0 k, (some ⟨n0 + 1, 0, none⟩, 1), (some ⟨n0 + 1 + 1, 0, none⟩, 2), (some ⟨n0 + 1 + 1 + 1, 0, none⟩, 1), (none, 0)) : EdA)], EdK w9 y
            intro y hy
            have hy2 : EdK w3 y := by
              rcases List.mem_append.1 hy with hy | hy
              · exact HEW.out y hy
              · simp only [List.mem_cons, List.not_mem_nil, or_false] at hy
                subst hy
                exact ⟨Or.inr ⟨_, rfl, by show Blk _ _ (lay tv [meO k]).toArray _; rw [← unhide HB1E]; exact unhide HK1⟩, Or.inr ⟨_, rfl, unhide HK2⟩, Or.inr ⟨_, rfl, unhide HK3⟩, Or.inl rfl, ⟨by show (1 : Nat) ≤ 4096; decide, by show (2 : Nat) ≤ 4096; decide, by show (1 : Nat) ≤ 4096; decide, by show (0 : Nat) ≤ 4096; decide⟩⟩
            exact (hy2.q ((Q.refl w3).alloc _)).grown ((unhide HOW).alloc _) hgrow
          clear hown2 hgrow hor HOW HEW
          go_wp2
          go_roundw
          case rel =>
            refine ⟨k + 1, es ++ [((ed0 k, (some ⟨n0 + 1, 0, none⟩, 1), (some ⟨n0 + 1 + 1, 0, none⟩, 2), (some ⟨n0 + 1 + 1 + 1, 0, none⟩, 1), (none, 0)) : EdA)], _, some ⟨g', 0, none⟩, cp', by omega, by go_num, rfl, ?_, ?_, ?_, unhide HO, hq9, HE9, ?_⟩
            · simp
            · simp; omega
            · have := HZ.out; omega
            · show Run _ _
              rw [List.map_append]
              exact HRR.out
          case measure => simp [intOf]; omega
        · have HZ : Hid ((t ++ { data := #[98, 117, 105, 108, 100, 32] } ++ oB ++ (ByteArray.mk #[32, 58, 32, 97, 32, 105, 49, 32, 46, 47, 105, 50, 32, 124, 32, 104, 10]) ++ (ByteArray.mk #[32, 32, 120, 32, 61, 32, 36, 119, 33, 10, 32, 32, 119, 32, 61, 32, 45, 113, 10])).size = t.size + 44) := by show _ = _; rw [← bl_size]; simp only [bl_app, List.length_append, bl_size, hos]; rfl
          have HV1 : Hid (ev ((ed1 k, (some ⟨n0 + 1, 0, none⟩, 1), (some ⟨n0 + 1 + 1, 0, none⟩, 2), (some ⟨n0 + 1 + 1 + 1, 0, none⟩, 1), (none, 0)) : EdA) = [.slice (some ⟨n0 + 1, 0, none⟩) 1 1, .slice (some ⟨n0 + 1 + 1, 0, none⟩) 2 2, .slice (some ⟨n0 + 1 + 1 + 1, 0, none⟩) 1 1, .slice none 0 0, .string ((ByteArray.mk #[97, 32, 45, 113, 32, 105, 49, 32, 105, 50, 32, 62, 32]) ++ oB ++ (ByteArray.mk #[45, 119, 33])), .bool false, .string { data := #[] }]) := by
            show _ = _
            have hc0 : (⟨(ed1 k).2.2.2.2.1.toArray⟩ : ByteArray) = (ByteArray.mk #[97, 32, 45, 113, 32, 105, 49, 32, 105, 50, 32, 62, 32]) ++ oB ++ (ByteArray.mk #[45, 119, 33]) := (of_bl (by rw [bl_app, bl_app, HOB.out]; rfl)).symm
            show [Value.slice _ _ _, .slice _ _ _, .slice _ _ _, .slice _ _ _, .string ⟨(ed1 k).2.2.2.2.1.toArray⟩, .bool false, .string ⟨#[]⟩] = _
            rw [hc0]; rfl
          have HRR : Hid (Run (bl (t ++ { data := #[98, 117, 105, 108, 100, 32] } ++ oB ++ (ByteArray.mk #[32, 58, 32, 97, 32, 105, 49, 32, 46, 47, 105, 50, 32, 124, 32, 104, 10]) ++ (ByteArray.mk #[32, 32, 120, 32, 61, 32, 36, 119, 33, 10, 32, 32, 119, 32, 61, 32, 45, 113, 10]))) (meS (es.map Prod.fst ++ [ed1 k]))) := by
            show Run _ _
            have := me_more HRN.out (me1_step k hk8 (es.map Prod.fst) (by rw [List.length_map]; omega))
            rwa [show bl (t ++ { data := #[98, 117, 105, 108, 100, 32] } ++ oB ++ (ByteArray.mk #[32, 58, 32, 97, 32, 105, 49, 32, 46, 47, 105, 50, 32, 124, 32, 104, 10]) ++ (ByteArray.mk #[32, 32, 120, 32, 61, 32, 36, 119, 33, 10, 32, 32, 119, 32, 61, 32, 45, 113, 10])) = bl t ++ me1 k by rw [bl_app, bl_app, bl_app, bl_app, HOB.out]; unfold me1 me0; simp only [List.append_assoc]; rfl]
          clear HRN
          go_upto_region 16 with fail
          clear e0 e1 e2 e3 e4 e5 e6 f4 hcw
          have HK1' := hide ((unhide HK1).other ((unhide HK1).ne (unhide HKE) (by decide)) 4 (.string ((ByteArray.mk #[97, 32, 45, 113, 32, 105, 49, 32, 105, 50, 32, 62, 32]) ++ oB ++ (ByteArray.mk #[45, 119, 33]))))
          have HK2' := hide ((unhide HK2).other ((unhide HK2).ne (unhide HKE) (by decide)) 4 (.string ((ByteArray.mk #[97, 32, 45, 113, 32, 105, 49, 32, 105, 50, 32, 62, 32]) ++ oB ++ (ByteArray.mk #[45, 119, 33]))))
          have HK3' := hide ((unhide HK3).other ((unhide HK3).ne (unhide HKE) (by decide)) 4 (.string ((ByteArray.mk #[97, 32, 45, 113, 32, 105, 49, 32, 105, 50, 32, 62, 32]) ++ oB ++ (ByteArray.mk #[45, 119, 33]))))
          have HKE' := hide ((unhide HKE).set 4 (.string ((ByteArray.mk #[97, 32, 45, 113, 32, 105, 49, 32, 105, 50, 32, 62, 32]) ++ oB ++ (ByteArray.mk #[45, 119, 33]))))
          have q5 : Q wr (w3.setCell ⟨n0 + 1 + 1 + 1 + 1, 4, none⟩ (.string ((ByteArray.mk #[97, 32, 45, 113, 32, 105, 49, 32, 105, 50, 32, 62, 32]) ++ oB ++ (ByteArray.mk #[45, 119, 33])))) := Below.trans q3 ((Fr.set w3 _ 4 _).below q3.size (fun r hr => by rw [hr, hn0]; omega))
          have HOW' := hide (own_fr (unhide HOW) (Fr.set w3 (n0 + 1 + 1 + 1 + 1) 4 (.string ((ByteArray.mk #[97, 32, 45, 113, 32, 105, 49, 32, 105, 50, 32, 62, 32]) ++ oB ++ (ByteArray.mk #[45, 119, 33])))) (fun r hr e => by have := HLT.out r hr; omega))
          have HEW' : Hid (∀ y ∈ es, EdK (w3.setCell ⟨n0 + 1 + 1 + 1 + 1, 4, none⟩ (.string ((ByteArray.mk #[97, 32, 45, 113, 32, 105, 49, 32, 105, 50, 32, 62, 32]) ++ oB ++ (ByteArray.mk #[45, 119, 33])))) y) := fun y hy => (HEW.out y hy).set (unhide HKE)
          have hsW' : w1.heap.size ≤ (w3.setCell ⟨n0 + 1 + 1 + 1 + 1, 4, none⟩ (.string ((ByteArray.mk #[97, 32, 45, 113, 32, 105, 49, 32, 105, 50, 32, 62, 32]) ++ oB ++ (ByteArray.mk #[45, 119, 33])))).heap.size := by have := q5.size; omega
          clear HK1 HK2 HK3 HKE HOW HEW hsW q3
          have HK1 := hide (unhide HK1')
          have HK2 := hide (unhide HK2')
          have HK3 := hide (unhide HK3')
          have HKE := hide (unhide HKE')
          have HOW := hide (unhide HOW')
          have HEW := HEW'
          have hsW := hsW'
          clear HK1' HK2' HK3' HKE' HOW' HEW' hsW'
          generalize w3.setCell ⟨n0 + 1 + 1 + 1 + 1, 4, none⟩ (.string ((ByteArray.mk #[97, 32, 45, 113, 32, 105, 49, 32, 105, 50, 32, 62, 32]) ++ oB ++ (ByteArray.mk #[45, 119, 33]))) = w5 at *
          have e0 : w5.cell? ⟨n0 + 1 + 1 + 1 + 1, 0, none⟩ = some (.slice (some ⟨n0 + 1, 0, none⟩) 1 1) := (unhide HKE).cell 0 rfl
          have e1 : w5.cell? ⟨n0 + 1 + 1 + 1 + 1, 1, none⟩ = some (.slice (some ⟨n0 + 1 + 1, 0, none⟩) 2 2) := (unhide HKE).cell 1 rfl
          have e2 : w5.cell? ⟨n0 + 1 + 1 + 1 + 1, 2, none⟩ = some (.slice (some ⟨n0 + 1 + 1 + 1, 0, none⟩) 1 1) := (unhide HKE).cell 2 rfl
          have e3 : w5.cell? ⟨n0 + 1 + 1 + 1 + 1, 3, none⟩ = some (.slice none 0 0) := (unhide HKE).cell 3 rfl
          have e4 : w5.cell? ⟨n0 + 1 + 1 + 1 + 1, 4, none⟩ = some (.string ((ByteArray.mk #[97, 32, 45, 113, 32, 105, 49, 32, 105, 50, 32, 62, 32]) ++ oB ++ (ByteArray.mk #[45, 119, 33]))) := (unhide HKE).cell 4 rfl
          have e5 : w5.cell? ⟨n0 + 1 + 1 + 1 + 1, 5, none⟩ = some (.bool false) := (unhide HKE).cell 5 rfl
          have e6 : w5.cell? ⟨n0 + 1 + 1 + 1 + 1, 6, none⟩ = some (.string { data := #[] }) := (unhide HKE).cell 6 rfl
          go_wp2_with (at_builtin; refine wpList_append_lies _ rfl _ _ 22 rfl w1.heap.size 42 i0 (.agg #[.slice none 0 0, .slice none 0 0, .slice none 0 0, .slice none 0 0, .string ByteArray.empty, .bool false, .string ByteArray.empty]) 7 136 Tryz.underlying22 hi hz0 hz1 hz2 rfl (by decide) _ _ _ rfl ((unhide HOW).alloc _) ⟨w5.heap.size, 0, none⟩ 1 1 [.slice (some ⟨n0 + 1, 0, none⟩) 1 1, .slice (some ⟨n0 + 1 + 1, 0, none⟩) 2 2, .slice (some ⟨n0 + 1 + 1 + 1, 0, none⟩) 1 1, .slice none 0 0, .string ((ByteArray.mk #[97, 32, 45, 113, 32, 105, 49, 32, 105, 50, 32, 62, 32]) ++ oB ++ (ByteArray.mk #[45, 119, 33])), .bool false, .string { data := #[] }] rfl rfl (news_at (by simp) #[.slice (some ⟨n0 + 1, 0, none⟩) 1 1, .slice (some ⟨n0 + 1 + 1, 0, none⟩) 2 2, .slice (some ⟨n0 + 1 + 1 + 1, 0, none⟩) 1 1, .slice none 0 0, .string ((ByteArray.mk #[97, 32, 45, 113, 32, 105, 49, 32, 105, 50, 32, 62, 32]) ++ oB ++ (ByteArray.mk #[45, 119, 33])), .bool false, .string { data := #[] }] _) (one7 _ _ _ _ rfl rfl rfl rfl _ _ _) (by decide) (by unfold maxLen; omega) (by omega) (le_alloc hsW _) (w5.heap.size + 1) (by simp) ?_)
          intro g' cp' w9 hown2 hgrow hor hglt
          have hq9 : Q w1 w9 := Below.grown ((hq.trans q5).alloc _) hgrow (le_alloc hsW _) (fun r hr => ((unhide HOW).lt r hr).1)
          have HO : Hid (w9.ownsRow w1.heap.size 42 7 (.slice (some ⟨g', 0, none⟩) (es ++ [((ed1 k, (some ⟨n0 + 1, 0, none⟩, 1), (some ⟨n0 + 1 + 1, 0, none⟩, 2), (some ⟨n0 + 1 + 1 + 1, 0, none⟩, 1), (none, 0)) : EdA)]).length cp') (es ++ [((ed1 k, (some ⟨n0 + 1, 0, none⟩, 1), (some ⟨n0 + 1 + 1, 0, none⟩, 2), (some ⟨n0 + 1 + 1 + 1, 0, none⟩, 1), (none, 0)) : EdA)]).length (lay ev (es ++ [((ed1 k, (some ⟨n0 + 1, 0, none⟩, 1), (some ⟨n0 + 1 + 1, 0, none⟩, 2), (some ⟨n0 + 1 + 1 + 1, 0, none⟩, 1), (none, 0)) : EdA)]))) := by
            have h := hown2
            rw [lay_snoc, unhide HV1, List.length_append]
            exact h
          have HE9 : Hid (∀ y ∈ es ++ [((ed1 k, (some ⟨n0 + 1, 0, none⟩, 1), (some ⟨n0 + 1 + 1, 0, none⟩, 2), (some ⟨n0 + 1 + 1 + 1, 0, none⟩, 1), (none, 0)) : EdA)], EdK w9 y) := by
            show ∀ y ∈ es ++ [((ed1 k, (some ⟨n0 + 1, 0, none⟩, 1), (some ⟨n0 + 1 + 1, 0, none⟩, 2), (some ⟨n0 + 1 + 1 + 1, 0, none⟩, 1), (none, 0)) : EdA)], EdK w9 y
            intro y hy
            have hy2 : EdK w5 y := by
              rcases List.mem_append.1 hy with hy | hy
              · exact HEW.out y hy
              · simp only [List.mem_cons, List.not_mem_nil, or_false] at hy
                subst hy
                exact ⟨Or.inr ⟨_, rfl, by show Blk _ _ (lay tv [meO k]).toArray _; rw [← unhide HB1E]; exact unhide HK1⟩, Or.inr ⟨_, rfl, unhide HK2⟩, Or.inr ⟨_, rfl, unhide HK3⟩, Or.inl rfl, ⟨by show (1 : Nat) ≤ 4096; decide, by show (2 : Nat) ≤ 4096; decide, by show (1 : Nat) ≤ 4096; decide, by show (0 : Nat) ≤ 4096; decide⟩⟩
            exact (hy2.q ((Q.refl w5).alloc _)).grown ((unhide HOW).alloc _) hgrow
          clear hown2 hgrow hor HOW HEW
          go_wp2
          go_roundw
          case rel =>
            refine ⟨k + 1, es ++ [((ed1 k, (some ⟨n0 + 1, 0, none⟩, 1), (some ⟨n0 + 1 + 1, 0, none⟩, 2), (some ⟨n0 + 1 + 1 + 1, 0, none⟩, 1), (none, 0)) : EdA)], _, some ⟨g', 0, none⟩, cp', by omega, by go_num, rfl, ?_, ?_, ?_, unhide HO, hq9, HE9, ?_⟩
            · simp
            · simp; omega
            · have := HZ.out; omega
            · show Run _ _
              rw [List.map_append]
              exact HRR.out
          case measure => simp [intOf]; omega
      · rw [h2] at h1
        clear h2
        obtain ⟨oB, hoB⟩ : ∃ oB : ByteArray, (ByteArray.mk #[111]) ++ (ByteArray.mk #[c]) = oB := ⟨_, rfl⟩
        have HOB : Hid (bl oB = meO k) := by show _ = _; rw [← hoB, bl_app, unhide HCC]; rfl
        have hos : oB.size = 2 := by rw [← hoB]; rfl
        have HB1E : Hid (#[Value.string oB] = (lay tv [meO k]).toArray) := by show _ = _; rw [← HOB.out]; show _ = #[Value.string ⟨(bl oB).toArray⟩]; rw [mk_bl]

        have q3 := al_q (ev2L (97 + (k : Int)) oB) wr
        have HK1 : Hid (Blk (al wr (ev2L (97 + (k : Int)) oB)) (wr.heap.size + 1) #[.string oB] 9) := al_blk (ev2L (97 + (k : Int)) oB) wr 1 (#[.string oB], 9) rfl
        have HK2 : Hid (Blk (al wr (ev2L (97 + (k : Int)) oB)) (wr.heap.size + 1 + 1) #[.string (ByteArray.mk #[122])] 9) := al_blk (ev2L (97 + (k : Int)) oB) wr 2 (#[.string (ByteArray.mk #[122])], 9) rfl
        have HOW := hide (own_q hown q3)
        have HEW : Hid (∀ y ∈ es, EdK (al wr (ev2L (97 + (k : Int)) oB)) y) := fun y hy => (HE.out y hy).q q3
        have hsW : w1.heap.size ≤ (al wr (ev2L (97 + (k : Int)) oB)).heap.size := Nat.le_trans hqs q3.size
        have HZ : Hid ((t ++ { data := #[98, 117, 105, 108, 100, 32] } ++ oB ++ (ByteArray.mk #[32, 58, 32, 98, 32, 124, 124, 32, 122, 47, 46, 46, 47, 122, 10])).size = t.size + 23) := by show _ = _; rw [← bl_size]; simp only [bl_app, List.length_append, bl_size, hos]; rfl
        have HV2 : Hid (ev ((ed2 k, (some ⟨wr.heap.size + 1, 0, none⟩, 1), (none, 0), (none, 0), (some ⟨wr.heap.size + 1 + 1, 0, none⟩, 1)) : EdA) = [.slice (some ⟨wr.heap.size + 1, 0, none⟩) 1 1, .slice none 0 0, .slice none 0 0, .slice (some ⟨wr.heap.size + 1 + 1, 0, none⟩) 1 1, .string (ByteArray.mk #[98, 32]), .bool true, .string (ByteArray.mk #[112])]) := rfl
        have HRR : Hid (Run (bl (t ++ { data := #[98, 117, 105, 108, 100, 32] } ++ oB ++ (ByteArray.mk #[32, 58, 32, 98, 32, 124, 124, 32, 122, 47, 46, 46, 47, 122, 10]))) (meS (es.map Prod.fst ++ [ed2 k]))) := by
          show Run _ _
          have := me_more HRN.out (me2_step k hk8 (es.map Prod.fst) (by rw [List.length_map]; omega))
          rwa [show bl (t ++ { data := #[98, 117, 105, 108, 100, 32] } ++ oB ++ (ByteArray.mk #[32, 58, 32, 98, 32, 124, 124, 32, 122, 47, 46, 46, 47, 122, 10])) = bl t ++ me2 k by rw [bl_app, bl_app, bl_app, HOB.out]; unfold me2; simp only [List.append_assoc]; rfl]
        clear HRN HE hown
        go_wp2_with (at_builtin; refine wpList_append_lies _ rfl _ _ 22 rfl w1.heap.size 42 i0 (.agg #[.slice none 0 0, .slice none 0 0, .slice none 0 0, .slice none 0 0, .string ByteArray.empty, .bool false, .string ByteArray.empty]) 7 136 Tryz.underlying22 hi hz0 hz1 hz2 rfl (by decide) _ _ _ rfl ((unhide HOW).alloc _) ⟨wr.heap.size + 1 + 1 + 1, 0, none⟩ 1 1 [.slice (some ⟨wr.heap.size + 1, 0, none⟩) 1 1, .slice none 0 0, .slice none 0 0, .slice (some ⟨wr.heap.size + 1 + 1, 0, none⟩) 1 1, .string (ByteArray.mk #[98, 32]), .bool true, .string (ByteArray.mk #[112])] rfl rfl (news_at (by simp) #[.slice (some ⟨wr.heap.size + 1, 0, none⟩) 1 1, .slice none 0 0, .slice none 0 0, .slice (some ⟨wr.heap.size + 1 + 1, 0, none⟩) 1 1, .string (ByteArray.mk #[98, 32]), .bool true, .string (ByteArray.mk #[112])] _) (one7 _ _ _ _ rfl rfl rfl rfl _ _ _) (by decide) (by unfold maxLen; omega) (by omega) (le_alloc hsW _) (wr.heap.size + 1 + 1 + 1 + 1) (by simp) ?_)
        intro g' cp' w9 hown2 hgrow hor hglt
        have hq9 : Q w1 w9 := Below.grown ((hq.trans q3).alloc _) hgrow (le_alloc hsW _) (fun r hr => ((unhide HOW).lt r hr).1)
        have HO : Hid (w9.ownsRow w1.heap.size 42 7 (.slice (some ⟨g', 0, none⟩) (es ++ [((ed2 k, (some ⟨wr.heap.size + 1, 0, none⟩, 1), (none, 0), (none, 0), (some ⟨wr.heap.size + 1 + 1, 0, none⟩, 1)) : EdA)]).length cp') (es ++ [((ed2 k, (some ⟨wr.heap.size + 1, 0, none⟩, 1), (none, 0), (none, 0), (some ⟨wr.heap.size + 1 + 1, 0, none⟩, 1)) : EdA)]).length (lay ev (es ++ [((ed2 k, (some ⟨wr.heap.size + 1, 0, none⟩, 1), (none, 0), (none, 0), (some ⟨wr.heap.size + 1 + 1, 0, none⟩, 1)) : EdA)]))) := by
          have h := hown2
          rw [lay_snoc, unhide HV2, List.length_append]
          exact h
        have HE9 : Hid (∀ y ∈ es ++ [((ed2 k, (some ⟨wr.heap.size + 1, 0, none⟩, 1), (none, 0), (none, 0), (some ⟨wr.heap.size + 1 + 1, 0, none⟩, 1)) : EdA)], EdK w9 y) := by
          show ∀ y ∈ es ++ [((ed2 k, (some ⟨wr.heap.size + 1, 0, none⟩, 1), (none, 0), (none, 0), (some ⟨wr.heap.size + 1 + 1, 0, none⟩, 1)) : EdA)], EdK w9 y
          intro y hy
          have hy2 : EdK (al wr (ev2L (97 + (k : Int)) oB)) y := by
            rcases List.mem_append.1 hy with hy | hy
            · exact HEW.out y hy
            · simp only [List.mem_cons, List.not_mem_nil, or_false] at hy
              subst hy
              exact ⟨Or.inr ⟨_, rfl, by show Blk _ _ (lay tv [meO k]).toArray _; rw [← unhide HB1E]; exact unhide HK1⟩, Or.inl rfl, Or.inl rfl, Or.inr ⟨_, rfl, unhide HK2⟩, ⟨by show (1 : Nat) ≤ 4096; decide, by show (0 : Nat) ≤ 4096; decide, by show (0 : Nat) ≤ 4096; decide, by show (1 : Nat) ≤ 4096; decide⟩⟩
          exact (hy2.q ((Q.refl (al wr (ev2L (97 + (k : Int)) oB))).alloc _)).grown ((unhide HOW).alloc _) hgrow
        clear hown2 hgrow hor HOW HEW
        go_wp2
        go_roundw
        case rel =>
          refine ⟨k + 1, es ++ [((ed2 k, (some ⟨wr.heap.size + 1, 0, none⟩, 1), (none, 0), (none, 0), (some ⟨wr.heap.size + 1 + 1, 0, none⟩, 1)) : EdA)], _, some ⟨g', 0, none⟩, cp', by omega, by go_num, rfl, ?_, ?_, ?_, unhide HO, hq9, HE9, ?_⟩
          · simp
          · simp; omega
          · have := HZ.out; omega
          · show Run _ _
            rw [List.map_append]
            exact HRR.out
        case measure => simp [intOf]; omega
    · have HMF := hide (HRN.out.mf (by rw [bl_size]; omega))
      have HGW : Hid (∀ w2 po, Q wr w2 → RowP w2 po (grOf (meS (es.map Prod.fst))).2.1 → GrR w2 (grOf (meS (es.map Prod.fst))) es ao po none) := by
        intro w2 po q hp
        have hE2 : ∀ x ∈ es, EdK w2 x := fun x hx => (HE.out x hx).q q
        exact ⟨RowG.own ev_len (by decide) (own_q hown q), rfl, hp, Or.inl rfl, fun x hx => (hE2 x hx).rd, fun x hx => (hE2 x hx).l, (by omega), (by show (1 : Nat) ≤ 4096; decide), (by show (0 : Nat) ≤ 4096; decide)⟩
      have hel : es.length ≤ 8 := by omega
      clear HRN HE hown hcells
      go_wp2_with fail
      refine (parse_gr t wr ((unhide HT).q (q1.trans hq)) (by unfold maxLen; omega) (mf_of (unhide HMF))).mono ?_
      rintro e w2 ⟨es2, eo, po, dd, ec, pc, dc, rfl, hr2, q2⟩
      have HR2 := hide hr2
      clear hr2 HMF
      have hg1 : (grOf (meS (es.map Prod.fst))).2.1.length = 1 := rfl
      have hg2 : (grOf (meS (es.map Prod.fst))).2.2.length = 0 := rfl
      go_wp2_with (go_at_call 12; refine (num_any _ _).mono ?_; rintro e w' ⟨rfl, rfl⟩)
      change Calls _ _ _ (al w2 [(#[.slice eo es2.length ec, .slice po 1 pc, .slice dd 0 dc], 26), (#[.string (ByteArray.mk #[112]), .int .i64 3], 44)]) _
      have qa := al_q [(#[.slice eo es2.length ec, .slice po 1 pc, .slice dd 0 dc], 26), (#[.string (ByteArray.mk #[112]), .int .i64 3], 44)] w2
      have hb : Blk (al w2 [(#[.slice eo es2.length ec, .slice po 1 pc, .slice dd 0 dc], 26), (#[.string (ByteArray.mk #[112]), .int .i64 3], 44)]) (w2.heap.size + 1) #[.string (ByteArray.mk #[112]), .int .i64 3] 44 := al_blk [(#[.slice eo es2.length ec, .slice po 1 pc, .slice dd 0 dc], 26), (#[.string (ByteArray.mk #[112]), .int .i64 3], 44)] w2 1 (#[.string (ByteArray.mk #[112]), .int .i64 3], 44) rfl
      refine (sameG_any (grOf (meS (es.map Prod.fst))) (grOf (meS (es.map Prod.fst))) es2 es eo po dd ao (some ⟨w2.heap.size + 1, 0, none⟩) none ec pc dc cp 1 0 _ ((unhide HR2).q' qa) (HGW.out _ _ (q2.trans qa) (rowB plv_len hb [([112], 3)] rfl))).mono ?_
      rintro e w9 ⟨rfl, q9⟩
      rw [(eqGr_iff _ _).2 rfl]
      go_wp2_with fail
      go_ret
      exact ⟨rfl, (((q1.trans hq).trans q2).trans qa).trans q9⟩

theorem Tryz.laidOut : laidOutB Tryz.prog = true := by kernel_rfl
set_option maxRecDepth 100000 in
theorem manifestEdges_lifted (os : Os) (started : os.Started) (H : Type) (enc : TypeId × Value → H) :
    ReturnsInHanded {} Tryz.checked os 6 .any (fun w args => (Rows.manifestEdgesSpec.pre enc Tryz.prog Tryz.f6 [] false w args ∧ laidMetH Tryz.prog Rows.manifestEdgesRow.laid w) ∧ sizedMet enc Tryz.prog Tryz.f6 (OpenSpec.ofChange Rows.manifestEdgesSpec) false w args) (Rows.manifestEdgesSpec.post enc Tryz.prog Tryz.f6 false true false false) := by
  refine returnsInHanded_of_change_and (C := Tryz.checked) (X := fun w _ => laidMetH Tryz.prog Rows.manifestEdgesRow.laid w) (fun _ _ _ hh h => h.of_heap hh) Tryz.own started (by kernel_rfl) Tryz.func6
    (ChangeSpec.witness_shaped (enc := enc) (C := Tryz.checked) (os := os) (X := fun w _ => laidMetH Tryz.prog Rows.manifestEdgesRow.laid w) false (World.laidAll Tryz.prog os Rows.manifestEdgesRow.laid) #[.slice none 0 0] 8 (World.laidAll_os _ _ _)
      (World.shaped_of_ZipB (by kernel_rfl) (by kernel_rfl)) (by kernel_rfl) (by kernel_rfl) (by kernel_rfl)
      (by rw [MakeChecks.laidMetH_plain _ _ _ (by kernel_rfl)]; exact laidMet_laidAll _ (by kernel_rfl) (by kernel_rfl))) ?_
  intro W base args ds gs before hval0 hW _ hsz0 hL _
  have hval : ∀ (j : Nat) t v, Tryz.f6.params[j]? = some t → args[j]? = some v → Value.okWide Tryz.prog W .any base t v := hval0
  have hW' := hW
  obtain ⟨p, q, hA0, hV, rfl, hfz, hnd⟩ := hW
  have hA : DataW.TrodAll enc Tryz.prog W 0 (fun _ => true) true Tryz.f6.params.toList args.toList ds p := hA0
  rw [Tryz.params6] at hA hval
  obtain ⟨v0, vs0, d0, ds0, p0, q0, hargs, rfl, rfl, h0, r0⟩ := trodAll_cons hA
  obtain ⟨rfl, rfl, rfl⟩ := trodAll_nil r0
  obtain rfl : args = #[v0] := by cases args; simp_all
  obtain ⟨rfl, rfl⟩ := trodVars_none hV
  obtain ⟨a0, len0, cap0, rfl⟩ := okWide_slice Tryz.underlying40 (hval 0 40 v0 rfl rfl)
  have k0 := h0
  have lt0 : ∀ x ∈ p0, x.block < W.heap.size := by obtain ⟨m, hm⟩ := k0; exact DataW.trod_lt m _ _ _ hm
  obtain ⟨z0, w0⟩ : ∃ zs, IsRow .i64 W a0 len0 cap0 zs := is_row Tryz.underlying40 Tryz.underlying3 (by kernel_rfl) h0
  clear hA0 hval0
  refine (manifestEdges_any W a0 len0 cap0 z0 w0 (tab_of_laid (laid := Rows.manifestEdgesRow.laid) (by kernel_rfl) hL)).mono fun e W' ⟨he, bel⟩ => ?_
  subst he
  exact ⟨_, rfl, _, _, _, [], _, [], hW', trodAll_mk1 (shut_bool Tryz.underlying4 _), (trodAll_cons_mk (Below.trod Tryz.laidOut (by kernel_rfl) (of_decide_eq_true (by kernel_rfl)) k0 bel lt0) trodAll_mk0), rfl, bel.frame _, fun h => by cases h⟩

theorem manifestEdges_holds : Rows.ManifestEdgesSaid :=
  OpenClaim.holds_of_wide 6 Tryz.f6 rfl rfl rfl rfl rfl rfl rfl ⟨rfl, rfl, rfl, rfl, rfl⟩ rfl rfl rfl rfl rfl (by kernel_rfl) Tryz.func6 (by kernel_rfl)
    (of_decide_eq_true (by kernel_rfl)) (by unfold Func.isWrapper; first | (rw [if_pos (by decide +kernel)]; kernel_rfl) | (rw [if_neg (by decide +kernel)]; exact ⟨rfl, rfl⟩))
    (fun os started H enc _ => manifestEdges_lifted os started H enc)
theorem manifestEdges_card : Rows.ManifestEdgesCardSaid :=
  Claim7.holds_tied_plain_at .later [] [.data, .listed, .data, .pinned] true (true, "8dec6f50e5afba32322cf8ec189691581cdc57b45edadbf051f5816f0efe4019") false manifestEdges_holds (fun _ h => by cases h) (by kernel_rfl) (fun _ h => by cases h) manifestEdges_row_tie rfl ⟨rfl, rfl⟩ (by kernel_rfl) rfl
    (fun f fn hf hfn => by
      obtain rfl : f = 6 := Option.some.inj ((show Tryz.prog.funcNamed Rows.manifestEdgesRow.func = some 6 by kernel_rfl).symm.trans hf) |>.symm
      obtain rfl : fn = Tryz.f6 := (Option.some.inj (Tryz.func6.symm.trans hfn)).symm
      exact ⟨by kernel_rfl, fun j t ht => by
        rw [Tryz.params6] at ht
        have hm : t ∈ [40] := by simpa using Array.mem_of_getElem? ht
        have hall : ([40].all fun u => !Tryz.prog.wantsStandIn u) = true := by kernel_rfl
        exact (show Tryz.prog.wantsStandIn t = false by simpa using List.all_eq_true.1 hall t hm)⟩)
    (by kernel_rfl)
#print axioms manifestEdges_card
end Go.Proofs.YtgfegbeickaknaaGreatDoor
