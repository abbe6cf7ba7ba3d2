/- Rows of binds that a call owns: one more appended; package scope's copied; the conditions: at most 16 binds, each of short texts. -/
import Derived.Test.YtegcckaemhdkgaaScGet
import Derived.Deep.RegionHeld3
namespace Go.Proofs.Ytegcckaemhdkgaa
open Go.RowKit

theorem Try.infoD : (Try.prog.info? 37).map (fun i => (i.zero, i.size, i.bytes)) = some (some (.agg #[.string ByteArray.empty, .string ByteArray.empty]), 2, 32) := by kernel_rfl

abbrev OwnD (w : World) (B : Nat) (ao : Option Addr) (cap : Nat) (bs : List Bd) : Prop := w.ownsRow B 37 2 (.slice ao bs.length cap) bs.length (lay dv bs)

theorem OwnD.snoc {w : World} {B cap : Nat} {ao : Option Addr} {bs : List Bd} {b : Bd} (h : w.ownsRow B 37 2 (.slice ao (bs.length + 1) cap) (bs.length + 1) (lay dv bs ++ [.string b.1, .string b.2])) : OwnD w B ao cap (bs ++ [b]) := by
  show w.ownsRow B _ 2 (.slice ao (bs ++ [b]).length cap) (bs ++ [b]).length (lay dv (bs ++ [b]))
  rw [lay_snoc, List.length_append]; exact h
theorem OwnD.row {w : World} {B : Nat} {ao : Option Addr} {cap : Nat} {bs : List Bd} (h : OwnD w B ao cap bs) : RowD w ao bs := RowG.own dv_len (by decide) h
theorem one_ss (x y : ByteArray) : ∀ u ∈ [Value.string x, .string y], u.oneCell' = true := by intro u hu; simp at hu; rcases hu with rfl | rfl <;> rfl

theorem box_s (wr : World) (x y : ByteArray) (t : TypeId) : (wr.alloc (.cells #[.string x, .string y] t)).drew.cell? ⟨wr.heap.size, 0, none⟩ = some (.string x) ∧ (wr.alloc (.cells #[.string x, .string y] t)).drew.cell? ⟨wr.heap.size, 1, none⟩ = some (.string y) :=
  ⟨by simp, by simp⟩
theorem box_t {u u' : World} {g : Nat} {x y : ByteArray} (h : u.cell? ⟨g, 0, none⟩ = some (.string x) ∧ u.cell? ⟨g, 1, none⟩ = some (.string y)) (q : Q u u') : u'.cell? ⟨g, 0, none⟩ = some (.string x) ∧ u'.cell? ⟨g, 1, none⟩ = some (.string y) :=
  have hg := World.block_lt_of_cell? u _ h.1
  ⟨(q.cell (p := ⟨g, 0, none⟩) hg).trans h.1, (q.cell (p := ⟨g, 1, none⟩) hg).trans h.2⟩
theorem box_g {u u' : World} {g : Nat} {x y : ByteArray} {row : Option Nat} (h : u.cell? ⟨g, 0, none⟩ = some (.string x) ∧ u.cell? ⟨g, 1, none⟩ = some (.string y)) (hgrow : u.grownBy u' row) (hne : row ≠ some g) : u'.cell? ⟨g, 0, none⟩ = some (.string x) ∧ u'.cell? ⟨g, 1, none⟩ = some (.string y) :=
  have hg := World.block_lt_of_cell? u _ h.1
  ⟨(hgrow.cell_far ⟨g, 0, none⟩ hg (Ne.symm hne)).trans h.1, (hgrow.cell_far ⟨g, 1, none⟩ hg (Ne.symm hne)).trans h.2⟩

set_option maxRecDepth 20000 in
set_option maxHeartbeats 4000000 in
theorem copied_any (bs : List Bd) (ao : Option Addr) (cap : Nat) (w : World) (hr : RowD w ao bs) (hl : bs.length ≤ 16) (hm : ∀ b ∈ bs, b.1.size ≤ 16 ∧ b.2.size ≤ 256) :
    Calls Try.prog 22 #[.slice ao bs.length cap] w fun e w' => ∃ ao' cap', e = .returned (.slice ao' bs.length cap') ∧ OwnD w' w.heap.size ao' cap' bs ∧ Q w w' := by
  obtain ⟨i0, hi, hz0, hz1, hz2⟩ := info_parts Try.infoD
  go_enter Try.func22, Try.ntmps22
  go_wp2_with fail
  go_loopw [3, 8] (fun v i wr => ∃ (k : Nat) (bo : Option Addr) (bcap : Nat), k ≤ bs.length ∧ i = .int .i64 k ∧ v = .slice bo k bcap ∧ Hid (wr.ownsRow w.heap.size 37 2 (.slice bo k bcap) k (lay dv (bs.take k))) ∧ Q w wr) (fun _ i _ => bs.length - (intOf i).toNat)
  case atStart => exact ⟨0, none, 0, Nat.zero_le _, rfl, rfl, World.ownsRow_nil _ _ _ _, Q.refl _⟩
  case round =>
    obtain ⟨k, bo, bcap, hk, rfl, rfl, HO, hq⟩ := hrel
    by_cases hlt : k < bs.length
    · rcases hr.q hq with he | ⟨g, o, rfl, hg, hcell⟩
      · rw [he] at hlt; simp at hlt
      obtain ⟨b, hb⟩ : ∃ b, bs[k]? = some b := ⟨bs[k], List.getElem?_eq_getElem hlt⟩
      have c1 : wr.cell? ⟨g, o + k * 2, none⟩ = some (.string b.1) := hcell k 0 b _ hb (by decide) rfl
      have c2 : wr.cell? ⟨g, o + k * 2 + 1, none⟩ = some (.string b.2) := hcell k 1 b _ hb (by decide) rfl
      have hbm := hm b (List.mem_of_getElem? hb)
      have HC1 := hide (clone_any b.1 · (by omega))
      have HC2 := hide (clone_any b.2 · (by omega))
      have HT : Hid (lay dv (bs.take (k + 1)) = lay dv (bs.take k) ++ [.string b.1, .string b.2]) := by
        show _ = _
        rw [List.take_add_one, hb]
        exact lay_snoc dv _ b
      have hS0 := box_s wr b.1 b.2 37
      have HW := hide ((Q.refl wr).alloc (.cells #[.string b.1, .string b.2] 37)).drew
      have HNE : Hid ((Value.slice bo k bcap).ownBlock ≠ some wr.heap.size) := fun h => by have := (HO.out.lt _ h).2; omega
      have hBw := hq.size
      clear hcell hb hbm hm
      go_wp2_with fail
      first
        | (go_region_held3 (fun w' => w'.cell? ⟨wr.heap.size, 0, none⟩ = some (.string b.1) ∧ w'.cell? ⟨wr.heap.size, 1, none⟩ = some (.string b.2))
            (first | exact hS0 | exact hS1 | exact hS2 | exact box_t hS2 ((Q.refl _).alloc _) | exact hS3)
            (first
              | (go_at_call_of 23 b.1; refine (unhide HC1 _).mono ?_; rintro e w1 ⟨rfl, q1⟩; have hS1 := box_t hS0 q1)
              | (go_at_call_of 23 b.2; refine (unhide HC2 _).mono ?_; rintro e w2 ⟨rfl, q2⟩; have hS2 := box_t hS1 q2)
              | (refine step_append_lies _ (by rfl) _ _ _ (by rfl) w.heap.size 37 i0 _ 2 32 Try.underlying22 hi hz0 hz1 hz2 rfl (by decide) (.slice bo k bcap) k (lay dv (bs.take k)) (by rfl) ((own_q HO.out ((unhide HW).trans (q1.trans q2))).alloc _) ⟨w2.heap.size, 0, none⟩ 1 1 [.string b.1, .string b.2] (by rfl) (by rfl) (news_new w2 #[.string b.1, .string b.2] _) (one_ss _ _) (by decide) (by unfold maxLen; omega) (by omega) (le_alloc (Nat.le_trans hBw (Nat.le_trans (unhide HW).size (Nat.le_trans q1.size q2.size))) _) (w2.heap.size + 1) (by simp) ?_
                 intro g3 cp3 w3 hown3 hgrow3 hor3 hlt3
                 have hS3 := box_g (box_t hS2 ((Q.refl _).alloc _)) hgrow3 HNE.out)))
        | fail
      have hq2 : Q w w2 := hq.trans ((unhide HW).trans (q1.trans q2))
      have hq3 : Q w w3 := Below.grown (hq2.alloc _) hgrow3 (le_alloc hq2.size _) (fun r hr => (HO.out.lt r hr).1)
      have HO3 : Hid (w3.ownsRow w.heap.size 37 2 (.slice (some ⟨g3, 0, none⟩) (k + 1) cp3) (k + 1) (lay dv (bs.take (k + 1)))) := by
        show World.ownsRow _ _ _ _ _ _ _
        rw [HT.out]; exact hown3
      clear hown3 hgrow3 hor3 hS0 hS1 hS2 hS3 q1 q2 HT HO c1 c2
      go_wp2_with fail
      go_roundw
      case rel => exact ⟨k + 1, some ⟨g3, 0, none⟩, cp3, by omega, by go_num, rfl, HO3, hq3⟩
      case measure => simp [intOf]; omega
    · have hkl : k = bs.length := by omega
      have HF : Hid (OwnD wr w.heap.size bo bcap bs) := by
        have h := HO.out
        rw [List.take_of_length_le (by omega), hkl] at h
        exact h
      clear HO
      subst hkl
      go_wp2_with fail
      go_ret
      exact ⟨bo, bcap, rfl, HF.out, hq⟩

end Go.Proofs.Ytegcckaemhdkgaa
