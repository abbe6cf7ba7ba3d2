/- Does a path stand twice among the outputs, as package graph's twice answers (by the library's sort); which edge has a name, by the library's Contains; the conditions: the edges lie in memory, at most 16 of them with at most 8 outputs each. -/
import Derived.Shelf.Sort.Plain
import Derived.Shelf.Slices.In.SortNone
import Derived.Sort.OwnSorted
import Derived.Test.YtfadjppokbolhaaGreatDoorGfCont
import Derived.Test.YtfadjppokbolhaaGreatDoorStAppend
import Derived.Test.YtfadjppokbolhaaGreatDoorShelf
namespace Go.Proofs.YtfadjppokbolhaaGreatDoor
open Go.RowKit Go.Sort

theorem sort_none (p : Option Addr) (cap : Nat) (w : World) :
    Calls Tryz.prog 31 #[.slice p 0 cap] w fun e w' => e = .returned (.tuple #[]) ∧ w' = w := Any.slices_Sort_string_none Tryz.lays190 p cap w

theorem lay_enc (ys : Ws) : lay tv ys = ys.map encStr := by
  induction ys with
  | nil => rfl
  | cons x r ih => show tv x ++ lay tv r = _; rw [ih]; rfl

/-- The library's sort of a row that the call owns. -/
theorem sort_own (B : Nat) (ys : Ws) (ao : Option Addr) (cap : Nat) (w : World) (ho : OwnT w B ao cap ys) (hl : ys.length ≤ 4096) :
    Calls Tryz.prog 31 #[.slice ao ys.length cap] w fun e w' => e = .returned (.tuple #[]) ∧ OwnT w' B ao cap (srt ys) ∧ Fr (fun k => (Value.slice ao ys.length cap).ownBlock = some k) w w' := by
  have ho' := ho
  rcases ho'.2 with ⟨h0, h1⟩ | ⟨g, cap', cur, e1, hbase, hb, h1, h2, h3, h4⟩
  · have hy : ys = [] := List.eq_nil_of_length_eq_zero h1
    subst hy
    cases h0
    refine (sort_none none 0 w).mono ?_
    rintro e w' ⟨rfl, rfl⟩
    refine ⟨rfl, ?_, Fr.refl _ _⟩
    have : srt ([] : Ws) = [] := by rw [← List.length_eq_zero_iff, srt_len]; rfl
    rw [this]; exact ho
  · cases e1
    have hH : Holds encStr w g 0 ys.toArray := holds_of_block hb (by rw [← lay_enc]; simpa using h4)
    have h := Any.slices_Sort_string Tryz.lays190 g 0 cap ys w hH (Array.getElem?_eq_some_iff.1 hb).1 (by omega)
    refine Calls.mono h ?_
    rintro e w' ⟨rfl, n, os, rfl⟩
    refine ⟨rfl, ?_, Fr.grown (grownBy_sorted _)⟩
    have hs := ownsRow_sorted (n := n) (os := os) (ss := ys) (ts := srt ys) (srt_len ys) hbase hb h1 h2 h3
    show World.ownsRow _ B 9 1 (.slice _ (srt ys).length cap) (srt ys).length (lay tv (srt ys))
    rw [srt_len, lay_enc]
    exact hs

theorem ou_succ {es : List EdA} {k : Nat} {x : EdA} (h : es[k]? = some x) : ouL ((es.take (k + 1)).map Prod.fst) = ouL ((es.take k).map Prod.fst) ++ x.1.1 := by
  unfold ouL
  rw [List.take_add_one, h, List.map_append, List.flatMap_append]
  simp

set_option maxRecDepth 20000 in
set_option maxHeartbeats 8000000 in
theorem twice_any (es : List EdA) (eo : Option Addr) (ec : Nat) (w : World) (he : RowG ev 7 w eo es) (hq0 : ∀ x ∈ es, EdRd w x) (h16 : es.length ≤ 16) (h8 : ∀ x ∈ es, x.1.1.length ≤ 8) :
    Calls Tryz.prog 23 #[.slice eo es.length ec] w fun e w' => e = .returned (.bool (twB (ouL (es.map Prod.fst)))) ∧ Q w w' := by
  obtain ⟨i0, hi, hz0, hz1, hz2⟩ : ∃ i0, Tryz.prog.info? 9 = some i0 ∧ i0.zero = some (.string ByteArray.empty) ∧ i0.size = 1 ∧ i0.bytes = 16 := ⟨_, rfl, rfl, rfl, rfl⟩
  have HQ0 := hide hq0
  have H8 := hide h8
  have HE := hide he
  clear hq0 h8 he
  go_enter Tryz.func23, Tryz.ntmps23
  go_wp2_with fail
  go_loopw [3, 9] (fun s i wr => ∃ (k : Nat) (ys : Ws) (ao : Option Addr) (cap : Nat), k ≤ es.length ∧ i = .int .i64 k ∧ s = .slice ao ys.length cap ∧ ys.length ≤ 8 * k ∧ OwnT wr w.heap.size ao cap ys ∧ Q w wr ∧ Hid (ys = ouL ((es.take k).map Prod.fst))) (fun _ i _ => es.length - (intOf i).toNat)
  case atStart => exact ⟨0, [], none, 0, Nat.zero_le _, rfl, rfl, Nat.le_refl _, World.ownsRow_nil _ _ _ _, Q.refl _, rfl⟩
  case round =>
    obtain ⟨k, ys, ao, cap, hk, rfl, rfl, hyl, hown, hq, HY⟩ := hrel
    by_cases hlt : k < es.length
    · rcases (unhide HE).q hq with he | ⟨g, o, rfl, hg, hcell⟩
      · rw [he] at hlt; simp at hlt
      · obtain ⟨b, hb⟩ : ∃ b, es[k]? = some b := ⟨es[k], List.getElem?_eq_getElem hlt⟩
        have c0 : wr.cell? ⟨g, o + k * 7, none⟩ = some (.slice b.2.1.1 b.1.1.length b.2.1.2) := hcell k 0 b _ hb (by decide) rfl
        have c1 : wr.cell? ⟨g, o + k * 7 + 1, none⟩ = some (.slice b.2.2.1.1 b.1.2.1.length b.2.2.1.2) := hcell k 1 b _ hb (by decide) rfl
        have c2 : wr.cell? ⟨g, o + k * 7 + 2, none⟩ = some (.slice b.2.2.2.1.1 b.1.2.2.1.length b.2.2.2.1.2) := hcell k 2 b _ hb (by decide) rfl
        have c3 : wr.cell? ⟨g, o + k * 7 + 3, none⟩ = some (.slice b.2.2.2.2.1 b.1.2.2.2.1.length b.2.2.2.2.2) := hcell k 3 b _ hb (by decide) rfl
        have c4 : wr.cell? ⟨g, o + k * 7 + 4, none⟩ = some (.string ⟨b.1.2.2.2.2.1.toArray⟩) := hcell k 4 b _ hb (by decide) rfl
        have c5 : wr.cell? ⟨g, o + k * 7 + 5, none⟩ = some (.bool b.1.2.2.2.2.2.1) := hcell k 5 b _ hb (by decide) rfl
        have c6 : wr.cell? ⟨g, o + k * 7 + 6, none⟩ = some (.string ⟨b.1.2.2.2.2.2.2.toArray⟩) := hcell k 6 b _ hb (by decide) rfl
        have hb8 := unhide H8 b (List.mem_of_getElem? hb)
        have HR := hide (((unhide HQ0) b (List.mem_of_getElem? hb)).a.q hq)
        have HS := hide (ou_succ hb)
        clear hcell hb
        have HOB : Hid (OwnT (wr.alloc (.cells #[.slice b.2.1.1 b.1.1.length b.2.1.2, .slice b.2.2.1.1 b.1.2.1.length b.2.2.1.2, .slice b.2.2.2.1.1 b.1.2.2.1.length b.2.2.2.1.2, .slice b.2.2.2.2.1 b.1.2.2.2.1.length b.2.2.2.2.2, .string ⟨b.1.2.2.2.2.1.toArray⟩, .bool b.1.2.2.2.2.2.1, .string ⟨b.1.2.2.2.2.2.2.toArray⟩] 41)) w.heap.size ao cap ys) := own_q hown ((Q.refl _).alloc _)
        have HRB := hide ((unhide HR).q ((Q.refl wr).alloc (.cells #[.slice b.2.1.1 b.1.1.length b.2.1.2, .slice b.2.2.1.1 b.1.2.1.length b.2.2.1.2, .slice b.2.2.2.1.1 b.1.2.2.1.length b.2.2.2.1.2, .slice b.2.2.2.2.1 b.1.2.2.2.1.length b.2.2.2.2.2, .string ⟨b.1.2.2.2.2.1.toArray⟩, .bool b.1.2.2.2.2.2.1, .string ⟨b.1.2.2.2.2.2.2.toArray⟩] 41)))
        have hqb := hq.alloc (.cells #[.slice b.2.1.1 b.1.1.length b.2.1.2, .slice b.2.2.1.1 b.1.2.1.length b.2.2.1.2, .slice b.2.2.2.1.1 b.1.2.2.1.length b.2.2.2.1.2, .slice b.2.2.2.2.1 b.1.2.2.2.1.length b.2.2.2.2.2, .string ⟨b.1.2.2.2.2.1.toArray⟩, .bool b.1.2.2.2.2.2.1, .string ⟨b.1.2.2.2.2.2.2.toArray⟩] 41)
        clear HR hown
        go_wp2_with (at_builtin; refine wpList_append_row rfl _ _ 24 rfl w.heap.size 9 i0 (.string ByteArray.empty) 1 16 Tryz.underlying24 hi hz0 hz1 hz2 rfl (by decide) ao ys.length cap (lay tv ys) rfl (unhide HOB) b.2.1.1 b.1.1.length b.2.1.2 (lay tv b.1.1) rfl (SrcRow.row tv_len (by decide) (unhide HRB)) (one_layT b.1.1) (by unfold maxLen; omega) (by omega) hqb.size ?_)
        intro ao3 cap3 w3 own3 grow3
        have hq3 : Q w w3 := Below.grown hqb grow3 hqb.size (fun r hr => ((unhide HOB).lt r hr).1)
        have HO3 : Hid (OwnT w3 w.heap.size ao3 cap3 (ys ++ b.1.1)) := by
          show World.ownsRow _ _ _ _ (.slice _ (ys ++ b.1.1).length _) (ys ++ b.1.1).length (lay tv (ys ++ b.1.1))
          rw [List.length_append, lay_app]; exact own3
        have HY3 : Hid (ys ++ b.1.1 = ouL ((es.take (k + 1)).map Prod.fst)) := by show _ = _; rw [unhide HS, ← HY.out]
        clear own3 grow3 HY HS HOB HRB
        go_wp2
        go_roundw
        case rel =>
          refine ⟨k + 1, ys ++ b.1.1, ao3, cap3, by omega, by go_num, ?_, ?_, unhide HO3, hq3, HY3⟩
          · simp
          · simp; omega
        case measure => simp [intOf]; omega
    · have HYA : Hid (ys = ouL (es.map Prod.fst)) := by
        have := HY.out
        rwa [List.take_of_length_le (by omega)] at this
      have HSO := hide (sort_own w.heap.size ys ao cap wr hown (by omega))
      have hlo := fun r hr => (hown.lt r hr).1
      have HLO := hide hlo
      have hy128 : ys.length ≤ 128 := by omega
      clear HY hown hlo
      go_wp2_with fail
      refine (unhide HSO).mono ?_
      rintro e w2 ⟨rfl, own2, fr2⟩
      have hq2 : Q w w2 := ⟨fr2.os.trans hq.os, fr2.tape.trans hq.tape, fr2.output.trans hq.output, Nat.le_trans hq.size fr2.size, fun i hi => (fr2.block i (Nat.lt_of_lt_of_le hi hq.size) (fun hx => by have := (unhide HLO) i hx; omega)).trans (hq.block i hi)⟩
      have HR2 : Hid (RowT w2 ao (srt ys)) := OwnT.row own2
      have HL : Hid ((srt ys).length = ys.length) := srt_len ys
      clear own2 fr2 HSO HLO
      go_wp2_with fail
      go_loopw [6] (fun i wr => ∃ j : Nat, i = .int .i64 ((j : Int) + 1) ∧ Q w2 wr ∧ j ≤ ys.length ∧ Hid (∀ m x, m < j → (srt ys)[m]? = some x → (srt ys)[m + 1]? ≠ some x)) (fun i _ => ys.length + 1 - (intOf i).toNat)
      case atStart => exact ⟨0, rfl, Q.refl _, by omega, fun m x hj => by omega⟩
      case round =>
        obtain ⟨j, rfl, hqk, hk2, HN⟩ := hrel
        by_cases hlt : j + 1 < ys.length
        · rcases (unhide HR2).q hqk with he | ⟨g, o, rfl, hg, hcell⟩
          · have := HL.out; rw [he] at this; simp at this; omega
          · have hlt2 : j + 1 < (srt ys).length := by rw [HL.out]; exact hlt
            obtain ⟨a, ha⟩ : ∃ a, (srt ys)[j]? = some a := ⟨_, List.getElem?_eq_getElem (by omega)⟩
            obtain ⟨b, hb⟩ : ∃ b, (srt ys)[j + 1]? = some b := ⟨_, List.getElem?_eq_getElem hlt2⟩
            have ca : wr.cell? ⟨g, o + j, none⟩ = some (.string ⟨a.toArray⟩) := by have := hcell j 0 a _ ha (by decide) rfl; simpa using this
            have cb : wr.cell? ⟨g, o + (j + 1), none⟩ = some (.string ⟨b.toArray⟩) := by have := hcell (j + 1) 0 b _ hb (by decide) rfl; simpa using this
            have hx : ((⟨a.toArray⟩ : ByteArray).toList == (⟨b.toArray⟩ : ByteArray).toList) = (a == b) := by rw [txt_beq]; rfl
            have j0 : (0 : Int) ≤ (j : Int) := Int.natCast_nonneg _
            have j1 : (j : Int) < (ys.length : Int) := by omega
            have j2 : (j : Int) + 1 < (ys.length : Int) := by omega
            have jn : ((j : Int) + 1).toNat = j + 1 := by omega
            have HA := hide ha
            have HB := hide hb
            have hqq : ∀ n, Q w2 (wr.drewN n) := fun n => hqk.drewN n
            clear hcell ha hb hlt2
            generalize (⟨a.toArray⟩ : ByteArray) = xa at *
            generalize (⟨b.toArray⟩ : ByteArray) = xb at *
            cases hab : (a == b)
            · rw [hab] at hx
              have HN2 : Hid (∀ m x, m < j + 1 → (srt ys)[m]? = some x → (srt ys)[m + 1]? ≠ some x) := by
                show ∀ m x, _
                intro m x hm hx hy
                rcases Nat.lt_or_ge m j with h | h
                · exact HN.out m x h hx hy
                · obtain rfl : m = j := by omega
                  rw [HA.out] at hx; rw [HB.out] at hy
                  rw [Option.some.inj hx, Option.some.inj hy] at hab
                  simp at hab
              clear hab HA HB HN
              go_wp2_with fail
              go_quiet (fail)
              go_wp2_with fail
              go_roundw
              case rel => exact ⟨j + 1, by go_num, hqq _, by omega, HN2⟩
              case measure => simp [intOf]; omega
            · rw [hab] at hx
              have HT : Hid (twB (ouL (es.map Prod.fst)) = true) := by
                show _ = _
                rw [← HYA.out]
                refine srt_two (k := j) (x := a) HA.out ?_
                rw [HB.out, beq_iff_eq.1 hab]
              clear hab HA HB HN
              go_wp2_with fail
              go_quiet (fail)
              go_wp2_with fail
              go_ret
              exact ⟨ret_bool HT.out.symm, hq2.trans (hqq _)⟩
        · have HT : Hid (twB (ouL (es.map Prod.fst)) = false) := by
            show _ = _
            rw [← HYA.out]
            refine srt_one (fun m x hx hy => ?_)
            have h1 := (List.getElem?_eq_some_iff.1 hy).1
            rw [HL.out] at h1
            exact HN.out m x (by omega) hx hy
          have hlt2 : (ys.length : Int) ≤ (j : Int) + 1 := by omega
          clear HN
          go_wp2_with fail
          go_ret
          exact ⟨ret_bool HT.out.symm, hq2.trans hqk⟩

end Go.Proofs.YtfadjppokbolhaaGreatDoor
