/- Which edge makes a name, as the document's own MakerOf answers; the conditions: the graph lies in memory. -/
import Derived.Test.YtfadjppokbolhaaGreatDoorGfHas
import Derived.Test.YtfadjppokbolhaaGreatDoorGfTwice
import Derived.Test.YtfadjppokbolhaaGreatDoorGfCheck
namespace Go.Proofs.YtfadjppokbolhaaGreatDoor
open Go.RowKit

set_option maxRecDepth 20000 in
set_option maxHeartbeats 4000000 in
theorem rMo_any (g : Gh) (n : ByteArray) (es : List EdA) (eo po dd : Option Addr) (ec pc dc : Nat) (w : World) (hg : GfR w g es eo po dd) :
    Calls Tryz.prog 27 #[.agg #[.slice eo es.length ec, .slice po g.2.1.length pc, .slice dd g.2.2.length dc], .string n] w fun e w' => e = .returned (.int .i64 (mkA g.1 (bl n))) ∧ Q w w' := by
  have qb := grB_q w es g eo po dd ec pc dc
  have HB1 := hide (grB_blk w es g eo po dd ec pc dc)
  have hle : es.length ≤ 140737488355328 := by rw [hg.len]; exact hg.z.le
  have HMA := hide (mkA_map es (bl n))
  rw [hg.em] at HMA
  have HE := hide hg.e
  have HQ0 := hide (fun x (hx : x ∈ es) => (⟨hg.q x hx, (hg.ez hx).a.n⟩ : EdRd w x ∧ x.1.1.length ≤ 140737488355328))
  clear hg
  go_enter Tryz.func27, Tryz.ntmps27
  go_wp2_with fail
  change Code.wp _ _ _ _ (grB w es g eo po dd ec pc dc)
  generalize grB w es g eo po dd ec pc dc = wb at *
  generalize hX : w.heap.size = X at HB1 ⊢
  clear hX
  go_loopw [5] (fun i wr => ∃ k : Nat, k ≤ es.length ∧ i = .int .i64 k ∧ Hid ((es.take k).any (fun x : EdA => x.1.1.contains (bl n)) = false) ∧ wr = wb) (fun i _ => es.length - (intOf i).toNat)
  case atStart => exact ⟨0, Nat.zero_le _, rfl, rfl, rfl⟩
  case round =>
    obtain ⟨k, hk, rfl, HA, rfl⟩ := hrel
    have x0 : wr.cell? ⟨X, 0, none⟩ = some (.slice eo es.length ec) := (unhide HB1).cell 0 rfl
    by_cases hlt : k < es.length
    · rcases (unhide HE).q qb with he | ⟨g', o, rfl, hg', hcell⟩
      · rw [he] at hlt; simp at hlt
      · obtain ⟨b, hb⟩ : ∃ b, es[k]? = some b := ⟨es[k], List.getElem?_eq_getElem hlt⟩
        have c0 : wr.cell? ⟨g', o + k * 7, none⟩ = some (.slice b.2.1.1 b.1.1.length b.2.1.2) := hcell k 0 b _ hb (by decide) rfl
        have hmem := List.mem_of_getElem? hb
        have HC := hide (has_any b.1.1 n b.2.1.1 b.2.1.2 wr ((unhide HQ0 b hmem).1.a.q qb) (unhide HQ0 b hmem).2)
        rw [any_contains] at HC
        have HT := hide (anyt_succ (fun x : EdA => x.1.1.contains (bl n)) hb)
        have HH := hide (fun h => ixB_at (p := fun x : EdA => x.1.1.contains (bl n)) hb HA.out h)
        clear hcell hb hmem
        cases hok : b.1.1.contains (bl n)
        · have HO : Hid ((es.take (k + 1)).any (fun x : EdA => x.1.1.contains (bl n)) = false) := by
            show _ = false
            rw [unhide HT, HA.out]; simpa using hok
          rw [hok] at HC
          clear hok HT HH HA
          go_wp2_with fail
          refine (unhide HC).mono ?_
          rintro e w2 ⟨rfl, rfl⟩
          go_wp2_with fail
          go_roundw
          case rel => exact ⟨k + 1, by omega, by go_num, HO, by first | rfl | trivial⟩
          case measure => simp [intOf]; omega
        · have HO : Hid (ixB (fun x : EdA => x.1.1.contains (bl n)) es = k) := unhide HH hok
          rw [hok] at HC
          have HR : Hid (mkA g.1 (bl n) = k) := by show _ = _; rw [HMA.out, HO.out]
          clear hok HT HH HA HO
          go_wp2_with fail
          refine (unhide HC).mono ?_
          rintro e w2 ⟨rfl, rfl⟩
          go_wp2_with fail
          go_ret
          exact ⟨ret_int HR.out.symm, qb⟩
    · have HR : Hid (mkA g.1 (bl n) = -1) := by
        show _ = _
        have := HA.out
        rw [List.take_of_length_le (by omega)] at this
        rw [HMA.out, ixB_no this]
      clear HA
      go_wp2_with fail
      go_ret
      exact ⟨ret_int HR.out.symm, qb⟩

end Go.Proofs.YtfadjppokbolhaaGreatDoor
