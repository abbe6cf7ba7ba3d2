/- Several texts of mine in one: MfRead, MfMayWalk. -/
import Derived.Test.YtpddckgkaopnlaaGreatDoorMfParse
import Derived.Test.YtpddckgkaopnlaaGreatDoorMfSameG
import Derived.Test.YtpddckgkaopnlaaGreatDoorPk1
import Derived.Test.YtpddckgkaopnlaaGreatDoorWk1
/- Parse where the answer is known, in memory that is read alone; the conditions: the table of blanks lies in memory. -/
namespace Go.Proofs.YtpddckgkaopnlaaGreatDoor
open Go.RowKit

theorem TabB.q {w w' : World} (h : TabB w.heap.size w) (q : Q w w') : TabB w'.heap.size w' := (h.below q).up q.size

theorem GrM.rd {B : Nat} {w : World} {g : Gr} {es : List EdA} {eo po dd : Option Addr} {ec pc dc : Nat} (h : GrM B w g es eo po dd ec pc dc) (hz : GrS g) : GrR w g es eo po dd := by
  refine ⟨RowG.own ev_len (by decide) h.e, h.em, OwnPl.row h.p, OwnT.row h.d, fun x hx => (h.q x hx).rd, fun x hx => ?_, ?_, hz.lp, hz.ld⟩
  · exact hz.e x.1 (by rw [← h.em]; exact List.mem_map_of_mem hx)
  · have := hz.le
    rw [← h.em, List.length_map] at this
    exact this

theorem parse_gr {g : Gr} {n : Int} (s : ByteArray) (w : World) (htab : TabB w.heap.size w) (hs : s.size ≤ maxLen) (hg : mfG (bl s) = g ∧ mfE (bl s) = n) :
    Calls Tryz.prog 4 #[.string s] w fun e w' => ∃ (es : List EdA) (eo po dd : Option Addr) (ec pc dc : Nat),
      e = .returned (.tuple #[.agg #[.slice eo es.length ec, .slice po g.2.1.length pc, .slice dd g.2.2.length dc], .int .i64 n]) ∧ GrR w' g es eo po dd ∧ Q w w' := by
  refine (parse_any s w htab hs).mono ?_
  rintro e w' ⟨es, eo, po, dd, ec, pc, dc, rfl, hm, q⟩
  rw [hg.1] at hm
  rw [hg.1, hg.2]
  exact ⟨es, eo, po, dd, ec, pc, dc, rfl, hm.rd (by rw [← hg.1]; exact mf_s _), q⟩

theorem parse_gm {g : Gr} {n : Int} (s : ByteArray) (w : World) (htab : TabB w.heap.size w) (hs : s.size ≤ maxLen) (hg : mfG (bl s) = g ∧ mfE (bl s) = n) :
    Calls Tryz.prog 4 #[.string s] w fun e w' => ∃ (es : List EdA) (eo po dd : Option Addr) (ec pc dc : Nat),
      e = .returned (.tuple #[.agg #[.slice eo es.length ec, .slice po g.2.1.length pc, .slice dd g.2.2.length dc], .int .i64 n]) ∧ GrM w.heap.size w' g es eo po dd ec pc dc ∧ GrS g ∧ Q w w' := by
  refine (parse_any s w htab hs).mono ?_
  rintro e w' ⟨es, eo, po, dd, ec, pc, dc, rfl, hm, q⟩
  rw [hg.1] at hm
  rw [hg.1, hg.2]
  exact ⟨es, eo, po, dd, ec, pc, dc, rfl, hm, by rw [← hg.1]; exact mf_s _, q⟩
theorem GrM.fr {P : Nat → Prop} {B : Nat} {w w' : World} {g : Gr} {es : List EdA} {eo po dd : Option Addr} {ec pc dc : Nat} (h : GrM B w g es eo po dd ec pc dc) (hf : Fr P w w') (hn : ∀ k, B ≤ k → ¬ P k) : GrM B w' g es eo po dd ec pc dc :=
  ⟨own_fr h.e hf (fun k hk => hn k (h.e.lt k hk).1), h.em, own_fr h.p hf (fun k hk => hn k (h.p.lt k hk).1), own_fr h.d hf (fun k hk => hn k (h.d.lt k hk).1), fun x hx => (h.q x hx).fr hf (fun k hk => hn k ((h.q x hx).lt k hk).1), h.nd⟩

/-- No graph at all: nothing lies in memory. -/
theorem GrR.zero (w : World) : GrR w gr0 [] none none none :=
  ⟨Or.inl rfl, rfl, Or.inl rfl, Or.inl rfl, (fun x hx => by cases hx), (fun x hx => by cases hx), by decide, by decide, by decide⟩

theorem GrR.none (w : World) (eo po dd : Option Addr) : GrR w gr0 [] eo po dd :=
  ⟨Or.inl rfl, rfl, Or.inl rfl, Or.inl rfl, (fun x hx => by cases hx), (fun x hx => by cases hx), by decide, by decide, by decide⟩
theorem parse_bad {n : Int} (s : ByteArray) (w : World) (htab : TabB w.heap.size w) (hs : s.size ≤ maxLen) (h : mfL (bl s) = .error n) :
    Calls Tryz.prog 4 #[.string s] w fun e w' => ∃ (eo po dd : Option Addr) (ec pc dc : Nat),
      e = .returned (.tuple #[.agg #[.slice eo 0 ec, .slice po 0 pc, .slice dd 0 dc], .int .i64 n]) ∧ Q w w' := by
  refine (parse_gr s w htab hs (mf_er h)).mono ?_
  rintro e w' ⟨es, eo, po, dd, ec, pc, dc, rfl, hm, q⟩
  have he : es = [] := List.map_eq_nil_iff.1 hm.em
  subst he
  exact ⟨eo, po, dd, ec, pc, dc, rfl, q⟩
theorem same0_any (eo po dd : Option Addr) (ec pc dc : Nat) (w : World) :
    Calls Tryz.prog 6 #[.agg #[.slice eo 0 ec, .slice po 0 pc, .slice dd 0 dc], .agg #[.slice none 0 0, .slice none 0 0, .slice none 0 0]] w fun e w' => e = .returned (.bool true) ∧ Q w w' :=
  sameG_any gr0 gr0 [] [] eo po dd none none none ec pc dc 0 0 0 w (GrR.none w eo po dd) (GrR.none w none none none)

theorem mf_err {l : Tx} {n : Int} (h : mfL l = .error n) : n = 801 ∨ n = 800 := by
  unfold mfL at h
  split at h
  · cases h; exact Or.inr rfl
  · rename_i ls hls
    have hl : ∀ (ls : List Ln) (s : Sm) (n : Int), lsL s ls = .error n → n = 801 ∨ n = 800 := by
      intro ls
      induction ls with
      | nil => intro s n h; rw [lsL] at h; cases h
      | cons x r ih =>
        intro s n h
        rw [lsL] at h
        split at h
        · rename_i hx; cases h; exact liL_no hx
        · exact ih _ _ h
    split at h
    · rename_i hs; cases h; exact hl _ _ _ hs
    · split at h
      · rename_i h1; cases h; exact ovL_err h1
      · cases h

end Go.Proofs.YtpddckgkaopnlaaGreatDoor

/- What the document's own GraphMay answers of a graph that a manifest makes; the conditions: the graph lies in memory, and what MfMayPlain says of it holds. -/
namespace Go.Proofs.YtpddckgkaopnlaaGreatDoor
open Go.RowKit

set_option maxHeartbeats 2000000 in
theorem poolAt_any (ps : List Pl) (n : ByteArray) (ao : Option Addr) (cap : Nat) (w : World) (hr : RowP w ao ps) (hs : ps.length ≤ 4096) :
    Calls Tryz.prog 47 #[.slice ao ps.length cap, .string n] w
      fun e w' => e = .returned (.int .i64 (ixB (fun r : Pl => r.1 == bl n) ps)) ∧ w' = w := by
  go_enter Tryz.func47, Tryz.ntmps47
  go_wp2_with fail
  go_loop [5] (fun i => ∃ k : Nat, k ≤ ps.length ∧ i = .int .i64 k ∧ Hid ((ps.take k).any (fun r : Pl => r.1 == bl n) = false)) (fun i => ps.length - (intOf i).toNat)
  case atStart => exact ⟨0, Nat.zero_le _, rfl, rfl⟩
  case round =>
    obtain ⟨k, hk, rfl, HA⟩ := hrel
    by_cases hlt : k < ps.length
    · rcases hr with he | ⟨g, o, rfl, hg, hcell⟩
      · rw [he] at hlt; simp at hlt
      obtain ⟨b, hb⟩ : ∃ b, ps[k]? = some b := ⟨ps[k], List.getElem?_eq_getElem hlt⟩
      have c1 : w.cell? ⟨g, o + k * 2, none⟩ = some (.string ⟨b.1.toArray⟩) := hcell k 0 b _ hb (by decide) rfl
      have HT := hide (anyt_succ (fun r : Pl => r.1 == bl n) hb)
      have HH := hide (fun h => ixB_at (p := fun r : Pl => r.1 == bl n) hb HA.out h)
      have hx := txt_beq b.1 n
      generalize (⟨b.1.toArray⟩ : ByteArray) = x1 at c1 hx
      clear hcell hb
      cases hok : (b.1 == bl n)
      · have HO : Hid ((ps.take (k + 1)).any (fun r : Pl => r.1 == bl n) = false) := by
          show _ = false
          rw [unhide HT, HA.out]; simpa using hok
        rw [hok] at hx
        clear hok HT HH HA
        go_wp2_with fail
        go_round
        case rel => exact ⟨k + 1, by omega, by go_num, HO⟩
        case measure => simp [intOf]; omega
      · have HO : Hid (ixB (fun r : Pl => r.1 == bl n) ps = k) := unhide HH hok
        rw [hok] at hx
        clear hok HT HH HA
        go_wp2_with fail
        go_ret
        exact ⟨ret_int HO.out.symm, rfl⟩
    · have HO : Hid (ixB (fun r : Pl => r.1 == bl n) ps = -1) := by
        show _ = _
        have := HA.out
        rw [List.take_of_length_le (by omega)] at this
        exact ixB_no this
      clear HA
      go_wp2_with fail
      go_ret
      exact ⟨ret_int HO.out.symm, rfl⟩

end Go.Proofs.YtpddckgkaopnlaaGreatDoor
