/- What package eval's Of answers, for every text and both scopes; the conditions: the binds lie in memory, the texts are no longer than a string can be. -/
import Derived.Test.YtgfegbeickaknabGreatDoorPk1
import Derived.Test.YtgfegbeickaknabGreatDoorWk1
import Derived.Test.YtgfegbeickaknabGreatDoorShelf
import Derived.Test.YtgfegbeickaknabGreatDoorPcCut
import Derived.Test.YtgfegbeickaknabGreatDoorSc1
namespace Go.Proofs.YtgfegbeickaknabGreatDoor
open Go.RowKit

/-- Binds that a call can read. -/
def Read (w : World) (ao : Option Addr) (cap : Nat) (bs : List Bd) : Prop := RowD w ao bs ∧ Fit bs ∧ bs.length ≤ cap ∧ cap ≤ maxLen
theorem Read.q {w w' : World} {ao : Option Addr} {cap : Nat} {bs : List Bd} (h : Read w ao cap bs) (q : Q w w') : Read w' ao cap bs := ⟨h.1.q q, h.2.1, h.2.2.1, h.2.2.2⟩
theorem Read.get {w : World} {ao : Option Addr} {cap : Nat} {bs : List Bd} (h : Read w ao cap bs) (n : ByteArray) :
    Calls Tryz.prog 127 #[.slice ao bs.length cap, .string n] w fun e w' => e = .returned (.string (getB bs n)) ∧ Q w w' := scGet_any bs n ao cap w h.1 h.2.1 h.2.2.1 h.2.2.2
theorem Read.may {w : World} {ao : Option Addr} {cap : Nat} {bs : List Bd} (h : Read w ao cap bs) :
    Calls Tryz.prog 110 #[.slice ao bs.length cap] w fun e w' => e = .returned (.bool (scOk bs)) ∧ Q w w' := scMay_any bs ao cap w h.1 h.2.1 h.2.2.1 h.2.2.2

set_option maxHeartbeats 2000000 in
theorem textOf_any (p : Pc) (ins outs : List Bd) (ai ao : Option Addr) (ci co : Nat) (w : World) (hi : Read w ai ci ins) (ho : Read w ao co outs) :
    Calls Tryz.prog 111 #[.agg #[.bool p.1, .string ⟨p.2.toArray⟩], .slice ai ins.length ci, .slice ao outs.length co] w fun e w' => e = .returned (.string ⟨(txt ins outs p).toArray⟩) ∧ Q w w' := by
  obtain ⟨v, t⟩ := p
  cases v
  · have HT := hide (txt_text (ins := ins) (outs := outs) (l := t))
    go_enter Tryz.func111, Tryz.ntmps111
    go_wp2_with fail
    go_ret
    rw [unhide HT]
    exact ⟨rfl, (Q.refl _).alloc _⟩
  · have HI := hide (fun w' (h : Q w w') => (hi.q h).get ⟨t.toArray⟩)
    have HO := hide (fun w' (h : Q w w') => (ho.q h).get ⟨t.toArray⟩)
    have q0 : Q w (w.alloc (.cells #[.bool true, .string ⟨t.toArray⟩] 152)) := (Q.refl _).alloc _
    by_cases h0 : bl (getB ins ⟨t.toArray⟩) = []
    · have HT := hide (txt_out (outs := outs) (p := (true, t)) rfl h0)
      have he : (getB ins ⟨t.toArray⟩).toList.isEmpty = true := by rw [bl_toList, h0]; rfl
      clear h0 hi ho
      go_enter Tryz.func111, Tryz.ntmps111
      go_wp2_with fail
      refine (unhide HI _ q0).mono ?_
      rintro e w1 ⟨rfl, q1⟩
      have c1 : w1.cell? ⟨w.heap.size, 1, none⟩ = some (.string ⟨t.toArray⟩) := (q1.cell (p := ⟨w.heap.size, 1, none⟩) (by simp)).trans (by simp)
      go_wp2_with fail
      refine (unhide HO _ (q0.trans q1)).mono ?_
      rintro e w2 ⟨rfl, q2⟩
      go_wp2_with fail
      go_ret
      rw [unhide HT, mk_bl]
      exact ⟨rfl, q0.trans (q1.trans q2)⟩
    · have HT := hide (txt_in (outs := outs) (p := (true, t)) rfl h0)
      have he : (getB ins ⟨t.toArray⟩).toList.isEmpty = false := by rw [bl_toList]; simpa using h0
      clear h0 hi ho
      go_enter Tryz.func111, Tryz.ntmps111
      go_wp2_with fail
      refine (unhide HI _ q0).mono ?_
      rintro e w1 ⟨rfl, q1⟩
      go_wp2_with fail
      go_ret
      rw [unhide HT, mk_bl]
      exact ⟨rfl, q0.trans q1⟩

theorem wstr_any (B b : Nat) (l m : List UInt8) (w : World) (h : Lib.IsBuilder 131 5 B b (Lib.byteCells l) w) (hl : l.length + m.length ≤ 140737488355328) (hB : B ≤ w.heap.size) :
    Calls Tryz.prog 90 #[.pointer (some ⟨b, 0, none⟩), .string ⟨m.toArray⟩] w fun e w' => e = .returned (.tuple #[.int .i64 m.length, .nilIface]) ∧ Lib.IsBuilder 131 5 B b (Lib.byteCells (l ++ m)) w' ∧ Below B w w' := by
  refine (Any.Builder_WriteString Tryz.lays166 Tryz.Builder_Extra_166 B b (Lib.byteCells l) ⟨m.toArray⟩ w h (by rw [Lib.byteCells_length]; show l.length + m.toArray.size ≤ _; simpa using hl) hB).mono ?_
  rintro e w' ⟨rfl, h1, b1⟩
  refine ⟨rfl, Or.inr ?_, b1⟩
  rw [Lib.byteCells_append]
  exact h1
theorem wlen_any (B b : Nat) (l : List UInt8) (w : World) (h : Lib.IsBuilder 131 5 B b (Lib.byteCells l) w) :
    Calls Tryz.prog 112 #[.pointer (some ⟨b, 0, none⟩)] w fun e w' => e = .returned (.int .i64 l.length) ∧ w' = w := by
  have := Any.Builder_Len Tryz.lays170 B b (Lib.byteCells l) w h
  rw [Lib.byteCells_length] at this
  exact this
theorem wend_any (B b : Nat) (l : List UInt8) (w : World) (h : Lib.IsBuilder 131 5 B b (Lib.byteCells l) w) (hB : B ≤ w.heap.size) :
    Calls Tryz.prog 91 #[.pointer (some ⟨b, 0, none⟩)] w fun e w' => e = .returned (.string ⟨l.toArray⟩) ∧ Below B w w' :=
  Any.Builder_String_any Tryz.lays169 Tryz.Builder_Extra_169 B b l w h hB

/-- What a value's answer is. -/
def EvSays (s : ByteArray) (ins outs : List Bd) (w : World) (e : Ending) (w' : World) : Prop :=
  e = .returned (.tuple #[.string ⟨(evS (bl s) ins outs).toArray⟩, .int .i64 (evE (bl s) ins outs)]) ∧ Q w w'

set_option maxRecDepth 20000 in
set_option maxHeartbeats 4000000 in
theorem of_bad (s : ByteArray) (ins outs : List Bd) (ai ao : Option Addr) (ci co : Nat) (w : World) (hs : s.size ≤ maxLen) (hi : Read w ai ci ins) (ho : Read w ao co outs) (hb : evOk (bl s) ins outs = false) :
    Calls Tryz.prog 82 #[.string s, .slice ai ins.length ci, .slice ao outs.length co] w (EvSays s ins outs w) := by
  have HB := hide (ev_bad hb)
  rcases cut_no_or (bl s) with hc | hc
  · have HI := hide (fun w' (h : Q w w') => (hi.q h).may)
    have HO := hide (fun w' (h : Q w w') => (ho.q h).may)
    have HC := hide hc
    cases h1 : scOk ins
    · rw [h1] at HI
      clear hb h1 hc
      go_enter Tryz.func82, Tryz.ntmps82
      go_wp2_with fail
      refine (cut_any s w hs).mono ?_
      rintro e w1 ⟨a1, c1, rfl, own1, q1⟩
      rw [unhide HC]
      clear own1
      go_wp2_with fail
      refine (unhide HI _ q1).mono ?_
      rintro e w2 ⟨rfl, qu⟩
      go_wp2_with fail
      go_ret2
      unfold EvSays
      rw [(unhide HB).1, (unhide HB).2]
      exact ⟨rfl, q1.trans qu⟩
    · cases h2 : scOk outs
      · rw [h1] at HI
        rw [h2] at HO
        clear hb h1 hc h2
        go_enter Tryz.func82, Tryz.ntmps82
        go_wp2_with fail
        refine (cut_any s w hs).mono ?_
        rintro e w1 ⟨a1, c1, rfl, own1, q1⟩
        rw [unhide HC]
        clear own1
        go_wp2_with fail
        refine (unhide HI _ q1).mono ?_
        rintro e w2 ⟨rfl, q2⟩
        go_wp2_with fail
        refine (unhide HO _ (q1.trans q2)).mono ?_
        rintro e w3 ⟨rfl, q3⟩
        have qu := q2.trans q3
        go_wp2_with fail
        go_ret2
        unfold EvSays
        rw [(unhide HB).1, (unhide HB).2]
        exact ⟨rfl, q1.trans qu⟩
      · rw [evOk_all hc h1 h2] at hb; cases hb
  · have HC := hide hc
    clear hb hc
    go_enter Tryz.func82, Tryz.ntmps82
    go_wp2_with fail
    refine (cut_any s w hs).mono ?_
    rintro e w1 ⟨a1, c1, rfl, own1, q1⟩
    rw [unhide HC]
    clear own1
    go_wp2_with fail
    go_ret2
    unfold EvSays
    rw [(unhide HB).1, (unhide HB).2]
    exact ⟨rfl, q1⟩

set_option maxRecDepth 20000 in
set_option maxHeartbeats 4000000 in
theorem of_good (s : ByteArray) (ins outs : List Bd) (ai ao : Option Addr) (ci co : Nat) (w : World) (hs : s.size ≤ maxLen) (hi : Read w ai ci ins) (ho : Read w ao co outs) (hc : cutE (bl s) = 0) (h1 : scOk ins = true) (h2 : scOk outs = true) :
    Calls Tryz.prog 82 #[.string s, .slice ai ins.length ci, .slice ao outs.length co] w (EvSays s ins outs w) := by
  have HG := hide (evOk_all hc h1 h2)
  have HI := hide (fun w' (h : Q w w') => (hi.q h).may)
  have HO := hide (fun w' (h : Q w w') => (ho.q h).may)
  have HT := hide (fun p w' (h : Q w w') => textOf_any p ins outs ai ao ci co w' (hi.q h) (ho.q h))
  have HC := hide hc
  have HF := hide (cutP_facts (bl s))
  have HX := hide (fun (k : Nat) (p : Pc) (h : (cutP (bl s))[k]? = some p) => txt_cut (ins := ins) (outs := outs) h)
  have hps := (cutP_facts (bl s)).1
  rw [h1] at HI
  rw [h2] at HO
  have HE := hide (fun h => ev_good (l := bl s) (ins := ins) (outs := outs) (unhide HG) h)
  have HL := hide (fun h => ev_long (l := bl s) (ins := ins) (outs := outs) (unhide HG) h)
  have HCUT := hide (cut_any s w hs)
  rw [hc] at HCUT
  unfold EvSays
  revert HCUT HX hps HE HL
  generalize cutP (bl s) = ps
  generalize evS (bl s) ins outs = vs
  generalize evE (bl s) ins outs = ve
  intro HX hps HE HL HCUT
  clear h1 h2 hc HG HC HF hi ho
  go_enter Tryz.func82, Tryz.ntmps82
  go_wp2_with fail
  refine (unhide HCUT).mono ?_
  rintro e w1 ⟨a1, c1, rfl, own1, q1⟩
  have HR := hide (RowG.own pv_len (by decide) own1)
  clear own1 HCUT
  go_wp2_with fail
  refine (unhide HI _ q1).mono ?_
  rintro e w2 ⟨rfl, q2⟩
  go_wp2_with fail
  refine (unhide HO _ (q1.trans q2)).mono ?_
  rintro e w3 ⟨rfl, q3⟩
  have HR3 := hide (((unhide HR).q q2).q q3)
  have hq3 := (q1.trans q2).trans q3
  have HB0 := hide (Lib.fresh_isBuilder 131 5 w3)
  have hb0 : Q w3 (w3.alloc (.cells #[.pointer none, .slice none 0 0] 131)) := (Q.refl _).alloc _
  clear q1 q2 q3 HI HO HR
  go_wp2_with fail
  go_loopw [32] (fun i wr => ∃ k : Nat, k ≤ ps.length ∧ i = .int .i64 k ∧ Hid (Lib.IsBuilder 131 5 w3.heap.size w3.heap.size (Lib.byteCells (evT ins outs (ps.take k))) wr) ∧ Hid ((evT ins outs (ps.take k)).length ≤ 256) ∧ Q w3 wr) (fun i _ => ps.length - (intOf i).toNat)
  case atStart => exact ⟨0, Nat.zero_le _, rfl, unhide HB0, Nat.zero_le _, hb0⟩
  case round =>
    obtain ⟨k, hk, rfl, HB, HN, hq⟩ := hrel
    by_cases hlt : k < ps.length
    · rcases (unhide HR3).q hq with he | ⟨g, o, rfl, hg, hcell⟩
      · rw [he] at hlt; simp at hlt
      obtain ⟨p, hp⟩ : ∃ p, ps[k]? = some p := ⟨ps[k], List.getElem?_eq_getElem hlt⟩
      have d1 : wr.cell? ⟨g, o + k * 2, none⟩ = some (.bool p.1) := hcell k 0 p _ hp (by decide) rfl
      have d2 : wr.cell? ⟨g, o + k * 2 + 1, none⟩ = some (.string ⟨p.2.toArray⟩) := hcell k 1 p _ hp (by decide) rfl
      have HTK := hide (evT_take ins outs hp)
      have hx := unhide HX k p hp
      have HLE := hide (evT_take_le ins outs ps (k + 1))
      have k0 : (0 : Int) ≤ (k : Int) := Int.natCast_nonneg _
      have k1 : (k : Int) < (ps.length : Int) := by omega
      have hqb : Q wr (wr.alloc (.cells #[.bool p.1, .string ⟨p.2.toArray⟩] 152)) := (Q.refl _).alloc _
      clear hcell hp
      go_wp2_with fail
      refine (unhide HT p _ (hq3.trans (hq.trans hqb))).mono ?_
      rintro e w4 ⟨rfl, q4⟩
      have q4' : Q wr w4 := hqb.trans q4
      have hqs := (hq.trans q4').size
      have HW := hide (wstr_any w3.heap.size w3.heap.size _ (txt ins outs p) w4 (builder_q HB.out q4') (by have := HN.out; omega) hqs)
      rw [← unhide HTK] at HW
      clear HB HN HTK hx d1 d2
      go_wp2_with fail
      refine (unhide HW).mono ?_
      rintro e w5 ⟨rfl, hb5, b5⟩
      have q5 : Q w3 w5 := Below.trans (hq.trans q4') b5
      have HB5 := hide hb5
      clear hb5 b5 q4' q4 hqb HW
      go_wp2_with fail
      refine (wlen_any _ _ _ _ (unhide HB5)).mono ?_
      rintro e w6 ⟨rfl, rfl⟩
      by_cases hle : (evT ins outs (ps.take (k + 1))).length ≤ 256
      · have HN2 := hide hle
        have hlei : ((evT ins outs (ps.take (k + 1))).length : Int) ≤ 256 := by omega
        clear hle
        go_wp2_with fail
        go_roundw
        case rel => exact ⟨k + 1, by omega, by go_num, unhide HB5, unhide HN2, q5⟩
        case measure => simp [intOf]; omega
      · have HZ := hide (unhide HL (by have := unhide HLE; omega))
        have hlei : (256 : Int) < ((evT ins outs (ps.take (k + 1))).length : Int) := by omega
        clear hle
        go_wp2_with fail
        go_ret2
        rw [(unhide HZ).1, (unhide HZ).2]
        exact ⟨rfl, hq3.trans q5⟩
    · have hkl : ps.take k = ps := List.take_of_length_le (by omega)
      rw [hkl] at HB HN
      have HZ := hide (unhide HE HN.out)
      have hqs := hq.size
      clear HN hkl
      go_wp2_with fail
      refine (wend_any _ _ _ _ HB.out hqs).mono ?_
      rintro e w5 ⟨rfl, b5⟩
      go_wp2_with fail
      go_ret2
      rw [(unhide HZ).1, (unhide HZ).2]
      exact ⟨rfl, hq3.trans (Below.trans hq b5)⟩

theorem of_any (s : ByteArray) (ins outs : List Bd) (ai ao : Option Addr) (ci co : Nat) (w : World) (hs : s.size ≤ maxLen) (hi : Read w ai ci ins) (ho : Read w ao co outs) :
    Calls Tryz.prog 82 #[.string s, .slice ai ins.length ci, .slice ao outs.length co] w (EvSays s ins outs w) := by
  cases h : evOk (bl s) ins outs
  · exact of_bad s ins outs ai ao ci co w hs hi ho h
  · have h2 := Bool.and_eq_true_iff.1 h
    have h3 := Bool.and_eq_true_iff.1 h2.1
    exact of_good s ins outs ai ao ci co w hs hi ho (of_decide_eq_true h3.1) h3.2 h2.2

end Go.Proofs.YtgfegbeickaknabGreatDoor
