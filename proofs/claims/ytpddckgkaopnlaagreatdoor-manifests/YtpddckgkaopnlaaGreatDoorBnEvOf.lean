/- Several texts of mine in one: EvOf, MfSet. -/
import Derived.Test.YtpddckgkaopnlaaGreatDoorPk1
import Derived.Test.YtpddckgkaopnlaaGreatDoorWk1
import Derived.Test.YtpddckgkaopnlaaGreatDoorShelf
import Derived.Test.YtpddckgkaopnlaaGreatDoorPcCut
import Derived.Test.YtpddckgkaopnlaaGreatDoorSc1
import Derived.Test.YtpddckgkaopnlaaGreatDoorBnMfClean
import Derived.RegionTactic
import Derived.BigRegion
/- What package eval's Of answers, for every text and both scopes; the conditions: the binds lie in memory, the texts are no longer than a string can be. -/
namespace Go.Proofs.YtpddckgkaopnlaaGreatDoor
open Go.RowKit

/-- Binds that a call can read. -/
def Read (w : World) (ao : Option Addr) (cap : Nat) (bs : List Bd) : Prop := RowD w ao bs ∧ Fit bs ∧ bs.length ≤ cap ∧ cap ≤ maxLen
theorem Read.q {w w' : World} {ao : Option Addr} {cap : Nat} {bs : List Bd} (h : Read w ao cap bs) (q : Q w w') : Read w' ao cap bs := ⟨h.1.q q, h.2.1, h.2.2.1, h.2.2.2⟩
theorem Read.get {w : World} {ao : Option Addr} {cap : Nat} {bs : List Bd} (h : Read w ao cap bs) (n : ByteArray) :
    Calls Tryz.prog 164 #[.slice ao bs.length cap, .string n] w fun e w' => e = .returned (.string (getB bs n)) ∧ Q w w' := scGet_any bs n ao cap w h.1 h.2.1 h.2.2.1 h.2.2.2
theorem Read.may {w : World} {ao : Option Addr} {cap : Nat} {bs : List Bd} (h : Read w ao cap bs) :
    Calls Tryz.prog 145 #[.slice ao bs.length cap] w fun e w' => e = .returned (.bool (scOk bs)) ∧ Q w w' := scMay_any bs ao cap w h.1 h.2.1 h.2.2.1 h.2.2.2

set_option maxHeartbeats 2000000 in
theorem textOf_any (p : Pc) (ins outs : List Bd) (ai ao : Option Addr) (ci co : Nat) (w : World) (hi : Read w ai ci ins) (ho : Read w ao co outs) :
    Calls Tryz.prog 146 #[.agg #[.bool p.1, .string ⟨p.2.toArray⟩], .slice ai ins.length ci, .slice ao outs.length co] w fun e w' => e = .returned (.string ⟨(txt ins outs p).toArray⟩) ∧ Q w w' := by
  obtain ⟨v, t⟩ := p
  cases v
  · have HT := hide (txt_text (ins := ins) (outs := outs) (l := t))
    go_enter Tryz.func146, Tryz.ntmps146
    go_wp2_with fail
    go_ret
    rw [unhide HT]
    exact ⟨rfl, (Q.refl _).alloc _⟩
  · have HI := hide (fun w' (h : Q w w') => (hi.q h).get ⟨t.toArray⟩)
    have HO := hide (fun w' (h : Q w w') => (ho.q h).get ⟨t.toArray⟩)
    have q0 : Q w (w.alloc (.cells #[.bool true, .string ⟨t.toArray⟩] 166)) := (Q.refl _).alloc _
    by_cases h0 : bl (getB ins ⟨t.toArray⟩) = []
    · have HT := hide (txt_out (outs := outs) (p := (true, t)) rfl h0)
      have he : (getB ins ⟨t.toArray⟩).toList.isEmpty = true := by rw [bl_toList, h0]; rfl
      clear h0 hi ho
      go_enter Tryz.func146, Tryz.ntmps146
      go_wp2_with fail
      refine (unhide HI _ q0).mono ?_
      rintro e w1 ⟨rfl, q1⟩
      have c1 : w1.cell? ⟨w.heap.size, 1, none⟩ = some (.string ⟨t.toArray⟩) := (q1.cell (p := ⟨w.heap.size, 1, none⟩) (by simp)).trans (by simp)
      go_wp2_with fail
      refine (unhide HO _ (q0.trans q1)).mono ?_
      rintro e w2 ⟨rfl, q2⟩
      go_wp2_with fail
      go_ret
      rw [unhide HT, mk_bl]
      exact ⟨rfl, q0.trans (q1.trans q2)⟩
    · have HT := hide (txt_in (outs := outs) (p := (true, t)) rfl h0)
      have he : (getB ins ⟨t.toArray⟩).toList.isEmpty = false := by rw [bl_toList]; simpa using h0
      clear h0 hi ho
      go_enter Tryz.func146, Tryz.ntmps146
      go_wp2_with fail
      refine (unhide HI _ q0).mono ?_
      rintro e w1 ⟨rfl, q1⟩
      go_wp2_with fail
      go_ret
      rw [unhide HT, mk_bl]
      exact ⟨rfl, q0.trans q1⟩

theorem wstr_any (B b : Nat) (l m : List UInt8) (w : World) (h : Lib.IsBuilder 173 5 B b (Lib.byteCells l) w) (hl : l.length + m.length ≤ 140737488355328) (hB : B ≤ w.heap.size) :
    Calls Tryz.prog 125 #[.pointer (some ⟨b, 0, none⟩), .string ⟨m.toArray⟩] w fun e w' => e = .returned (.tuple #[.int .i64 m.length, .nilIface]) ∧ Lib.IsBuilder 173 5 B b (Lib.byteCells (l ++ m)) w' ∧ Below B w w' := by
  refine (Any.Builder_WriteString Tryz.lays166 Tryz.Builder_Extra_166 B b (Lib.byteCells l) ⟨m.toArray⟩ w h (by rw [Lib.byteCells_length]; show l.length + m.toArray.size ≤ _; simpa using hl) hB).mono ?_
  rintro e w' ⟨rfl, h1, b1⟩
  refine ⟨rfl, Or.inr ?_, b1⟩
  rw [Lib.byteCells_append]
  exact h1
theorem wlen_any (B b : Nat) (l : List UInt8) (w : World) (h : Lib.IsBuilder 173 5 B b (Lib.byteCells l) w) :
    Calls Tryz.prog 147 #[.pointer (some ⟨b, 0, none⟩)] w fun e w' => e = .returned (.int .i64 l.length) ∧ w' = w := by
  have := Any.Builder_Len Tryz.lays170 B b (Lib.byteCells l) w h
  rw [Lib.byteCells_length] at this
  exact this
theorem wend_any (B b : Nat) (l : List UInt8) (w : World) (h : Lib.IsBuilder 173 5 B b (Lib.byteCells l) w) (hB : B ≤ w.heap.size) :
    Calls Tryz.prog 126 #[.pointer (some ⟨b, 0, none⟩)] w fun e w' => e = .returned (.string ⟨l.toArray⟩) ∧ Below B w w' :=
  Any.Builder_String_any Tryz.lays169 Tryz.Builder_Extra_169 B b l w h hB

/-- What a value's answer is. -/
def EvSays (s : ByteArray) (ins outs : List Bd) (w : World) (e : Ending) (w' : World) : Prop :=
  e = .returned (.tuple #[.string ⟨(evS (bl s) ins outs).toArray⟩, .int .i64 (evE (bl s) ins outs)]) ∧ Q w w'

set_option maxRecDepth 20000 in
set_option maxHeartbeats 4000000 in
theorem of_bad (s : ByteArray) (ins outs : List Bd) (ai ao : Option Addr) (ci co : Nat) (w : World) (hs : s.size ≤ maxLen) (hi : Read w ai ci ins) (ho : Read w ao co outs) (hb : evOk (bl s) ins outs = false) :
    Calls Tryz.prog 114 #[.string s, .slice ai ins.length ci, .slice ao outs.length co] w (EvSays s ins outs w) := by
  have HB := hide (ev_bad hb)
  rcases cut_no_or (bl s) with hc | hc
  · have HI := hide (fun w' (h : Q w w') => (hi.q h).may)
    have HO := hide (fun w' (h : Q w w') => (ho.q h).may)
    have HC := hide hc
    cases h1 : scOk ins
    · rw [h1] at HI
      clear hb h1 hc
      go_enter Tryz.func114, Tryz.ntmps114
      go_wp2_with fail
      refine (cut_any s w hs).mono ?_
      rintro e w1 ⟨a1, c1, rfl, own1, q1⟩
      rw [unhide HC]
      clear own1
      go_wp2_with fail
      refine (unhide HI _ q1).mono ?_
      rintro e w2 ⟨rfl, qu⟩
      go_wp2_with fail
      go_ret2
      unfold EvSays
      rw [(unhide HB).1, (unhide HB).2]
      exact ⟨rfl, q1.trans qu⟩
    · cases h2 : scOk outs
      · rw [h1] at HI
        rw [h2] at HO
        clear hb h1 hc h2
        go_enter Tryz.func114, Tryz.ntmps114
        go_wp2_with fail
        refine (cut_any s w hs).mono ?_
        rintro e w1 ⟨a1, c1, rfl, own1, q1⟩
        rw [unhide HC]
        clear own1
        go_wp2_with fail
        refine (unhide HI _ q1).mono ?_
        rintro e w2 ⟨rfl, q2⟩
        go_wp2_with fail
        refine (unhide HO _ (q1.trans q2)).mono ?_
        rintro e w3 ⟨rfl, q3⟩
        have qu := q2.trans q3
        go_wp2_with fail
        go_ret2
        unfold EvSays
        rw [(unhide HB).1, (unhide HB).2]
        exact ⟨rfl, q1.trans qu⟩
      · rw [evOk_all hc h1 h2] at hb; cases hb
  · have HC := hide hc
    clear hb hc
    go_enter Tryz.func114, Tryz.ntmps114
    go_wp2_with fail
    refine (cut_any s w hs).mono ?_
    rintro e w1 ⟨a1, c1, rfl, own1, q1⟩
    rw [unhide HC]
    clear own1
    go_wp2_with fail
    go_ret2
    unfold EvSays
    rw [(unhide HB).1, (unhide HB).2]
    exact ⟨rfl, q1⟩

set_option maxRecDepth 20000 in
set_option maxHeartbeats 4000000 in
theorem of_good (s : ByteArray) (ins outs : List Bd) (ai ao : Option Addr) (ci co : Nat) (w : World) (hs : s.size ≤ maxLen) (hi : Read w ai ci ins) (ho : Read w ao co outs) (hc : cutE (bl s) = 0) (h1 : scOk ins = true) (h2 : scOk outs = true) :
    Calls Tryz.prog 114 #[.string s, .slice ai ins.length ci, .slice ao outs.length co] w (EvSays s ins outs w) := by
  have HG := hide (evOk_all hc h1 h2)
  have HI := hide (fun w' (h : Q w w') => (hi.q h).may)
  have HO := hide (fun w' (h : Q w w') => (ho.q h).may)
  have HT := hide (fun p w' (h : Q w w') => textOf_any p ins outs ai ao ci co w' (hi.q h) (ho.q h))
  have HC := hide hc
  have HF := hide (cutP_facts (bl s))
  have HX := hide (fun (k : Nat) (p : Pc) (h : (cutP (bl s))[k]? = some p) => txt_cut (ins := ins) (outs := outs) h)
  have hps := (cutP_facts (bl s)).1
  rw [h1] at HI
  rw [h2] at HO
  have HE := hide (fun h => ev_good (l := bl s) (ins := ins) (outs := outs) (unhide HG) h)
  have HL := hide (fun h => ev_long (l := bl s) (ins := ins) (outs := outs) (unhide HG) h)
  have HCUT := hide (cut_any s w hs)
  rw [hc] at HCUT
  unfold EvSays
  revert HCUT HX hps HE HL
  generalize cutP (bl s) = ps
  generalize evS (bl s) ins outs = vs
  generalize evE (bl s) ins outs = ve
  intro HX hps HE HL HCUT
  clear h1 h2 hc HG HC HF hi ho
  go_enter Tryz.func114, Tryz.ntmps114
  go_wp2_with fail
  refine (unhide HCUT).mono ?_
  rintro e w1 ⟨a1, c1, rfl, own1, q1⟩
  have HR := hide (RowG.own pv_len (by decide) own1)
  clear own1 HCUT
  go_wp2_with fail
  refine (unhide HI _ q1).mono ?_
  rintro e w2 ⟨rfl, q2⟩
  go_wp2_with fail
  refine (unhide HO _ (q1.trans q2)).mono ?_
  rintro e w3 ⟨rfl, q3⟩
  have HR3 := hide (((unhide HR).q q2).q q3)
  have hq3 := (q1.trans q2).trans q3
  have HB0 := hide (Lib.fresh_isBuilder 173 5 w3)
  have hb0 : Q w3 (w3.alloc (.cells #[.pointer none, .slice none 0 0] 173)) := (Q.refl _).alloc _
  clear q1 q2 q3 HI HO HR
  go_wp2_with fail
  go_loopw [32] (fun i wr => ∃ k : Nat, k ≤ ps.length ∧ i = .int .i64 k ∧ Hid (Lib.IsBuilder 173 5 w3.heap.size w3.heap.size (Lib.byteCells (evT ins outs (ps.take k))) wr) ∧ Hid ((evT ins outs (ps.take k)).length ≤ 256) ∧ Q w3 wr) (fun i _ => ps.length - (intOf i).toNat)
  case atStart => exact ⟨0, Nat.zero_le _, rfl, unhide HB0, Nat.zero_le _, hb0⟩
  case round =>
    obtain ⟨k, hk, rfl, HB, HN, hq⟩ := hrel
    by_cases hlt : k < ps.length
    · rcases (unhide HR3).q hq with he | ⟨g, o, rfl, hg, hcell⟩
      · rw [he] at hlt; simp at hlt
      obtain ⟨p, hp⟩ : ∃ p, ps[k]? = some p := ⟨ps[k], List.getElem?_eq_getElem hlt⟩
      have d1 : wr.cell? ⟨g, o + k * 2, none⟩ = some (.bool p.1) := hcell k 0 p _ hp (by decide) rfl
      have d2 : wr.cell? ⟨g, o + k * 2 + 1, none⟩ = some (.string ⟨p.2.toArray⟩) := hcell k 1 p _ hp (by decide) rfl
      have HTK := hide (evT_take ins outs hp)
      have hx := unhide HX k p hp
      have HLE := hide (evT_take_le ins outs ps (k + 1))
      have k0 : (0 : Int) ≤ (k : Int) := Int.natCast_nonneg _
      have k1 : (k : Int) < (ps.length : Int) := by omega
      have hqb : Q wr (wr.alloc (.cells #[.bool p.1, .string ⟨p.2.toArray⟩] 166)) := (Q.refl _).alloc _
      clear hcell hp
      go_wp2_with fail
      refine (unhide HT p _ (hq3.trans (hq.trans hqb))).mono ?_
      rintro e w4 ⟨rfl, q4⟩
      have q4' : Q wr w4 := hqb.trans q4
      have hqs := (hq.trans q4').size
      have HW := hide (wstr_any w3.heap.size w3.heap.size _ (txt ins outs p) w4 (builder_q HB.out q4') (by have := HN.out; omega) hqs)
      rw [← unhide HTK] at HW
      clear HB HN HTK hx d1 d2
      go_wp2_with fail
      refine (unhide HW).mono ?_
      rintro e w5 ⟨rfl, hb5, b5⟩
      have q5 : Q w3 w5 := Below.trans (hq.trans q4') b5
      have HB5 := hide hb5
      clear hb5 b5 q4' q4 hqb HW
      go_wp2_with fail
      refine (wlen_any _ _ _ _ (unhide HB5)).mono ?_
      rintro e w6 ⟨rfl, rfl⟩
      by_cases hle : (evT ins outs (ps.take (k + 1))).length ≤ 256
      · have HN2 := hide hle
        have hlei : ((evT ins outs (ps.take (k + 1))).length : Int) ≤ 256 := by omega
        clear hle
        go_wp2_with fail
        go_roundw
        case rel => exact ⟨k + 1, by omega, by go_num, unhide HB5, unhide HN2, q5⟩
        case measure => simp [intOf]; omega
      · have HZ := hide (unhide HL (by have := unhide HLE; omega))
        have hlei : (256 : Int) < ((evT ins outs (ps.take (k + 1))).length : Int) := by omega
        clear hle
        go_wp2_with fail
        go_ret2
        rw [(unhide HZ).1, (unhide HZ).2]
        exact ⟨rfl, hq3.trans q5⟩
    · have hkl : ps.take k = ps := List.take_of_length_le (by omega)
      rw [hkl] at HB HN
      have HZ := hide (unhide HE HN.out)
      have hqs := hq.size
      clear HN hkl
      go_wp2_with fail
      refine (wend_any _ _ _ _ HB.out hqs).mono ?_
      rintro e w5 ⟨rfl, b5⟩
      go_wp2_with fail
      go_ret2
      rw [(unhide HZ).1, (unhide HZ).2]
      exact ⟨rfl, hq3.trans (Below.trans hq b5)⟩

theorem of_any (s : ByteArray) (ins outs : List Bd) (ai ao : Option Addr) (ci co : Nat) (w : World) (hs : s.size ≤ maxLen) (hi : Read w ai ci ins) (ho : Read w ao co outs) :
    Calls Tryz.prog 114 #[.string s, .slice ai ins.length ci, .slice ao outs.length co] w (EvSays s ins outs w) := by
  cases h : evOk (bl s) ins outs
  · exact of_bad s ins outs ai ao ci co w hs hi ho h
  · have h2 := Bool.and_eq_true_iff.1 h
    have h3 := Bool.and_eq_true_iff.1 h2.1
    exact of_good s ins outs ai ao ci co w hs hi ho (of_decide_eq_true h3.1) h3.2 h2.2

end Go.Proofs.YtpddckgkaopnlaaGreatDoor

/- What package manifest's set answers; the conditions: the reader's block and the scopes lie in memory. -/
namespace Go.Proofs.YtpddckgkaopnlaaGreatDoor
open Go.RowKit


def exE {α : Type} : Except Int α → Int | .ok _ => 0 | .error n => n

theorem evS_len (l : Tx) (ins outs : List Bd) : (evS l ins outs).length ≤ 256 := by
  unfold evS
  split
  · rename_i h
    have := (Bool.and_eq_true_iff.1 h).2
    simpa using this
  · simp

/-- What set answers. -/
def StSays (bs ou : List Bd) (k v : Tx) (w : World) (e : Ending) (w' : World) : Prop :=
  ∃ (a : Option Addr) (n c : Nat), e = .returned (.tuple #[.slice a n c, .int .i64 (exE (stL bs ou k v))]) ∧ Q w w' ∧ ∀ bs', stL bs ou k v = .ok bs' → n = bs'.length ∧ OwnD w' w.heap.size a c bs'

set_option maxHeartbeats 4000000 in
theorem mset_any (R : Nat) (bs ou : List Bd) (ao oo : Option Addr) (ac oc : Nat) (k v : ByteArray) (w : World) (hR : R < w.heap.size) (hc : w.cell? ⟨R, 4, none⟩ = some (.slice oo ou.length oc)) (ho : Read w oo oc ou) (hb : Read w ao ac bs) (hk : k.size ≤ maxLen) (hv : v.size ≤ maxLen) :
    Calls Tryz.prog 81 #[.pointer (some ⟨R, 0, none⟩), .slice ao bs.length ac, .string k, .string v] w (StSays bs ou (bl k) (bl v) w) := by
  have HO := hide (fun w2 (q : Q w w2) => of_any v ou ou oo oo oc oc w2 hv (ho.q q) (ho.q q))
  have hne := Aft.ne w
  have hac : ∀ u : Aft w, u.to.cell? ⟨R, 4, none⟩ = some (.slice oo ou.length oc) := Aft.cell hc hR
  have HB := hide hb
  clear ho hb
  have HVL : Hid ((⟨(evS (bl v) ou ou).toArray⟩ : ByteArray).size ≤ maxLen) := by
    show _ ≤ _
    rw [← bl_size]; show (evS (bl v) ou ou).length ≤ maxLen
    have := evS_len (bl v) ou ou
    unfold maxLen; omega
  by_cases he : evE (bl v) ou ou = 0
  · have HX := hide (fun w2 (q : Q w w2) => scSet_any bs k ⟨(evS (bl v) ou ou).toArray⟩ ao ac w2 (unhide HB |>.q q).1 (unhide HB).2.1 (unhide HB).2.2.1 (unhide HB).2.2.2 hk HVL.out)
    have HS : Hid (stL bs ou (bl k) (bl v) = if setE bs k ⟨(evS (bl v) ou ou).toArray⟩ ≠ 0 then .error (rfE (setE bs k ⟨(evS (bl v) ou ou).toArray⟩)) else .ok (setB bs k ⟨(evS (bl v) ou ou).toArray⟩)) := by
      show _ = _; unfold stL; rw [if_neg (by simpa using he)]; unfold mkB; rw [show (⟨(bl k).toArray⟩ : ByteArray) = k from mk_bl k]
    unfold EvSays at HO
    rw [he] at HO
    generalize (⟨(evS (bl v) ou ou).toArray⟩ : ByteArray) = et at *
    clear he
    unfold SetSays at HX
    go_enter Tryz.func81, Tryz.ntmps81
    go_wp2_with fail
    refine wp_region_aft (by kernel_rfl) (by kernel_rfl) ?_
    repeat (go_big_quiet_step ((go_at_call 114; exact Calls.aft (unhide HO _ (Aft.q _)))))
    refine wpQuiet_nil ?_
    intro _ hw'
    obtain ⟨u, hw''⟩ := hw'
    subst hw''
    have qu := u.q
    generalize u.to = w1 at qu ⊢
    clear hac hne
    go_wp2_with fail
    refine (unhide HX w1 qu).mono ?_
    rintro e w2 ⟨a, c, rfl, ho2, q2⟩
    have HO2 := hide ho2
    clear ho2
    have HR := hide (fun w => refusal_any (setE bs k et) w)
    generalize hz : setE bs k et = z at HR HS ⊢
    clear hz
    go_wp2_with fail
    refine (unhide HR _).mono ?_
    rintro e w3 ⟨rfl, rfl⟩
    go_wp2_with fail
    go_ret2
    refine ⟨a, (setB bs k et).length, c, ?_, qu.trans q2, ?_⟩
    · rw [HS.out]
      by_cases h0 : z = 0
      · subst h0; rfl
      · rw [if_pos h0]; rfl
    · intro bs' hbs
      rw [HS.out] at hbs
      by_cases h0 : z = 0
      · subst h0
        rw [if_neg (by simp)] at hbs
        cases hbs
        exact ⟨rfl, own_low (unhide HO2) qu.size⟩
      · rw [if_pos h0] at hbs; cases hbs
  · have HS : Hid (stL bs ou (bl k) (bl v) = .error 800) := by show _ = _; unfold stL; rw [if_pos he]
    have g1 : (evE (bl v) ou ou == 0) = false := by simpa using he
    have g2 : (evE (bl v) ou ou != 0) = true := by simpa using he
    unfold EvSays at HO
    generalize evE (bl v) ou ou = en at *
    generalize (⟨(evS (bl v) ou ou).toArray⟩ : ByteArray) = et at *
    clear he
    go_enter Tryz.func81, Tryz.ntmps81
    go_wp2_with fail
    refine wp_region_aft (by kernel_rfl) (by kernel_rfl) ?_
    repeat (go_big_quiet_step ((go_at_call 114; exact Calls.aft (unhide HO _ (Aft.q _)))))
    refine wpQuiet_nil ?_
    intro _ hw'
    obtain ⟨u, hw''⟩ := hw'
    subst hw''
    have qu := u.q
    generalize u.to = w1 at qu ⊢
    clear hac hne
    go_wp2_with fail
    go_ret2
    exact ⟨none, 0, 0, by rw [HS.out]; rfl, qu, fun bs' h => by rw [HS.out] at h; cases h⟩

end Go.Proofs.YtpddckgkaopnlaaGreatDoor
