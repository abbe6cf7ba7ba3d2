/- What package scope's Set answers, and the document's own Set; the conditions: the binds lie in memory, each text is no longer than a string can be. -/
import Derived.Test.YtegcckaemhdkgaaScCopy
import Derived.Test.YtegcckaemhdkgaaStAppend
namespace Go.Proofs.Ytegcckaemhdkgaa
open Go.RowKit

theorem set_nil (w : World) (B : Nat) {bs : List Bd} {n t : ByteArray} {m : Int} (h : setB bs n t = [] ∧ setE bs n t = m) : ∃ ao cap, Ending.returned (.tuple #[.slice none 0 0, .int .i64 m]) = .returned (.tuple #[.slice ao (setB bs n t).length cap, .int .i64 (setE bs n t)]) ∧ OwnD w B ao cap (setB bs n t) :=
  ⟨none, 0, by rw [h.1, h.2]; rfl, by rw [h.1]; exact World.ownsRow_nil _ _ _ _⟩

/-- What a Set answers. -/
def SetSays (bs : List Bd) (n t : ByteArray) (w : World) (e : Ending) (w' : World) : Prop :=
  ∃ ao cap, e = .returned (.tuple #[.slice ao (setB bs n t).length cap, .int .i64 (setE bs n t)]) ∧ OwnD w' w.heap.size ao cap (setB bs n t) ∧ Q w w'

theorem own_one {w : World} {B cap g : Nat} {bs : List Bd} {k : Nat} {b : Bd} {n t : ByteArray} (h : OwnD w B (some ⟨g, 0, none⟩) cap bs) (hb : bs[k]? = some b) (hn : named n b = true) :
    OwnD (w.setCell ⟨g, k * 2 + 1, none⟩ (.string t)) B (some ⟨g, 0, none⟩) cap (bs.set k (n, t)) := by
  have := own_set dv_len h k 1 b (n, t) (.string t) hb (by decide) (by rw [← named_eq hn]; rfl)
  show World.ownsRow _ _ _ _ (.slice _ (bs.set _ _).length _) (bs.set _ _).length _
  rw [List.length_set]; exact this

set_option maxRecDepth 20000 in
set_option maxHeartbeats 4000000 in
theorem scSet_any (bs : List Bd) (n t : ByteArray) (ao : Option Addr) (cap : Nat) (w : World) (hr : RowD w ao bs) (hf : Fit bs) (hs : bs.length ≤ cap) (hcap : cap ≤ maxLen) (hn : n.size ≤ maxLen) (ht : t.size ≤ maxLen) :
    Calls Try.prog 8 #[.slice ao bs.length cap, .string n, .string t] w (SetSays bs n t w) := by
  obtain ⟨i0, hi, hz0, hz1, hz2⟩ := info_parts Try.infoD
  have HM := hide (fun w' (h : Q w w') => scMay_any bs ao cap w' (hr.q h) hf hs hcap)
  have HAT := hide (fun w' (h : Q w w') => at_any bs n ao cap w' (hr.q h) (Nat.le_trans hs hcap))
  have HMB := hide (mayBind_any n t · hn ht)
  cases hm : scOk bs
  · have HF := hide (set_no (bs := bs) (n := n) (t := t) (by rw [hm]; rfl))
    rw [hm] at HM
    clear hm
    go_enter Try.func8, Try.ntmps8
    go_wp2_with fail
    refine (unhide HM _ (Q.refl _)).mono ?_
    rintro e w1 ⟨rfl, q1⟩
    go_wp2_with fail
    go_ret2
    obtain ⟨ao', cap', e1, e2⟩ := set_nil w1 w.heap.size (unhide HF)
    exact ⟨ao', cap', e1, e2, q1⟩
  cases hmb : (mayB n && txB t)
  · have HF := hide (set_no (bs := bs) (n := n) (t := t) (by rw [Bool.and_assoc, hmb, Bool.and_false]))
    rw [hm] at HM
    rw [hmb] at HMB
    clear hm hmb
    go_enter Try.func8, Try.ntmps8
    go_wp2_with fail
    refine (unhide HM _ (Q.refl _)).mono ?_
    rintro e w1 ⟨rfl, q1⟩
    go_wp2_with fail
    refine (unhide HMB _).mono ?_
    rintro e w2 ⟨rfl, q2⟩
    go_wp2_with fail
    go_ret2
    obtain ⟨ao', cap', e1, e2⟩ := set_nil w2 w.heap.size (unhide HF)
    exact ⟨ao', cap', e1, e2, q1.trans q2⟩
  have hall : (scOk bs && mayB n && txB t) = true := by rw [Bool.and_assoc, hmb, hm]; rfl
  have hsz := scOk_parts hm
  have hbm : ∀ b ∈ bs, b.1.size ≤ 16 ∧ b.2.size ≤ 256 := by
    intro b hb
    obtain ⟨k, hk⟩ := List.mem_iff_getElem?.1 hb
    exact mayBd_size (hsz.2 k b hk).1
  have hl16 := hsz.1
  have HCP := hide (fun w' (h : Q w w') => copied_any bs ao cap w' (hr.q h) hl16 hbm)
  have hnt : n.size ≤ 16 ∧ t.size ≤ 256 := ⟨mayB_size (Bool.and_eq_true_iff.1 hmb).1, txB_size (Bool.and_eq_true_iff.1 hmb).2⟩
  have HC1 := hide (clone_any n · (by omega))
  have HC2 := hide (clone_any t · (by omega))
  rw [hm] at HM
  rw [hmb] at HMB
  clear hm hmb hsz hbm hr hf hn ht
  cases hh : hit bs n with
  | none =>
    rw [hitI_neg hh] at HAT
    by_cases h16 : bs.length = 16
    · have HF := hide (set_full hall hh h16)
      have h16' : ((bs.length : Int) == 16) = true := by rw [h16]; rfl
      clear hall hh h16
      go_enter Try.func8, Try.ntmps8
      go_wp2_with fail
      refine (unhide HM _ (Q.refl _)).mono ?_
      rintro e w1 ⟨rfl, q1⟩
      go_wp2_with fail
      refine (unhide HMB _).mono ?_
      rintro e w2 ⟨rfl, q2⟩
      go_wp2_with fail
      refine (unhide HAT _ (q1.trans q2)).mono ?_
      rintro e w3 ⟨rfl, q3⟩
      go_wp2_with fail
      go_ret2
      obtain ⟨ao', cap', e1, e2⟩ := set_nil w3 w.heap.size (unhide HF)
      exact ⟨ao', cap', e1, e2, (q1.trans q2).trans q3⟩
    · have HF := hide (set_more hall hh h16)
      have h16' : ((bs.length : Int) == 16) = false := beq_eq_false_iff_ne.2 (by omega)
      clear hall hh h16
      go_enter Try.func8, Try.ntmps8
      go_wp2_with fail
      refine (unhide HM _ (Q.refl _)).mono ?_
      rintro e w1 ⟨rfl, q1⟩
      go_wp2_with fail
      refine (unhide HMB _).mono ?_
      rintro e w2 ⟨rfl, q2⟩
      go_wp2_with fail
      refine (unhide HAT _ (q1.trans q2)).mono ?_
      rintro e w3 ⟨rfl, q3⟩
      go_wp2_with fail
      refine (unhide HCP _ ((q1.trans q2).trans q3)).mono ?_
      rintro e w4 ⟨co, ccap, rfl, hown4, q4⟩
      go_wp2_with fail
      refine (unhide HC1 _).mono ?_
      rintro e w5 ⟨rfl, q5⟩
      go_wp2_with fail
      refine (unhide HC2 _).mono ?_
      rintro e w6 ⟨rfl, q6⟩
      have hq3 := (q1.trans q2).trans q3
      have hq6 := (hq3.trans q4).trans (q5.trans q6)
      have own6 := own_q (own_low hown4 hq3.size) (q5.trans q6)
      have hyc := own_le own6
      have hB6 := hq6.size
      clear hown4 q1 q2 q3 q4 q5 q6 hq3
      go_wp2_with (at_builtin; refine wpList_append_lies _ rfl _ _ 22 rfl w.heap.size 37 i0 (.agg #[.string ByteArray.empty, .string ByteArray.empty]) 2 32 Try.underlying22 hi hz0 hz1 hz2 rfl (by decide) _ _ _ rfl (own6.alloc _) ⟨w6.heap.size, 0, none⟩ 1 1 [.string n, .string t] rfl rfl (news_new _ #[.string n, .string t] _) (one_ss _ _) (by decide) (by unfold maxLen; omega) (by omega) (le_alloc hB6 _) (w6.heap.size + 1) (size_alloc _ _) ?_)
      intro g7 cp7 w7 hown7 hgrow hor hglt
      have hq7 : Q w w7 := Below.grown (hq6.alloc _) hgrow (le_alloc hq6.size _) (fun r hr => (own6.lt r hr).1)
      have HO := hide (OwnD.snoc (b := (n, t)) hown7)
      clear hown7 hgrow hor own6
      go_wp2_with fail
      go_ret2
      refine ⟨some ⟨g7, 0, none⟩, cp7, ?_, ?_, hq7⟩
      · rw [(unhide HF).1, (unhide HF).2]; simp
      · rw [(unhide HF).1]; exact unhide HO
  | some k =>
    obtain ⟨b, hb, hnb, _⟩ := hit_some hh
    have HF := hide (set_hit hall hh)
    rw [hitI_at hh] at HAT
    have hlt := (List.getElem?_eq_some_iff.1 hb).1
    have k0 : (0 : Int) ≤ (k : Int) := Int.natCast_nonneg _
    have k1 : (k : Int) < (bs.length : Int) := by omega
    have HON := hide (fun (w' : World) (g c : Nat) (h : OwnD w' w.heap.size (some ⟨g, 0, none⟩) c bs) => own_one (t := t) h hb hnb)
    clear hall hh hb hnb
    go_enter Try.func8, Try.ntmps8
    go_wp2_with fail
    refine (unhide HM _ (Q.refl _)).mono ?_
    rintro e w1 ⟨rfl, q1⟩
    go_wp2_with fail
    refine (unhide HMB _).mono ?_
    rintro e w2 ⟨rfl, q2⟩
    go_wp2_with fail
    refine (unhide HAT _ (q1.trans q2)).mono ?_
    rintro e w3 ⟨rfl, q3⟩
    go_wp2_with fail
    refine (unhide HCP _ ((q1.trans q2).trans q3)).mono ?_
    rintro e w4 ⟨co, ccap, rfl, hown4, q4⟩
    go_wp2_with fail
    refine (unhide HC2 _).mono ?_
    rintro e w5 ⟨rfl, q5⟩
    have hq3 := (q1.trans q2).trans q3
    have hq5 := (hq3.trans q4).trans q5
    have own5 := own_q (own_low hown4 hq3.size) q5
    obtain ⟨g, rfl, hgB, hg, hfz, hc⟩ := own_some dv_len (by decide) (by omega) own5
    have hfr := hfz (k * 2 + 1)
    have HO := hide (unhide HON _ _ _ own5)
    have hcl : ∃ v, w5.cell? ⟨g, k * 2 + 1, none⟩ = some v := ⟨_, hc k 1 bs[k] _ (List.getElem?_eq_getElem hlt) (by decide) rfl⟩
    obtain ⟨v, hcv⟩ := hcl
    clear hown4 q1 q2 q3 q4 q5 hq3 own5 hc hfz HON
    go_wp2_with fail
    go_ret2
    refine ⟨some ⟨g, 0, none⟩, ccap, ?_, ?_, hq5.setCell hgB _⟩
    · rw [(unhide HF).1, (unhide HF).2, List.length_set]; rfl
    · rw [(unhide HF).1]; exact unhide HO

end Go.Proofs.Ytegcckaemhdkgaa
