/- Several texts of mine in one: LnRSmall, EvRef. -/
import Derived.Test.YtpddckgkaopnlaaGreatDoorBnLnCut
import Derived.Test.YtpddckgkaopnlaaGreatDoorBnEvOf
import Derived.Test.YtpddckgkaopnlaaGreatDoorPcRef
/- What the document's own goesOn, front and trim answer, for every text; no conditions but that the text is no longer than a string can be. -/
namespace Go.Proofs.YtpddckgkaopnlaaGreatDoor
open Go.RowKit

theorem trimR_snoc (c x : UInt8) (l : List UInt8) : Lib.trimRightB (l ++ [x]) c = if x = c then Lib.trimRightB l c else l ++ [x] := by
  unfold Lib.trimRightB
  rw [List.reverse_append]
  by_cases h : x = c
  · simp [h]
  · simp [h]

theorem bl_snoc (t : ByteArray) (h : 0 < t.size) : bl t = bl (t.extract 0 (t.size - 1)) ++ [t[t.size - 1]] := by
  rw [bl_front]
  have hn : bl t ≠ [] := fun e => by have := bl_size t; rw [e] at this; simp at this; omega
  conv => lhs; rw [← List.dropLast_concat_getLast hn]
  congr 2
  have := bl_getElem t (t.size - 1) (by omega)
  rw [List.getLast_eq_getElem hn]
  rw [List.getElem?_eq_getElem (by rw [bl_size]; omega)] at this
  have h2 := Option.some.inj this
  rw [← h2]
  congr 1

theorem bl_cons (t : ByteArray) (h : 0 < t.size) : bl t = t[0] :: bl (t.extract 1 t.size) := by
  rw [bl_extract, List.take_of_length_le (Nat.le_of_eq (bl_size t))]
  have := bl_getElem t 0 h
  have hl : 0 < (bl t).length := by rw [bl_size]; exact h
  rw [List.getElem?_eq_getElem hl] at this
  rw [← Option.some.inj this, ← List.drop_eq_getElem_cons hl, List.drop_zero]

theorem bl_none (t : ByteArray) (h : ¬ 0 < t.size) : bl t = [] := List.eq_nil_of_length_eq_zero (by rw [bl_size]; omega)

set_option maxHeartbeats 1000000 in
theorem rfront_any (s : ByteArray) (w : World) :
    Calls Tryz.prog 42 #[.string s] w fun e w' => e = .returned (.string ⟨(frL (bl s)).toArray⟩) ∧ w' = w := by
  go_enter Tryz.func42, Tryz.ntmps42
  go_wp2
  go_loop [0] (fun v => ∃ t : ByteArray, v = .string t ∧ t.size ≤ s.size ∧ Hid (frL (bl t) = frL (bl s))) (fun v => Lib.strSize v)
  case atStart => exact ⟨s, rfl, Nat.le_refl _, rfl⟩
  case round =>
    obtain ⟨t, rfl, hts, HT⟩ := hrel
    by_cases h0 : 0 < t.size
    · have hc := bl_cons t h0
      have hez : (t.extract 1 t.size).size = t.size - 1 := ext_sz t 1 t.size (by omega) (by omega)
      by_cases h1 : t[0] = 32
      · have g1 : ((t[0].toNat : Int) == 32) = true := by rw [h1]; rfl
        have HN : Hid (frL (bl (t.extract 1 t.size)) = frL (bl s)) := by
          show _ = _
          rw [← HT.out, hc, h1]; simp [frL, Lib.trimLeftB]
        clear hc h1 HT
        go_wp2
        refine ⟨⟨t.extract 1 t.size, rfl, by omega, HN⟩, ?_⟩
        rw [Lib.strSize_string, Lib.strSize_string]; omega
      · have g1 : ((t[0].toNat : Int) == 32) = false := beq_eq_false_iff_ne.2 fun e => h1 (UInt8.toNat_inj.1 (by show t[0].toNat = 32; omega))
        have HN : Hid (frL (bl s) = bl t) := by
          show _ = _
          rw [← HT.out, hc]; simp [frL, Lib.trimLeftB, h1]
        clear hc h1 HT
        go_wp2
        go_ret
        rw [HN.out, mk_blL]
        exact ⟨rfl, rfl⟩
    · have HN : Hid (frL (bl s) = bl t) := by
        show _ = _
        rw [← HT.out, bl_none t h0]; rfl
      have hz : t.size = 0 := by omega
      clear HT h0
      go_wp2
      go_ret
      rw [HN.out, mk_blL]
      exact ⟨rfl, rfl⟩

set_option maxHeartbeats 1000000 in
theorem rtrim_any (s : ByteArray) (w : World) (hs : s.size ≤ maxLen) :
    Calls Tryz.prog 43 #[.string s] w fun e w' => e = .returned (.string ⟨(trL (bl s)).toArray⟩) ∧ w' = w := by
  have HF := hide (rfront_any s w)
  unfold maxLen at hs
  obtain ⟨f, hf⟩ : ∃ f : ByteArray, f = ⟨(frL (bl s)).toArray⟩ := ⟨_, rfl⟩
  have hfb : bl f = frL (bl s) := by rw [hf]; rfl
  have hfs : f.size ≤ s.size := by rw [← bl_size, ← bl_size, hfb]; exact fr_len _
  have HC : Hid (Lib.trimRightB (bl f) 32 = trL (bl s)) := by show _ = _; rw [hfb]; exact trim_comm 32 (bl s)
  rw [← hf] at HF
  clear hf hfb
  go_enter Tryz.func43, Tryz.ntmps43
  go_wp2_with fail
  refine (unhide HF).mono ?_
  rintro e w1 ⟨rfl, rfl⟩
  go_wp2_with fail
  go_loop [0] (fun v => ∃ t : ByteArray, v = .string t ∧ t.size ≤ s.size ∧ Hid (Lib.trimRightB (bl t) 32 = trL (bl s))) (fun v => Lib.strSize v)
  case atStart => exact ⟨f, rfl, hfs, HC⟩
  case round =>
    obtain ⟨t, rfl, hts, HT⟩ := hrel
    by_cases h0 : 0 < t.size
    · have hc := bl_snoc t h0
      have hez : (t.extract 0 (t.size - 1)).size = t.size - 1 := ext_sz t 0 (t.size - 1) (by omega) (by omega)
      by_cases h1 : t[t.size - 1] = 32
      · have g1 : ((t[t.size - 1].toNat : Int) == 32) = true := by rw [h1]; rfl
        have HN : Hid (Lib.trimRightB (bl (t.extract 0 (t.size - 1))) 32 = trL (bl s)) := by
          show _ = _
          have h2 := HT.out
          rw [hc, trimR_snoc, if_pos h1] at h2
          exact h2
        clear hc h1 HT
        go_wp2
        refine ⟨⟨t.extract 0 (t.size - 1), rfl, by omega, HN⟩, ?_⟩
        rw [Lib.strSize_string, Lib.strSize_string]; omega
      · have g1 : ((t[t.size - 1].toNat : Int) == 32) = false := beq_eq_false_iff_ne.2 fun e => h1 (UInt8.toNat_inj.1 (by show t[t.size - 1].toNat = 32; omega))
        have HN : Hid (trL (bl s) = bl t) := by
          show _ = _
          have h2 := HT.out
          rw [hc, trimR_snoc, if_neg h1, ← hc] at h2
          exact h2.symm
        clear hc h1 HT
        go_wp2
        go_ret
        rw [HN.out, mk_blL]
        exact ⟨rfl, rfl⟩
    · have HN : Hid (trL (bl s) = bl t) := by
        show _ = _
        rw [← HT.out, bl_none t h0]; rfl
      have hz : t.size = 0 := by omega
      clear HT h0
      go_wp2
      go_ret
      rw [HN.out, mk_blL]
      exact ⟨rfl, rfl⟩

set_option maxHeartbeats 1000000 in
theorem rgoes_any (s : ByteArray) (w : World) (hs : s.size ≤ maxLen) :
    Calls Tryz.prog 41 #[.string s] w fun e w' => e = .returned (.bool (goL (bl s))) ∧ w' = w := by
  unfold maxLen at hs
  go_enter Tryz.func41, Tryz.ntmps41
  go_wp2
  go_loop [3] (fun i => ∃ k : Nat, i = .int .i64 k ∧ k ≤ s.size ∧ Hid (∀ (j : Nat) b, s.size - k ≤ j → (bl s)[j]? = some b → b = 36)) (fun i => s.size - (intOf i).toNat)
  case atStart =>
    refine ⟨0, rfl, by omega, ?_⟩
    intro j b hj hb
    rw [List.getElem?_eq_none (by rw [bl_size]; omega)] at hb; cases hb
  case round =>
    obtain ⟨k, rfl, hk, HA⟩ := hrel
    have HE : Hid ((∀ b, 0 < s.size - k → (bl s)[s.size - k - 1]? = some b → b ≠ 36) → goL (bl s) = (((k : Int) % 2) == 1)) := by
      intro h2
      have h1 := Lib.trimRightB_take (bl s) 36 (s.size - k) (by rw [bl_size]; omega) HA.out h2
      unfold goL
      rw [h1, List.length_take, bl_size, Bool.eq_iff_iff, beq_iff_eq, beq_iff_eq]
      omega
    by_cases hlt : k < s.size
    · have hge := bl_getElem s (s.size - 1 - k) (by omega)
      by_cases h1 : s[s.size - 1 - k] = 36
      · have g1 : ((s[s.size - 1 - k].toNat : Int) == 36) = true := by rw [h1]; rfl
        have HN : Hid (∀ (j : Nat) b, s.size - (k + 1) ≤ j → (bl s)[j]? = some b → b = 36) := by
          intro j b hj hb
          by_cases e : j = s.size - 1 - k
          · subst e
            rw [hge] at hb
            rw [← Option.some.inj hb, h1]
          · exact HA.out j b (by omega) hb
        clear HA HE hge h1
        go_wp2
        go_round
        case rel => exact ⟨k + 1, by go_num, by omega, HN⟩
        case measure => simp [intOf]; omega
      · have g1 : ((s[s.size - 1 - k].toNat : Int) == 36) = false := beq_eq_false_iff_ne.2 fun e => h1 (UInt8.toNat_inj.1 (by show s[s.size - 1 - k].toNat = 36; omega))
        have HN := hide (HE.out (fun b _ hb => by
          rw [show s.size - k - 1 = s.size - 1 - k by omega, hge] at hb
          rw [← Option.some.inj hb]; exact h1))
        clear HA HE hge h1
        go_wp2
        go_ret
        exact ⟨ret_bool (unhide HN).symm, rfl⟩
    · have HN := hide (HE.out (fun b h _ => by omega))
      clear HA HE
      go_wp2
      go_ret
      exact ⟨ret_bool (unhide HN).symm, rfl⟩

end Go.Proofs.YtpddckgkaopnlaaGreatDoor

/- What the document's own Eval answers, for every text and both scopes; the conditions: the binds lie in memory, the texts are no longer than a string can be. -/
namespace Go.Proofs.YtpddckgkaopnlaaGreatDoor
open Go.RowKit

theorem Read.rget {w : World} {ao : Option Addr} {cap : Nat} {bs : List Bd} (h : Read w ao cap bs) (n : ByteArray) :
    Calls Tryz.prog 122 #[.slice ao bs.length cap, .string n] w fun e w' => e = .returned (.string (getB bs n)) ∧ Q w w' := rGet_any bs n ao cap w h.1 h.2.1 (Nat.le_trans h.2.2.1 h.2.2.2)
theorem Read.rmay {w : World} {ao : Option Addr} {cap : Nat} {bs : List Bd} (h : Read w ao cap bs) :
    Calls Tryz.prog 121 #[.slice ao bs.length cap] w fun e w' => e = .returned (.bool (scOk bs)) ∧ Q w w' := rMay_any bs ao cap w h.1 h.2.1 (Nat.le_trans h.2.2.1 h.2.2.2)

set_option maxRecDepth 20000 in
set_option maxHeartbeats 4000000 in
theorem rev_bad (s : ByteArray) (ins outs : List Bd) (ai ao : Option Addr) (ci co : Nat) (w : World) (hs : s.size ≤ maxLen) (hi : Read w ai ci ins) (ho : Read w ao co outs) (hb : evOk (bl s) ins outs = false) :
    Calls Tryz.prog 87 #[.string s, .slice ai ins.length ci, .slice ao outs.length co] w (EvSays s ins outs w) := by
  have HB := hide (ev_bad hb)
  rcases cut_no_or (bl s) with hc | hc
  · have HI := hide (fun w' (h : Q w w') => (hi.q h).rmay)
    have HO := hide (fun w' (h : Q w w') => (ho.q h).rmay)
    have HC := hide hc
    cases h1 : scOk ins
    · rw [h1] at HI
      clear hb h1 hc
      go_enter Tryz.func87, Tryz.ntmps87
      go_wp2_with fail
      refine (rcut_any s w hs).mono ?_
      rintro e w1 ⟨a1, c1, rfl, own1, q1⟩
      rw [unhide HC]
      clear own1
      go_wp2_with fail
      refine (unhide HI _ q1).mono ?_
      rintro e w2 ⟨rfl, qu⟩
      go_wp2_with fail
      go_ret2
      unfold EvSays
      rw [(unhide HB).1, (unhide HB).2]
      exact ⟨rfl, q1.trans qu⟩
    · cases h2 : scOk outs
      · rw [h1] at HI
        rw [h2] at HO
        clear hb h1 hc h2
        go_enter Tryz.func87, Tryz.ntmps87
        go_wp2_with fail
        refine (rcut_any s w hs).mono ?_
        rintro e w1 ⟨a1, c1, rfl, own1, q1⟩
        rw [unhide HC]
        clear own1
        go_wp2_with fail
        refine (unhide HI _ q1).mono ?_
        rintro e w2 ⟨rfl, q2⟩
        go_wp2_with fail
        refine (unhide HO _ (q1.trans q2)).mono ?_
        rintro e w3 ⟨rfl, q3⟩
        have qu := q2.trans q3
        go_wp2_with fail
        go_ret2
        unfold EvSays
        rw [(unhide HB).1, (unhide HB).2]
        exact ⟨rfl, q1.trans qu⟩
      · rw [evOk_all hc h1 h2] at hb; cases hb
  · have HC := hide hc
    clear hb hc
    go_enter Tryz.func87, Tryz.ntmps87
    go_wp2_with fail
    refine (rcut_any s w hs).mono ?_
    rintro e w1 ⟨a1, c1, rfl, own1, q1⟩
    rw [unhide HC]
    clear own1
    go_wp2_with fail
    go_ret2
    unfold EvSays
    rw [(unhide HB).1, (unhide HB).2]
    exact ⟨rfl, q1⟩

/-- Two texts, one behind the other. -/
theorem mk_app (a b : List UInt8) : (⟨a.toArray⟩ : ByteArray) ++ ⟨b.toArray⟩ = ⟨(a ++ b).toArray⟩ := bl_inj (by rw [bl_app, bl_mk, bl_mk, bl_mk])
theorem mk_size (a : List UInt8) : (⟨a.toArray⟩ : ByteArray).size = a.length := by rw [← bl_size, bl_mk]

set_option maxRecDepth 20000 in
set_option maxHeartbeats 4000000 in
theorem rev_good (s : ByteArray) (ins outs : List Bd) (ai ao : Option Addr) (ci co : Nat) (w : World) (hs : s.size ≤ maxLen) (hi : Read w ai ci ins) (ho : Read w ao co outs) (hc : cutE (bl s) = 0) (h1 : scOk ins = true) (h2 : scOk outs = true) :
    Calls Tryz.prog 87 #[.string s, .slice ai ins.length ci, .slice ao outs.length co] w (EvSays s ins outs w) := by
  have HG := hide (evOk_all hc h1 h2)
  have HI := hide (fun w' (h : Q w w') => (hi.q h).rmay)
  have HO := hide (fun w' (h : Q w w') => (ho.q h).rmay)
  have HGI := hide (fun n w' (h : Q w w') => (hi.q h).rget n)
  have HGO := hide (fun n w' (h : Q w w') => (ho.q h).rget n)
  have HX := hide (fun (k : Nat) (p : Pc) (h : (cutP (bl s))[k]? = some p) => txt_cut (ins := ins) (outs := outs) h)
  have HY := hide (fun (k : Nat) (p : Pc) (h : (cutP (bl s))[k]? = some p) => (cutP_facts (bl s)).2 p (List.mem_of_getElem? h))
  have hps := (cutP_facts (bl s)).1
  rw [h1] at HI
  rw [h2] at HO
  have HE := hide (fun h => ev_good (l := bl s) (ins := ins) (outs := outs) (unhide HG) h)
  have HL := hide (fun h => ev_long (l := bl s) (ins := ins) (outs := outs) (unhide HG) h)
  have HCUT := hide (rcut_any s w hs)
  rw [hc] at HCUT
  unfold EvSays
  revert HCUT HX HY hps HE HL
  generalize cutP (bl s) = ps
  generalize evS (bl s) ins outs = vs
  generalize evE (bl s) ins outs = ve
  intro HX HY hps HE HL HCUT
  clear h1 h2 hc HG hi ho
  go_enter Tryz.func87, Tryz.ntmps87
  go_wp2_with fail
  refine (unhide HCUT).mono ?_
  rintro e w1 ⟨a1, c1, rfl, own1, q1⟩
  have HR := hide (RowG.own pv_len (by decide) own1)
  clear own1 HCUT
  go_wp2_with fail
  refine (unhide HI _ q1).mono ?_
  rintro e w2 ⟨rfl, q2⟩
  go_wp2_with fail
  refine (unhide HO _ (q1.trans q2)).mono ?_
  rintro e w3 ⟨rfl, q3⟩
  have HR3 := hide (((unhide HR).q q2).q q3)
  have hq3 := (q1.trans q2).trans q3
  clear q1 q2 q3 HI HO HR
  go_wp2_with fail
  go_loopw [10, 11] (fun v i wr => ∃ k : Nat, k ≤ ps.length ∧ i = .int .i64 k ∧ v = .string ⟨(evT ins outs (ps.take k)).toArray⟩ ∧ Hid ((evT ins outs (ps.take k)).length ≤ k * 2064) ∧ Q w3 wr) (fun _ i _ => ps.length - (intOf i).toNat)
  case atStart => exact ⟨0, Nat.zero_le _, rfl, rfl, Nat.zero_le _, Q.refl _⟩
  case round =>
    obtain ⟨k, hk, rfl, rfl, HN, hq⟩ := hrel
    by_cases hlt : k < ps.length
    · rcases (unhide HR3).q hq with he | ⟨g, o, rfl, hg, hcell⟩
      · rw [he] at hlt; simp at hlt
      obtain ⟨p, hp⟩ : ∃ p, ps[k]? = some p := ⟨ps[k], List.getElem?_eq_getElem hlt⟩
      have d1 : wr.cell? ⟨g, o + k * 2, none⟩ = some (.bool p.1) := hcell k 0 p _ hp (by decide) rfl
      have d2 : wr.cell? ⟨g, o + k * 2 + 1, none⟩ = some (.string ⟨p.2.toArray⟩) := hcell k 1 p _ hp (by decide) rfl
      have hx := unhide HX k p hp
      have hy := unhide HY k p hp
      have HTK : Hid ((⟨(evT ins outs (ps.take k)).toArray⟩ : ByteArray) ++ ⟨(txt ins outs p).toArray⟩ = ⟨(evT ins outs (ps.take (k + 1))).toArray⟩) := by
        show _ = _
        rw [mk_app, evT_take ins outs hp]
      have HN2 : Hid ((evT ins outs (ps.take (k + 1))).length ≤ (k + 1) * 2064) := by
        show _ ≤ _
        have := HN.out
        rw [evT_take ins outs hp, List.length_append]; omega
      have hsz : (⟨(evT ins outs (ps.take k)).toArray⟩ : ByteArray).size ≤ 2048 * 2064 := by rw [mk_size]; have := HN.out; omega
      have k0 : (0 : Int) ≤ (k : Int) := Int.natCast_nonneg _
      have k1 : (k : Int) < (ps.length : Int) := by omega
      clear hcell HN
      revert HTK hsz
      generalize (⟨(evT ins outs (ps.take k)).toArray⟩ : ByteArray) = acc
      generalize hacc2 : (⟨(evT ins outs (ps.take (k + 1))).toArray⟩ : ByteArray) = acc2
      intro HTK hsz
      have HA2 := hide hacc2
      clear hacc2
      cases hv : p.1
      · rw [hv] at d1
        have hts : (⟨p.2.toArray⟩ : ByteArray).size ≤ 2064 := by rw [mk_size]; omega
        rw [txt_of hv] at HTK
        clear hv hx hy hp
        go_wp2_with fail
        go_roundw
        case rel => exact ⟨k + 1, by omega, by go_num, by rw [unhide HTK, unhide HA2], unhide HN2, hq⟩
        case measure => simp [intOf]; omega
      · rw [hv] at d1
        by_cases h0 : bl (getB ins ⟨p.2.toArray⟩) = []
        · have he : (getB ins ⟨p.2.toArray⟩).toList.isEmpty = true := by rw [bl_toList, h0]; rfl
          have hts : (getB outs ⟨p.2.toArray⟩).size ≤ 256 := by rw [← bl_size]; exact get_size _
          rw [txt_out hv h0, mk_bl] at HTK
          clear hv hx hy hp h0
          go_wp2_with fail
          refine (unhide HGI _ _ (hq3.trans hq)).mono ?_
          rintro e w4 ⟨rfl, q4⟩
          have d2' : w4.cell? ⟨g, o + k * 2 + 1, none⟩ = some (.string ⟨p.2.toArray⟩) := (q4.cell (p := ⟨g, o + k * 2 + 1, none⟩) hg).trans d2
          clear d1 d2
          go_wp2_with fail
          refine (unhide HGO _ _ ((hq3.trans hq).trans q4)).mono ?_
          rintro e w5 ⟨rfl, q5⟩
          clear d2'
          go_wp2_with fail
          go_roundw
          case rel => exact ⟨k + 1, by omega, by go_num, by rw [unhide HTK, unhide HA2], unhide HN2, (hq.trans q4).trans q5⟩
          case measure => simp [intOf]; omega
        · have he : (getB ins ⟨p.2.toArray⟩).toList.isEmpty = false := by rw [bl_toList]; simpa using h0
          have hts : (getB ins ⟨p.2.toArray⟩).size ≤ 256 := by rw [← bl_size]; exact get_size _
          rw [txt_in hv h0, mk_bl] at HTK
          clear hv hx hy hp h0
          go_wp2_with fail
          refine (unhide HGI _ _ (hq3.trans hq)).mono ?_
          rintro e w4 ⟨rfl, q4⟩
          clear d1 d2
          go_wp2_with fail
          go_roundw
          case rel => exact ⟨k + 1, by omega, by go_num, by rw [unhide HTK, unhide HA2], unhide HN2, hq.trans q4⟩
          case measure => simp [intOf]; omega
    · have hkl : ps.take k = ps := List.take_of_length_le (by omega)
      rw [hkl]
      clear HN hkl
      by_cases hle : (evT ins outs ps).length ≤ 256
      · have HZ := hide (unhide HE hle)
        have hsz : (⟨(evT ins outs ps).toArray⟩ : ByteArray).size ≤ 256 := by rw [mk_size]; exact hle
        revert hsz
        generalize hacc : (⟨(evT ins outs ps).toArray⟩ : ByteArray) = acc
        intro hsz
        have HA := hide hacc
        clear hle hacc
        go_wp2_with fail
        go_ret2
        rw [(unhide HZ).1, (unhide HZ).2, unhide HA]
        exact ⟨rfl, hq3.trans hq⟩
      · have HZ := hide (unhide HL (by omega))
        have hsz : 256 < (⟨(evT ins outs ps).toArray⟩ : ByteArray).size := by rw [mk_size]; omega
        revert hsz
        generalize hacc : (⟨(evT ins outs ps).toArray⟩ : ByteArray) = acc
        intro hsz
        clear hle hacc
        go_wp2_with fail
        go_ret2
        rw [(unhide HZ).1, (unhide HZ).2]
        exact ⟨rfl, hq3.trans hq⟩

theorem rev_any (s : ByteArray) (ins outs : List Bd) (ai ao : Option Addr) (ci co : Nat) (w : World) (hs : s.size ≤ maxLen) (hi : Read w ai ci ins) (ho : Read w ao co outs) :
    Calls Tryz.prog 87 #[.string s, .slice ai ins.length ci, .slice ao outs.length co] w (EvSays s ins outs w) := by
  cases h : evOk (bl s) ins outs
  · exact rev_bad s ins outs ai ao ci co w hs hi ho h
  · have h2 := Bool.and_eq_true_iff.1 h
    have h3 := Bool.and_eq_true_iff.1 h2.1
    exact rev_good s ins outs ai ao ci co w hs hi ho (of_decide_eq_true h3.1) h3.2 h2.2

end Go.Proofs.YtpddckgkaopnlaaGreatDoor
