/- The document's own parser: a deep line below a pool's; the conditions: the parser lies in memory. -/
import Derived.Test.YtpddckgkaopnlaaGreatDoorBnRpDeep
import Derived.Test.YtpddckgkaopnlaaGreatDoorRpPool
namespace Go.Proofs.YtpddckgkaopnlaaGreatDoor
open Go.RowKit

theorem dp_no {s : Sm} {l : Tx} (h : bnL l = none) : dpL s l = .error 800 := by unfold dpL; rw [h]
theorem dp_pool {s : Sm} {l : Tx} {p : Pl} {k v : Tx} (hun : s.un = some (.inr (.inl p))) (hb : bnL l = some (k, v)) : dpL s l = if k = kDepth ∧ p.2 = 0 ∧ dpth v ≠ 0 then .ok (s.wU (some (.inr (.inl (p.1, dpth v))))) else .error 800 := by
  unfold dpL tkL
  rw [hb]
  simp only
  rw [hun]; rfl

/-- A pool's depth is told. -/
theorem pool_set {B P : Nat} {w : World} {s : Sm} {ps : List Pl} {A : RpA} {b0 b1 b2 b3 b4 vo : Value} {p : Pl} {d g : Nat} (h : Rp B w P s ps A 2 b0 b1 b2 b3 b4 vo) (hps : ps = s.ps ++ [p]) (hrs : A.rs.map Prod.fst = s.rs) (hpo : A.po = some ⟨g, 0, none⟩)
    (ok : SmOk (s.wU (some (.inr (.inl (p.1, d)))))) (hm : SmMay (s.wU (some (.inr (.inl (p.1, d)))))) :
    RS B (w.setCell ⟨g, s.ps.length * 2 + 1, none⟩ (.int .i64 d)) P (s.wU (some (.inr (.inl (p.1, d))))) := by
  have hf := Fr.set w g (s.ps.length * 2 + 1) (.int .i64 d)
  have hown := h.ro.p
  rw [hpo] at hown
  obtain ⟨csb, hgb⟩ : ∃ cs, Blk w g cs 73 := own_blk hown g rfl
  have hP : ∀ k, k = g → ∃ cs, Blk w k cs 73 := fun k hk => by subst hk; exact ⟨csb, hgb⟩
  have hne : P ≠ g := Blk.ne h.blk hgb (by decide)
  have hset := own_set plv_len hown s.ps.length 1 p (p.1, d) (.int .i64 d) (by rw [hps]; simp) (by decide) rfl
  have hl : ps.length = (s.ps ++ [((p.1, d) : Pl)]).length := by rw [hps]; simp
  have hsl : ps.set s.ps.length (p.1, d) = s.ps ++ [(p.1, d)] := by rw [hps]; simp
  rw [hsl, hl] at hset
  have hb := h.blk.other hne (s.ps.length * 2 + 1) (.int .i64 d)
  refine ⟨ok, hm, s.ps ++ [(p.1, d)], A, 2, b0, b1, b2, b3, b4, vo, ⟨?_, h.lo, ?_⟩, ?_⟩
  · unfold rpC at hb ⊢
    rw [← hl]; exact hb
  · refine ⟨own_ty h.ro.e hf hP (by decide), h.ro.em, ?_, own_ty h.ro.d hf hP (by decide), own_ty h.ro.r hf hP (by decide), own_ty h.ro.o hf hP (by decide), fun x hx => (h.ro.q x hx).ty hf hP (by decide), h.ro.nd⟩
    rw [hpo]; exact hset
  · exact ⟨rfl, rfl, hrs⟩

theorem dp_ok {s s' : Sm} {l : Tx} (h : dpL s l = .ok s') (ok : SmOk s) (hm : SmMay s) (hl : l.length ≤ 4096) (hpl : plainL l = true) : SmOk s' ∧ SmMay s' := by
  unfold dpL at h
  cases hb : bnL l with
  | none => rw [hb] at h; cases h
  | some x =>
    rw [hb] at h
    exact ⟨ok_tk h ok (by have := (bnL_len hb).2.1; omega), tk_may h hm (bn_plain hb hpl).1⟩
theorem bn_some {l k v : Tx} (h : bnL l = some (k, v)) : (bnR l).1 = k ∧ (bnR l).2.1 = v ∧ (bnR l).2.2 = true := by
  rw [bn_of] at h
  cases h3 : (bnR l).2.2 with
  | false => rw [h3] at h; cases h
  | true => rw [h3] at h; cases h; exact ⟨rfl, rfl, rfl⟩
theorem bn_none {l : Tx} (h : bnL l = none) : (bnR l).2.2 = false := by
  rw [bn_of] at h
  cases h3 : (bnR l).2.2 with
  | false => rfl
  | true => rw [h3] at h; cases h
theorem dpth_one {v : Tx} (h : dpth v ≠ 0) : ∃ c : UInt8, v = [c] ∧ 49 ≤ c.toNat ∧ c.toNat ≤ 56 ∧ dpth v = c.toNat - 48 := by
  match v, h with
  | [], h => exact absurd rfl h
  | [c], h =>
    have e : dpth [c] = if 49 ≤ c.toNat ∧ c.toNat ≤ 56 then c.toNat - 48 else 0 := rfl
    by_cases hc : 49 ≤ c.toNat ∧ c.toNat ≤ 56
    · exact ⟨c, rfl, hc.1, hc.2, by rw [e, if_pos hc]⟩
    · exact absurd (by rw [e, if_neg hc]) h
  | c :: d :: r, h => exact absurd rfl h

set_option maxRecDepth 20000 in
set_option maxHeartbeats 8000000 in
theorem rdeep_pool (B P : Nat) (s : Sm) (p : Pl) (l : ByteArray) (w : World) (h : RS B w P s) (hun : s.un = some (.inr (.inl p))) (hB : B ≤ w.heap.size) (hl : l.size ≤ 2049) (hpl : plainL (bl l) = true) :
    Calls Tryz.prog 14 #[.pointer (some ⟨P, 0, none⟩), .string l] w (RL B P (dpL s (bl l)) w) := by
  obtain ⟨ok, hm, ps, A, op, b0, b1, b2, b3, b4, vo, h, hu⟩ := h
  unfold UnP at hu
  rw [hun] at hu
  obtain ⟨rfl, hps, hrs⟩ := hu
  have HL := hide (bindLine_any l w (by unfold maxLen; omega))
  have hlr : ps.length = s.ps.length + 1 := by rw [hps]; simp
  have hl9 : s.ps.length ≤ 4 := ok.lp
  obtain ⟨g, hpo, hgB, hg, hfz, hcell⟩ := own_some plv_len (by decide) (by rw [hps]; simp) h.ro.p
  have hx : ps[s.ps.length]? = some p := by rw [hps]; simp
  have hk1 : w.cell? ⟨g, s.ps.length * 2 + 1, none⟩ = some (.int .i64 p.2) := hcell s.ps.length 1 p _ hx (by decide) rfl
  have HC5 : Hid (∀ w2, Q w w2 → w2.cell? ⟨P, 5, none⟩ = some (.int .i64 2)) := fun w2 q => (h.q q).cells.c5
  have HC1 : Hid (∀ w2, Q w w2 → w2.cell? ⟨P, 1, none⟩ = some (.slice (some ⟨g, 0, none⟩) (s.ps.length + 1) A.pc)) := fun w2 q => by have := (h.q q).cells.c1; rw [hpo, hlr] at this; exact this
  have HCK : Hid (∀ w2, Q w w2 → w2.cell? ⟨g, s.ps.length * 2 + 1, none⟩ = some (.int .i64 p.2)) := fun w2 q => (q.cell (p := ⟨g, s.ps.length * 2 + 1, none⟩) hg).trans hk1
  have HCF : Hid (∀ w2, Q w w2 → w2.frozen? ⟨g, s.ps.length * 2 + 1, none⟩ = false) := fun w2 q => by
    have h2 := (h.q q).ro.p
    rw [hpo] at h2
    obtain ⟨csb, hgb⟩ := own_blk h2 g rfl
    exact hgb.frz _
  have c5 := h.cells.c5
  have HBW : Hid (∀ w', Q w w' → Below B w w') := fun w' q => q.mono hB
  have HRES : Hid (∀ d w2, Q w w2 → dpL s (bl l) = .ok (s.wU (some (.inr (.inl (p.1, d))))) → RL B P (dpL s (bl l)) w (.returned (.int .i64 0)) (w2.setCell ⟨g, s.ps.length * 2 + 1, none⟩ (.int .i64 (d : Nat)))) := fun d w2 q hd => by
    obtain ⟨hok, hmay⟩ := dp_ok hd ok hm (by rw [bl_size]; omega) hpl
    exact RL.ok hd (Below.trans (q.mono hB) ((Fr.set w2 g _ _).below (Nat.le_trans hB q.size) (fun k hk => by rw [hk]; exact hgB))) (pool_set (h.q q) hps hrs hpo hok hmay)
  cases hb : bnL (bl l) with
  | none =>
    have HX := hide (dp_no (s := s) hb)
    rw [bn_none hb] at HL
    clear ok hm hps hrs h hun hx hk1 hcell hb hlr hfz
    go_enter Tryz.func14, Tryz.ntmps14
    go_wp2_with fail
    refine (unhide HL).mono ?_
    rintro e w1 ⟨rfl, q1⟩
    go_wp2_with fail
    go_ret
    exact RL.err (unhide HX) (HBW.out _ q1)
  | some y =>
    obtain ⟨kx, vx⟩ := y
    obtain ⟨z1, z2, z3⟩ := bn_some hb
    have hD := dp_pool hun hb
    have HVL : Hid (vx.length ≤ 2049) := by show _ ≤ _; have := (bnL_len hb).2.1; rw [bl_size] at this; exact Nat.le_trans this hl
    rw [z1, z2, z3] at HL
    have HDD := hide hD
    clear ok hm hps hrs h hun hx hk1 hcell hb hlr hfz z1 z2 z3 hD
    generalize dpL s (bl l) = RES at *
    generalize s.ps.length = m at *
    by_cases c1 : kx = kDepth
    rotate_left
    · skip
      have HX : Hid (RES = .error 800) := by show _ = _; rw [HDD.out, if_neg (fun h => c1 h.1)]
      have e1 : ((⟨kx.toArray⟩ : ByteArray).toList == [100, 101, 112, 116, 104]) = false := no_key c1
      have e2 : ((⟨kx.toArray⟩ : ByteArray).toList != [100, 101, 112, 116, 104]) = true := no_keyn c1
      clear c1 HDD HVL HRES HCF
      generalize (⟨kx.toArray⟩ : ByteArray) = kB at *
      generalize (⟨vx.toArray⟩ : ByteArray) = vB at *
      go_enter Tryz.func14, Tryz.ntmps14
      go_wp2_with fail
      refine (unhide HL).mono ?_
      rintro e w1 ⟨rfl, q1⟩
      have y5 := HC5.out w1 q1
      have y1 := HC1.out w1 q1
      have yk := HCK.out w1 q1
      clear c5 HC5 HC1 HCK HL
      go_wp2_with fail
      go_ret
      exact RL.err (unhide HX) (HBW.out _ q1)
    have e1 : ((⟨kx.toArray⟩ : ByteArray).toList == [100, 101, 112, 116, 104]) = true := is_key c1
    have e2 : ((⟨kx.toArray⟩ : ByteArray).toList != [100, 101, 112, 116, 104]) = false := is_keyn c1
    have HK1 := hide c1
    clear c1
    generalize (⟨kx.toArray⟩ : ByteArray) = kB at *
    by_cases c2 : p.2 = 0
    rotate_left
    · skip
      have HX : Hid (RES = .error 800) := by show _ = _; rw [HDD.out, if_neg (fun h => c2 h.2.1)]
      have g1 : ((p.2 : Int) == 0) = false := by simp; omega
      have g2 : ((p.2 : Int) != 0) = true := by simp; omega
      clear c2 HDD HVL HRES HCF
      generalize hd : (p.2 : Int) = x1 at *
      clear hd
      generalize (⟨vx.toArray⟩ : ByteArray) = vB at *
      go_enter Tryz.func14, Tryz.ntmps14
      go_wp2_with fail
      refine (unhide HL).mono ?_
      rintro e w1 ⟨rfl, q1⟩
      have y5 := HC5.out w1 q1
      have y1 := HC1.out w1 q1
      have yk := HCK.out w1 q1
      clear c5 HC5 HC1 HCK HL
      go_wp2_with fail
      go_ret
      exact RL.err (unhide HX) (HBW.out _ q1)
    have g1 : ((p.2 : Int) == 0) = true := by simp; omega
    have g2 : ((p.2 : Int) != 0) = false := by simp; omega
    have HK2 := hide c2
    clear c2
    generalize hd : (p.2 : Int) = x1 at *
    clear hd
    have HVB := hide (bl_mk vx)
    have hvz : (⟨vx.toArray⟩ : ByteArray).size = vx.length := by rw [← bl_size]; rfl
    generalize (⟨vx.toArray⟩ : ByteArray) = vB at *
    by_cases c3 : vx.length = 1
    rotate_left
    · skip
      have HX : Hid (RES = .error 800) := by
        show _ = _
        rw [HDD.out, if_neg (fun h => ?_)]
        obtain ⟨c, rfl, _⟩ := dpth_one h.2.2
        exact c3 rfl
      have g3 : ((vB.size : Int) == 1) = false := by simp; omega
      have g4 : ((vB.size : Int) != 1) = true := by simp; omega
      clear c3 hvz HDD HVL HRES HCF HK1 HK2 HVB
      go_enter Tryz.func14, Tryz.ntmps14
      go_wp2_with fail
      refine (unhide HL).mono ?_
      rintro e w1 ⟨rfl, q1⟩
      have y5 := HC5.out w1 q1
      have y1 := HC1.out w1 q1
      have yk := HCK.out w1 q1
      clear c5 HC5 HC1 HCK HL
      go_wp2_with fail
      go_ret
      exact RL.err (unhide HX) (HBW.out _ q1)
    obtain ⟨c, rfl⟩ : ∃ c, vx = [c] := by
      match vx, c3 with
      | [c], _ => exact ⟨c, rfl⟩
    have hv1 : vB.size = 1 := hvz
    have hc0 : vB[0]'(hv1 ▸ Nat.zero_lt_one) = c := by
      have := bl_getElem vB 0 (hv1 ▸ Nat.zero_lt_one)
      rw [HVB.out] at this
      simpa using this.symm
    have hcx : ((vB[0]'(hv1 ▸ Nat.zero_lt_one)).toNat : Int) = (c.toNat : Int) := by rw [hc0]
    have HC8 : Hid (c.toNat < 256) := c.toNat_lt
    clear c3 hvz hc0 HVL HVB
    by_cases c4 : c.toNat < 49
    · have HX : Hid (RES = .error 800) := by
        show _ = _
        rw [HDD.out, if_neg (fun h => ?_)]
        obtain ⟨c', h1, h2, _⟩ := dpth_one h.2.2
        cases h1; omega
      have c4' : (c.toNat : Int) < 49 := by omega
      clear c4 HDD HRES HCF HK1 HK2
      generalize (c.toNat : Int) = cn at *
      go_enter Tryz.func14, Tryz.ntmps14
      go_wp2_with fail
      refine (unhide HL).mono ?_
      rintro e w1 ⟨rfl, q1⟩
      have y5 := HC5.out w1 q1
      have y1 := HC1.out w1 q1
      have yk := HCK.out w1 q1
      clear c5 HC5 HC1 HCK HL
      go_wp2_with fail
      go_ret
      exact RL.err (unhide HX) (HBW.out _ q1)
    · by_cases c5' : c.toNat ≤ 56
      · have hdp : dpth [c] = c.toNat - 48 := by rw [show dpth [c] = if 49 ≤ c.toNat ∧ c.toNat ≤ 56 then c.toNat - 48 else 0 from rfl, if_pos ⟨by omega, c5'⟩]
        have HX : Hid (RES = .ok (s.wU (some (.inr (.inl (p.1, c.toNat - 48)))))) := by
          show _ = _
          rw [HDD.out, if_pos ⟨HK1.out, HK2.out, by rw [hdp]; omega⟩, hdp]
        obtain ⟨d, hd⟩ : ∃ d, c.toNat = d + 48 := ⟨c.toNat - 48, by omega⟩
        have HXD : Hid (RES = .ok (s.wU (some (.inr (.inl (p.1, d)))))) := by show _ = _; rw [HX.out, hd]; rfl
        have hd8 : d ≤ 8 := by omega
        have hcd : (c.toNat : Int) = (d : Int) + 48 := by omega
        rw [hcd] at hcx
        have c4' : ¬ ((d : Int) + 48 < 49) := by omega
        have c6 : ¬ ((d : Int) > 8) := by omega
        have hw : IntKind.u8.wrap ((d : Int) + 48 - 48) = (d : Int) := by
          show ((d : Int) + 48 - 48) % 256 = _; omega
        clear c4 c5' hdp HX hd hcd HK1 HK2 HDD HC8
        go_enter Tryz.func14, Tryz.ntmps14
        go_wp2_with fail
        refine (unhide HL).mono ?_
        rintro e w1 ⟨rfl, q1⟩
        have y5 := HC5.out w1 q1
        have y1 := HC1.out w1 q1
        have yk := HCK.out w1 q1
        clear c5 HC5 HC1 HCK HL
        have hfz := HCF.out w1 q1
        go_wp2_with fail
        go_region
        go_wp2_with fail
        go_ret
        exact HRES.out d w1.drew q1.drew HXD.out
      · have HX : Hid (RES = .error 800) := by
          show _ = _
          rw [HDD.out, if_neg (fun h => ?_)]
          obtain ⟨c', h1, _, h2, _⟩ := dpth_one h.2.2
          cases h1; omega
        obtain ⟨d, hd⟩ : ∃ d, c.toNat = d + 48 := ⟨c.toNat - 48, by omega⟩
        have hd8 : 8 < d ∧ d < 208 := by have := HC8.out; omega
        have hcd : (c.toNat : Int) = (d : Int) + 48 := by omega
        rw [hcd] at hcx
        have c4' : ¬ ((d : Int) + 48 < 49) := by omega
        have c6 : (8 : Int) < (d : Int) := by omega
        have hw : IntKind.u8.wrap ((d : Int) + 48 - 48) = (d : Int) := by
          show ((d : Int) + 48 - 48) % 256 = _; omega
        clear c4 c5' hd hcd HK1 HK2 HDD HC8 HRES HCF
        go_enter Tryz.func14, Tryz.ntmps14
        go_wp2_with fail
        refine (unhide HL).mono ?_
        rintro e w1 ⟨rfl, q1⟩
        have y5 := HC5.out w1 q1
        have y1 := HC1.out w1 q1
        have yk := HCK.out w1 q1
        clear c5 HC5 HC1 HCK HL
        go_wp2_with fail
        go_ret
        exact RL.err (unhide HX) (HBW.out _ q1)

end Go.Proofs.YtpddckgkaopnlaaGreatDoor
