/- What the two functions of a build line under way answer; the conditions: it lies in memory. -/
import Derived.Test.YtpddckgkaopnlaaGreatDoorBnMfEdge
import Derived.Test.YtpddckgkaopnlaaGreatDoorMfOver
namespace Go.Proofs.YtpddckgkaopnlaaGreatDoor
open Go.RowKit

set_option maxHeartbeats 2000000 in
theorem build1_any (R RB O : Nat) (key val : ByteArray) (own ou : List Bd) (ao oo : Option Addr) (ac oc : Nat) (cs : Array Value) (w : World) (hO : Blk w O #[.slice ao own.length ac] 47) (hRB : Blk w RB #[.pointer (some ⟨R, 0, none⟩)] 40) (hR : Blk w R cs 49) (hc : cs[4]? = some (.slice oo ou.length oc)) (ho : Read w oo oc ou) (hb : Read w ao ac own) (hk : key.size ≤ maxLen) (hv : val.size ≤ maxLen) :
    Calls Tryz.prog 80 #[.string key, .string val, .pointer (some ⟨RB, 0, none⟩), .pointer (some ⟨O, 0, none⟩)] w fun e w' =>
      e = .returned (.int .i64 (exE (stL own ou (bl key) (bl val)))) ∧ (∀ own', stL own ou (bl key) (bl val) = .ok own' → ∃ a c, Blk w' O #[.slice a own'.length c] 47 ∧ OwnD w' w.heap.size a c own') ∧ Fr (fun k => k = O) w w' := by
  have HT := hide (mset_any R own ou ao oo ac oc key val w hR.hi (hR.cell 4 hc) ho hb hk hv)
  have c2 : w.cell? ⟨RB, 0, none⟩ = some (.pointer (some ⟨R, 0, none⟩)) := hRB.cell 0 rfl
  have c3 : w.cell? ⟨O, 0, none⟩ = some (.slice ao own.length ac) := hO.cell 0 rfl
  have HO := hide hO
  clear hRB hR hc ho hb hO
  unfold StSays at HT
  generalize stL own ou (bl key) (bl val) = x at HT ⊢
  go_enter Tryz.func80, Tryz.ntmps80
  go_wp2_with fail
  refine (unhide HT).mono ?_
  rintro e w2 ⟨a, n, c, rfl, q2, h2⟩
  have hO2 := (unhide HO).q q2
  have c4 : w2.cell? ⟨O, 0, none⟩ = some (.slice ao own.length ac) := hO2.cell 0 rfl
  have f4 := hO2.frz 0
  have H2 := hide h2
  have HO2 := hide hO2
  clear h2 hO2
  go_wp2_with fail
  go_ret
  refine ⟨rfl, fun own' h => ?_, (Fr.of_q q2).trans (Fr.set _ _ _ _)⟩
  obtain ⟨rfl, h3⟩ := unhide H2 own' h
  refine ⟨a, c, (unhide HO2).set 0 (.slice a own'.length c), ?_⟩
  exact own_fr h3 (Fr.set w2 O 0 (.slice a own'.length c)) (own_new_ne h3 (unhide HO2))

theorem Tryz.infoE : (Tryz.prog.info? 65).map (fun i => (i.zero, i.size, i.bytes)) = some (some (.agg #[.slice none 0 0, .slice none 0 0, .slice none 0 0, .slice none 0 0, .string ByteArray.empty, .bool false, .string ByteArray.empty]), 7, 136) := by kernel_rfl

/-- What build2 leans on. -/
structure B2 (B R G BY O RB : Nat) (y : EdA) (r : Rl) (own ou : List Bd) (ao oo : Option Addr) (ac oc : Nat) (cs : Array Value) (w : World) : Prop where
  hg : Blk w G (ev y).toArray 65
  hby : Blk w BY (rv r).toArray 109
  ho : Blk w O #[.slice ao own.length ac] 47
  hrb : Blk w RB #[.pointer (some ⟨R, 0, none⟩)] 40
  hr : Blk w R cs 49
  hc : cs[4]? = some (.slice oo ou.length oc)
  hou : Read w oo oc ou
  hown : Read w ao ac own
  hy : EdR w B y
  f1 : Few y.1.1
  f2 : Few y.1.2.1
  l : r.2.1.length ≤ 4096

theorem B2.cmd {B R G BY O RB : Nat} {y : EdA} {r : Rl} {own ou : List Bd} {ao oo : Option Addr} {ac oc : Nat} {cs : Array Value} {w : World} (h : B2 B R G BY O RB y r own ou ao oo ac oc cs w) :
    Calls Tryz.prog 83 #[.pointer (some ⟨R, 0, none⟩), .agg #[y.v1, y.v2, y.v3, y.v4, .string ⟨y.1.2.2.2.2.1.toArray⟩, .bool y.1.2.2.2.2.2.1, .string ⟨y.1.2.2.2.2.2.2.toArray⟩], .agg #[.string ⟨r.1.toArray⟩, .string ⟨r.2.1.toArray⟩, .bool r.2.2.1, .string ⟨r.2.2.2.toArray⟩], .slice ao own.length ac] w (CmSays (cmL y.1 r own ou) w) :=
  commandOf_any B R y r own ou ao oo ac oc w h.hr.hi (h.hr.cell 4 h.hc) h.hou h.hown h.hy h.f1 h.f2 h.l

set_option maxHeartbeats 2000000 in
theorem build2_no (B R G BY O RB : Nat) (y : EdA) (r : Rl) (own ou : List Bd) (ao oo : Option Addr) (ac oc : Nat) (cs : Array Value) (w : World) (h : B2 B R G BY O RB y r own ou ao oo ac oc cs w) (z : Int) (hz : cmL y.1 r own ou = .error z) (hz0 : z ≠ 0) :
    Calls Tryz.prog 82 #[.pointer (some ⟨RB, 0, none⟩), .pointer (some ⟨G, 0, none⟩), .pointer (some ⟨BY, 0, none⟩), .pointer (some ⟨O, 0, none⟩)] w fun e w' => e = .returned (.int .i64 z) ∧ Q w w' := by
  have HC := hide h.cmd
  rw [hz] at HC
  have c0 : w.cell? ⟨RB, 0, none⟩ = some (.pointer (some ⟨R, 0, none⟩)) := h.hrb.cell 0 rfl
  have c1 : w.cell? ⟨O, 0, none⟩ = some (.slice ao own.length ac) := h.ho.cell 0 rfl
  have m0 : w.cell? ⟨BY, 0, none⟩ = some (.string ⟨r.1.toArray⟩) := h.hby.cell 0 rfl
  have m1 : w.cell? ⟨BY, 1, none⟩ = some (.string ⟨r.2.1.toArray⟩) := h.hby.cell 1 rfl
  have m2 : w.cell? ⟨BY, 2, none⟩ = some (.bool r.2.2.1) := h.hby.cell 2 rfl
  have m3 : w.cell? ⟨BY, 3, none⟩ = some (.string ⟨r.2.2.2.toArray⟩) := h.hby.cell 3 rfl
  have e0 : w.cell? ⟨G, 0, none⟩ = some y.v1 := h.hg.cell 0 rfl
  have e1 : w.cell? ⟨G, 1, none⟩ = some y.v2 := h.hg.cell 1 rfl
  have e2 : w.cell? ⟨G, 2, none⟩ = some y.v3 := h.hg.cell 2 rfl
  have e3 : w.cell? ⟨G, 3, none⟩ = some y.v4 := h.hg.cell 3 rfl
  have e4 : w.cell? ⟨G, 4, none⟩ = some (.string ⟨y.1.2.2.2.2.1.toArray⟩) := h.hg.cell 4 rfl
  have e5 : w.cell? ⟨G, 5, none⟩ = some (.bool y.1.2.2.2.2.2.1) := h.hg.cell 5 rfl
  have e6 : w.cell? ⟨G, 6, none⟩ = some (.string ⟨y.1.2.2.2.2.2.2.toArray⟩) := h.hg.cell 6 rfl
  have g0 : (z == 0) = false := by simpa using hz0
  have g1 : (z != 0) = true := by simpa using hz0
  clear h hz hz0
  unfold CmSays at HC
  change Hid (Calls _ _ _ _ fun e w' => e = .returned (.tuple #[.string ⟨#[]⟩, .int .i64 z]) ∧ Q w w') at HC
  generalize (⟨r.1.toArray⟩ : ByteArray) = x0 at *
  generalize (⟨r.2.1.toArray⟩ : ByteArray) = x1 at *
  generalize (⟨r.2.2.2.toArray⟩ : ByteArray) = x3 at *
  generalize (⟨y.1.2.2.2.2.1.toArray⟩ : ByteArray) = x4 at *
  generalize (⟨y.1.2.2.2.2.2.2.toArray⟩ : ByteArray) = x6 at *
  generalize y.v1 = v1 at *
  generalize y.v2 = v2 at *
  generalize y.v3 = v3 at *
  generalize y.v4 = v4 at *
  generalize y.1.2.2.2.2.2.1 = x5 at *
  generalize r.2.2.1 = x2 at *
  go_enter Tryz.func82, Tryz.ntmps82
  go_wp2_with fail
  refine (unhide HC).mono ?_
  rintro e w2 ⟨rfl, q2⟩
  go_wp2_with fail
  go_ret
  exact ⟨rfl, q2⟩

set_option maxHeartbeats 8000000 in
theorem build2_yes (B R G BY O RB : Nat) (y : EdA) (r : Rl) (own ou : List Bd) (ao oo : Option Addr) (ac oc : Nat) (cs : Array Value) (w : World) (h : B2 B R G BY O RB y r own ou ao oo ac oc cs w) (c : Tx) (hz : cmL y.1 r own ou = .ok c)
    (es : List EdA) (eo : Option Addr) (ec : Nat) (hce : cs[0]? = some (.slice eo es.length ec)) (hown : w.ownsRow B 65 7 (.slice eo es.length ec) es.length (lay ev es)) (hB : B ≤ w.heap.size) (hs : es.length ≤ 4096) (hG : ∀ k, (Value.slice eo es.length ec).ownBlock = some k → k ≠ G) :
    Calls Tryz.prog 82 #[.pointer (some ⟨RB, 0, none⟩), .pointer (some ⟨G, 0, none⟩), .pointer (some ⟨BY, 0, none⟩), .pointer (some ⟨O, 0, none⟩)] w fun e w' =>
      ∃ (ao : Option Addr) (cap : Nat), e = .returned (.int .i64 0) ∧ w'.ownsRow B 65 7 (.slice ao (es ++ [((withC y.1 c, y.2) : EdA)]).length cap) (es ++ [((withC y.1 c, y.2) : EdA)]).length (lay ev (es ++ [((withC y.1 c, y.2) : EdA)])) ∧
        Blk w' R (cs.setIfInBounds 0 (.slice ao (es ++ [((withC y.1 c, y.2) : EdA)]).length cap)) 49 ∧ Fr (fun k => k = R ∨ k = G ∨ (Value.slice eo es.length ec).ownBlock = some k) w w' := by
  obtain ⟨i0, hi, hz0, hz1, hz2⟩ := info_parts Tryz.infoE
  have HC := hide h.cmd
  rw [hz] at HC
  have HE : Hid ([y.v1, y.v2, y.v3, y.v4, .string ⟨c.toArray⟩, .bool y.1.2.2.2.2.2.1, .string ⟨y.1.2.2.2.2.2.2.toArray⟩] = ev ((withC y.1 c, y.2) : EdA)) := rfl
  have H1 : Hid (∀ u ∈ [y.v1, y.v2, y.v3, y.v4, .string ⟨c.toArray⟩, .bool y.1.2.2.2.2.2.1, .string ⟨y.1.2.2.2.2.2.2.toArray⟩], u.oneCell' = true) := by
    intro u hu; simp at hu
    rcases hu with rfl | rfl | rfl | rfl | rfl | rfl | rfl <;> rfl
  have c0 : w.cell? ⟨RB, 0, none⟩ = some (.pointer (some ⟨R, 0, none⟩)) := h.hrb.cell 0 rfl
  have c1 : w.cell? ⟨O, 0, none⟩ = some (.slice ao own.length ac) := h.ho.cell 0 rfl
  have m0 : w.cell? ⟨BY, 0, none⟩ = some (.string ⟨r.1.toArray⟩) := h.hby.cell 0 rfl
  have m1 : w.cell? ⟨BY, 1, none⟩ = some (.string ⟨r.2.1.toArray⟩) := h.hby.cell 1 rfl
  have m2 : w.cell? ⟨BY, 2, none⟩ = some (.bool r.2.2.1) := h.hby.cell 2 rfl
  have m3 : w.cell? ⟨BY, 3, none⟩ = some (.string ⟨r.2.2.2.toArray⟩) := h.hby.cell 3 rfl
  have e0 : w.cell? ⟨G, 0, none⟩ = some y.v1 := h.hg.cell 0 rfl
  have e1 : w.cell? ⟨G, 1, none⟩ = some y.v2 := h.hg.cell 1 rfl
  have e2 : w.cell? ⟨G, 2, none⟩ = some y.v3 := h.hg.cell 2 rfl
  have e3 : w.cell? ⟨G, 3, none⟩ = some y.v4 := h.hg.cell 3 rfl
  have e4 : w.cell? ⟨G, 4, none⟩ = some (.string ⟨y.1.2.2.2.2.1.toArray⟩) := h.hg.cell 4 rfl
  have e5 : w.cell? ⟨G, 5, none⟩ = some (.bool y.1.2.2.2.2.2.1) := h.hg.cell 5 rfl
  have e6 : w.cell? ⟨G, 6, none⟩ = some (.string ⟨y.1.2.2.2.2.2.2.toArray⟩) := h.hg.cell 6 rfl
  have HGB : Hid (Blk w G #[y.v1, y.v2, y.v3, y.v4, .string ⟨y.1.2.2.2.2.1.toArray⟩, .bool y.1.2.2.2.2.2.1, .string ⟨y.1.2.2.2.2.2.2.toArray⟩] 65) := h.hg
  have HRB := hide h.hrb
  have HR := hide h.hr
  have HCE := hide hce
  have hGR : R ≠ G := Blk.ne h.hr h.hg (by decide)
  have hGB : RB ≠ G := Blk.ne h.hrb h.hg (by decide)
  have HNR : Hid (∀ k, (Value.slice eo es.length ec).ownBlock = some k → k ≠ R) := h.hr.row hown (by decide)
  have HNB : Hid (∀ k, (Value.slice eo es.length ec).ownBlock = some k → k ≠ RB) := h.hrb.row hown (by decide)
  have HG := hide hG
  have HO := hide hown
  clear h hz hG hown hce
  unfold CmSays at HC
  change Hid (Calls _ _ _ _ fun e w' => e = .returned (.tuple #[.string ⟨c.toArray⟩, .int .i64 0]) ∧ Q w w') at HC
  generalize (⟨c.toArray⟩ : ByteArray) = xc at *
  generalize (⟨r.1.toArray⟩ : ByteArray) = x0 at *
  generalize (⟨r.2.1.toArray⟩ : ByteArray) = x1 at *
  generalize (⟨r.2.2.2.toArray⟩ : ByteArray) = x3 at *
  generalize (⟨y.1.2.2.2.2.1.toArray⟩ : ByteArray) = x4 at *
  generalize (⟨y.1.2.2.2.2.2.2.toArray⟩ : ByteArray) = x6 at *
  generalize y.v1 = v1 at *
  generalize y.v2 = v2 at *
  generalize y.v3 = v3 at *
  generalize y.v4 = v4 at *
  generalize y.1.2.2.2.2.2.1 = x5 at *
  generalize r.2.2.1 = x2 at *
  generalize ((withC y.1 c, y.2) : EdA) = y' at *
  go_enter Tryz.func82, Tryz.ntmps82
  go_wp2_with fail
  refine (unhide HC).mono ?_
  rintro e w2 ⟨rfl, q2⟩
  clear c0 c1 m0 m1 m2 m3 e0 e1 e2 e3 e4 e5 e6 HC
  have hg2 := (unhide HGB).q q2
  have e4 : w2.cell? ⟨G, 4, none⟩ = some (.string x4) := hg2.cell 4 rfl
  have f4 := hg2.frz 4
  have hw3 : Blk (w2.setCell ⟨G, 4, none⟩ (.string xc)) G #[v1, v2, v3, v4, .string xc, .bool x5, .string x6] 65 := hg2.set 4 (.string xc)
  have hr3 : Blk (w2.setCell ⟨G, 4, none⟩ (.string xc)) R cs 49 := ((unhide HR).q q2).other hGR _ _
  have hb3 : Blk (w2.setCell ⟨G, 4, none⟩ (.string xc)) RB #[.pointer (some ⟨R, 0, none⟩)] 40 := ((unhide HRB).q q2).other hGB _ _
  have ho3 : (w2.setCell ⟨G, 4, none⟩ (.string xc)).ownsRow B 65 7 (.slice eo es.length ec) es.length (lay ev es) := own_fr (own_q (unhide HO) q2) (Fr.set _ _ _ _) (fun k hk e => unhide HG k hk e)
  have hf3 : Fr (fun k => k = R ∨ k = G ∨ (Value.slice eo es.length ec).ownBlock = some k) w (w2.setCell ⟨G, 4, none⟩ (.string xc)) := (Fr.of_q q2).trans ((Fr.set _ _ _ _).mono (fun k h => Or.inr (Or.inl h)))
  have hB3 : B ≤ (w2.setCell ⟨G, 4, none⟩ (.string xc)).heap.size := Nat.le_trans hB hf3.size
  have HG2 := hide hg2
  clear hg2 HGB HR HRB HO hB
  go_upto_region 5 with fail
  generalize (w2.setCell ⟨G, 4, none⟩ (.string xc)) = w3 at *
  clear e4 f4 HG2 q2 w2
  have e0 : w3.cell? ⟨G, 0, none⟩ = some v1 := hw3.cell 0 rfl
  have e1 : w3.cell? ⟨G, 1, none⟩ = some v2 := hw3.cell 1 rfl
  have e2 : w3.cell? ⟨G, 2, none⟩ = some v3 := hw3.cell 2 rfl
  have e3 : w3.cell? ⟨G, 3, none⟩ = some v4 := hw3.cell 3 rfl
  have e4 : w3.cell? ⟨G, 4, none⟩ = some (.string xc) := hw3.cell 4 rfl
  have e5 : w3.cell? ⟨G, 5, none⟩ = some (.bool x5) := hw3.cell 5 rfl
  have e6 : w3.cell? ⟨G, 6, none⟩ = some (.string x6) := hw3.cell 6 rfl
  have c1 : w3.cell? ⟨R, 0, none⟩ = some (.slice eo es.length ec) := hr3.cell 0 (unhide HCE)
  have c2 : w3.cell? ⟨RB, 0, none⟩ = some (.pointer (some ⟨R, 0, none⟩)) := hb3.cell 0 rfl
  have a1 : ∀ ob, (w3.alloc ob).cell? ⟨R, 0, none⟩ = some (.slice eo es.length ec) := fun ob => (hr3.q ((Q.refl w3).alloc ob)).cell 0 (unhide HCE)
  have a2 : ∀ ob, (w3.alloc ob).cell? ⟨RB, 0, none⟩ = some (.pointer (some ⟨R, 0, none⟩)) := fun ob => (hb3.q ((Q.refl w3).alloc ob)).cell 0 rfl
  have HR := hide hr3
  have HRB := hide hb3
  have HO := hide ho3
  have HF := hide hf3
  clear hw3 hr3 hb3 ho3 hf3
  go_region_law (refine step_row rfl (.tmp 25) (.tmp 27) 22 rfl B 65 i0 _ 7 136 Tryz.underlying22 hi hz0 hz1 hz2 rfl (by decide) eo es.length ec (lay ev es) (by rfl) (own_q (unhide HO) ((Q.refl w3).drew.alloc _)) (some ⟨w3.drew.heap.size, 0, none⟩) 1 1 [v1, v2, v3, v4, .string xc, .bool x5, .string x6] (by rfl) (SrcRow.new w3.drew #[v1, v2, v3, v4, .string xc, .bool x5, .string x6] _ 7 rfl) (unhide H1) (by unfold maxLen; omega) (by omega) (le_alloc hB3 _) ?_; intro ao' cap' w5 ho5 hg5; have hB5 := hide ((unhide HR).grown ((Q.refl w3).drew.alloc _) hg5 (unhide HNR)); have b5 : w5.cell? ⟨R, 0, none⟩ = some (.slice eo es.length ec) := (unhide hB5).cell 0 (unhide HCE); have f5 := (unhide hB5).frz 0; have r5 : w5.cell? ⟨RB, 0, none⟩ = some (.pointer (some ⟨R, 0, none⟩)) := ((unhide HRB).grown ((Q.refl w3).drew.alloc _) hg5 (unhide HNB)).cell 0 rfl)
  all_goals
    have HO5 := hide ho5
    have HF5 : Hid (Fr (fun k => k = R ∨ k = G ∨ (Value.slice eo es.length ec).ownBlock = some k) w (w5.setCell ⟨R, 0, none⟩ (.slice ao' (es.length + 1) cap'))) :=
      (((unhide HF).trans (Fr.of_q ((Q.refl w3).drew.alloc _))).trans ((Fr.grown hg5).mono (fun k h => Or.inr (Or.inr h)))).trans ((Fr.set _ _ _ _).mono (fun k h => Or.inl h))
    clear ho5 hg5 b5 f5 r5
    go_wp2_with fail
    go_ret
    refine ⟨ao', cap', rfl, ?_, ?_, unhide HF5⟩
    · have h1 := own_fr (unhide HO5) (Fr.set w5 R 0 (.slice ao' (es.length + 1) cap')) (own_new_ne (unhide HO5) (unhide hB5))
      rw [HE.out] at h1
      rw [lay_snoc, List.length_append]; exact h1
    · have h1 := (unhide hB5).set 0 (.slice ao' (es.length + 1) cap')
      rw [List.length_append]; exact h1

end Go.Proofs.YtpddckgkaopnlaaGreatDoor
