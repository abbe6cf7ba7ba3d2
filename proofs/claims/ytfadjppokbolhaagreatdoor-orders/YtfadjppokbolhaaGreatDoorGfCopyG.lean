/- What the statements' own CopyGraph answers: a graph with the same in it; the conditions: the graph came in. -/
import Derived.Test.YtfadjppokbolhaaGreatDoorGfCopy
namespace Go.Proofs.YtfadjppokbolhaaGreatDoor
open Go.RowKit

theorem one_layO (xs : List Po) : ∀ u ∈ lay pov xs, u.oneCell' = true := by
  intro u hu
  obtain ⟨y, _, hy⟩ := List.mem_flatMap.1 hu
  simp only [pov, List.mem_cons, List.not_mem_nil, or_false] at hy
  rcases hy with rfl | rfl <;> rfl
theorem EdR.qq {w w' : World} {B : Nat} {x : EdA} (h : EdR w B x) (q : Q w w') : EdR w' B x := ⟨own_q h.a q, own_q h.b q, own_q h.c q, own_q h.d q⟩
theorem EdR.dn {w : World} {B B' : Nat} {x : EdA} (h : EdR w B x) (hb : B' ≤ B) : EdR w B' x := ⟨own_low h.a hb, own_low h.b hb, own_low h.c hb, own_low h.d hb⟩
def gS3 (w : World) (G : Nat) (v0 v1 v2 : Value) : World := ((w.setCell ⟨G, 0, none⟩ v0).setCell ⟨G, 1, none⟩ v1).setCell ⟨G, 2, none⟩ v2
theorem gS3_facts {w : World} {G : Nat} {a b c : Value} {t : TypeId} (h : Blk w G #[a, b, c] t) (v0 v1 v2 : Value) : Blk (gS3 w G v0 v1 v2) G #[v0, v1, v2] t ∧ Fr (fun k => k = G) w (gS3 w G v0 v1 v2) :=
  ⟨((h.set 0 v0).set 1 v1).set 2 v2, ((Fr.set w G 0 v0).trans (Fr.set _ G 1 v1)).trans (Fr.set _ G 2 v2)⟩
theorem EdO.q {w w' : World} {x : EdA} (h : EdO w x) (q : Q w w') : EdO w' x :=
  ⟨⟨h.a.r.q q, h.a.z, h.a.n, h.a.s⟩, ⟨h.b.r.q q, h.b.z, h.b.n, h.b.s⟩, ⟨h.c.r.q q, h.c.z, h.c.n, h.c.s⟩, ⟨h.d.r.q q, h.d.z, h.d.n, h.d.s⟩, h.k, h.p⟩

set_option maxRecDepth 20000 in
set_option maxHeartbeats 16000000 in
theorem copyG_any (g : Gh) (es : List EdA) (eo po dd : Option Addr) (ec pc dc : Nat) (w : World) (hg : IsGr w g es eo po dd ec pc dc) :
    Calls Tryz.prog 4 #[.agg #[.slice eo es.length ec, .slice po g.2.1.length pc, .slice dd g.2.2.length dc]] w fun e w' =>
      ∃ (fs : List EdA) (fo qo bo : Option Addr) (fc qc bc : Nat), e = .returned (.agg #[.slice fo fs.length fc, .slice qo g.2.1.length qc, .slice bo g.2.2.length bc]) ∧ GfR w' g fs fo qo bo ∧ g.2.1.length ≤ qc ∧ qc ≤ maxLen ∧ Q w w' := by
  obtain ⟨i0, hi, hz0, hz1, hz2⟩ : ∃ i0, Tryz.prog.info? 41 = some i0 ∧ i0.zero = some (.agg #[.slice none 0 0, .slice none 0 0, .slice none 0 0, .slice none 0 0, .string ByteArray.empty, .bool false, .string ByteArray.empty]) ∧ i0.size = 7 ∧ i0.bytes = 136 := ⟨_, rfl, rfl, rfl, rfl⟩
  obtain ⟨j0, ji, jz0, jz1, jz2⟩ : ∃ i0, Tryz.prog.info? 59 = some i0 ∧ i0.zero = some (.agg #[.string ByteArray.empty, .int .i64 0]) ∧ i0.size = 2 ∧ i0.bytes = 24 := ⟨_, rfl, rfl, rfl, rfl⟩
  obtain ⟨k0, ki, kz0, kz1, kz2⟩ : ∃ i0, Tryz.prog.info? 9 = some i0 ∧ i0.zero = some (.string ByteArray.empty) ∧ i0.size = 1 ∧ i0.bytes = 16 := ⟨_, rfl, rfl, rfl, rfl⟩
  have HG := hide hg.r
  have HO := hide hg.o
  have hel : es.length * 136 ≤ 140737488355328 := by have h1 := hg.ec1; have h2 := hg.ec2; unfold reachBytes at h2; omega
  have hpl : g.2.1.length * 24 ≤ 140737488355328 := by have h1 := hg.pc1; have h2 := hg.pc2; unfold reachBytes at h2; omega
  have hdl : g.2.2.length * 16 ≤ 140737488355328 := by have h1 := hg.d.n; have h2 := hg.d.s; unfold reachBytes at h2; omega
  clear hg
  have W0 : Q w ((w.alloc (.cells #[.slice eo es.length ec, .slice po g.2.1.length pc, .slice dd g.2.2.length dc] 26)).alloc (.cells #[.slice none 0 0, .slice none 0 0, .slice none 0 0] 26)) := ((Q.refl w).alloc _).alloc _
  have HB0 : Hid (Blk ((w.alloc (.cells #[.slice eo es.length ec, .slice po g.2.1.length pc, .slice dd g.2.2.length dc] 26)).alloc (.cells #[.slice none 0 0, .slice none 0 0, .slice none 0 0] 26)) w.heap.size #[.slice eo es.length ec, .slice po g.2.1.length pc, .slice dd g.2.2.length dc] 26) := (Blk.new w _ _).q ((Q.refl _).alloc _)
  have HR0 : Hid (Blk ((w.alloc (.cells #[.slice eo es.length ec, .slice po g.2.1.length pc, .slice dd g.2.2.length dc] 26)).alloc (.cells #[.slice none 0 0, .slice none 0 0, .slice none 0 0] 26)) (w.heap.size + 1) #[.slice none 0 0, .slice none 0 0, .slice none 0 0] 26) := by
    have h := Blk.new (w.alloc (.cells #[.slice eo es.length ec, .slice po g.2.1.length pc, .slice dd g.2.2.length dc] 26)) #[.slice none 0 0, .slice none 0 0, .slice none 0 0] 26
    rw [size_alloc] at h
    exact h
  go_enter Tryz.func4, Tryz.ntmps4
  go_wp2_with fail
  generalize hX : w.heap.size = X at HB0 HR0 ⊢
  have HX := hide hX
  clear hX
  generalize (w.alloc (.cells #[.slice eo es.length ec, .slice po g.2.1.length pc, .slice dd g.2.2.length dc] 26)).alloc (.cells #[.slice none 0 0, .slice none 0 0, .slice none 0 0] 26) = wb at *
  go_loopw [3, 4] (fun s i wr => ∃ (k : Nat) (fs : List EdA) (ao : Option Addr) (cap : Nat), k ≤ es.length ∧ i = .int .i64 k ∧ s = .slice ao fs.length cap ∧ fs.length ≤ k ∧ wr.ownsRow wb.heap.size 41 7 (.slice ao fs.length cap) fs.length (lay ev fs) ∧ Q wb wr ∧ Hid (fs.map Prod.fst = (es.take k).map Prod.fst ∧ ∀ y ∈ fs, EdR wr wb.heap.size y)) (fun _ i _ => es.length - (intOf i).toNat)
  case atStart => exact ⟨0, [], none, 0, Nat.zero_le _, rfl, rfl, Nat.le_refl _, World.ownsRow_nil _ _ _ _, Q.refl _, ⟨rfl, fun y hy => by cases hy⟩⟩
  case round =>
    obtain ⟨k, fs, ao, cap, hk, rfl, rfl, hfl, hown, hq, HY⟩ := hrel
    have x0 : wr.cell? ⟨X, 0, none⟩ = some (.slice eo es.length ec) := ((unhide HB0).q hq).cell 0 rfl
    by_cases hlt : k < es.length
    · rcases (unhide HG).e.q (W0.trans hq) with he | ⟨gg, o, rfl, hgg, hcell⟩
      · rw [he] at hlt; simp at hlt
      · obtain ⟨b, hb⟩ : ∃ b, es[k]? = some b := ⟨es[k], List.getElem?_eq_getElem hlt⟩
        have c0 : wr.cell? ⟨gg, o + k * 7, none⟩ = some (.slice b.2.1.1 b.1.1.length b.2.1.2) := hcell k 0 b _ hb (by decide) rfl
        have c1 : wr.cell? ⟨gg, o + k * 7 + 1, none⟩ = some (.slice b.2.2.1.1 b.1.2.1.length b.2.2.1.2) := hcell k 1 b _ hb (by decide) rfl
        have c2 : wr.cell? ⟨gg, o + k * 7 + 2, none⟩ = some (.slice b.2.2.2.1.1 b.1.2.2.1.length b.2.2.2.1.2) := hcell k 2 b _ hb (by decide) rfl
        have c3 : wr.cell? ⟨gg, o + k * 7 + 3, none⟩ = some (.slice b.2.2.2.2.1 b.1.2.2.2.1.length b.2.2.2.2.2) := hcell k 3 b _ hb (by decide) rfl
        have c4 : wr.cell? ⟨gg, o + k * 7 + 4, none⟩ = some (.string ⟨b.1.2.2.2.2.1.toArray⟩) := hcell k 4 b _ hb (by decide) rfl
        have c5 : wr.cell? ⟨gg, o + k * 7 + 5, none⟩ = some (.bool b.1.2.2.2.2.2.1) := hcell k 5 b _ hb (by decide) rfl
        have c6 : wr.cell? ⟨gg, o + k * 7 + 6, none⟩ = some (.string ⟨b.1.2.2.2.2.2.2.toArray⟩) := hcell k 6 b _ hb (by decide) rfl
        have HC := hide (copyE_any b wr ((unhide HO b (List.mem_of_getElem? hb)).q (W0.trans hq)))
        have HTK : Hid (∀ y : EdA, y.1 = b.1 → (fs ++ [y]).map Prod.fst = (es.take (k + 1)).map Prod.fst) := by
          show ∀ y : EdA, _
          intro y hy
          rw [List.map_append, HY.out.1, List.take_add_one, hb, List.map_append]
          show _ ++ [y.1] = _ ++ [b.1]
          rw [hy]
        clear hcell hb
        go_wp2_with fail
        refine (unhide HC).mono ?_
        rintro e w2 ⟨y, rfl, hy, hrd, q2⟩
        have HOW := hide (own_q hown (q2.alloc (.cells (ev y).toArray 41)))
        have hq2 := hq.trans q2
        have hqs2 := hq2.size
        have HYF := hide (unhide HTK y hy)
        have HYR : Hid (∀ z ∈ fs ++ [y], EdR w2 wb.heap.size z) := by
          show ∀ z ∈ fs ++ [y], _
          intro z hz
          rcases List.mem_append.1 hz with h | h
          · exact (HY.out.2 z h).qq q2
          · simp only [List.mem_cons, List.not_mem_nil, or_false] at h; rw [h]; exact hrd.dn hq.size
        have HSN : Hid (SrcRow (w2.alloc (.cells (ev y).toArray 41)) 7 (some ⟨w2.heap.size, 0, none⟩) 1 (ev y)) := SrcRow.new w2 (ev y).toArray 41 7 rfl
        have HON : Hid (∀ u ∈ ev y, u.oneCell' = true) := fun u hu => one_layE [y] u (by simpa [lay] using hu)
        clear hrd hy hown c0 c1 c2 c3 c4 c5 c6
        unfold edV'
        go_wp2_with (at_builtin; refine wpList_append_row rfl _ _ 22 rfl wb.heap.size 41 i0 (.agg #[.slice none 0 0, .slice none 0 0, .slice none 0 0, .slice none 0 0, .string ByteArray.empty, .bool false, .string ByteArray.empty]) 7 136 Tryz.underlying22 hi hz0 hz1 hz2 rfl (by decide) ao fs.length cap (lay ev fs) rfl (unhide HOW) (some ⟨w2.heap.size, 0, none⟩) 1 1 (ev y) rfl (unhide HSN) (unhide HON) (by unfold maxLen; omega) (by omega) (le_alloc hqs2 _) ?_)
        intro ao3 cap3 w3 own3 grow3
        have hq3 : Q wb w3 := Below.grown (hq2.alloc _) grow3 (le_alloc hqs2 _) (fun r hr => ((unhide HOW).lt r hr).1)
        have HO3 : Hid (w3.ownsRow wb.heap.size 41 7 (.slice ao3 (fs ++ [y]).length cap3) (fs ++ [y]).length (lay ev (fs ++ [y]))) := by
          show World.ownsRow _ _ _ _ _ _ _
          rw [List.length_append, lay_snoc]; exact own3
        have HY3 : Hid ((fs ++ [y]).map Prod.fst = (es.take (k + 1)).map Prod.fst ∧ ∀ z ∈ fs ++ [y], EdR w3 wb.heap.size z) := by
          refine ⟨unhide HYF, fun z hz => ((HYR.out z hz).qq ((Q.refl w2).alloc _)).fr (Fr.grown grow3) (fun r hr hp => ?_)⟩
          exact ((HYR.out z hz).qq ((Q.refl w2).alloc _)).row (unhide HOW) (by decide) r hr hp
        clear own3 grow3 HYF HYR HSN HON HOW HY
        go_wp2
        go_roundw
        case rel =>
          refine ⟨k + 1, fs ++ [y], ao3, cap3, by omega, by go_num, ?_, ?_, unhide HO3, hq3, HY3⟩
          · simp
          · simp; omega
        case measure => simp [intOf]; omega
    · have HEA : Hid (fs.map Prod.fst = g.1 ∧ ∀ z ∈ fs, EdR wr wb.heap.size z) := by
        refine ⟨?_, HY.out.2⟩
        rw [HY.out.1, List.take_of_length_le (by omega), (unhide HG).em]
      have x1 : ∀ ob, (wr.alloc ob).cell? ⟨X, 1, none⟩ = some (.slice po g.2.1.length pc) := fun ob => (((unhide HB0).q hq).q ((Q.refl _).alloc ob)).cell 1 rfl
      have hqs := hq.size
      have HSP := hide (SrcRow.row pov_len (by decide) ((unhide HG).p.q ((W0.trans hq).alloc (.cells #[] 59))))
      have HOE := hide hown
      clear HY hown
      go_wp2_with (at_builtin; refine wpList_append_row rfl _ _ 23 rfl wr.heap.size 59 j0 (.agg #[.string ByteArray.empty, .int .i64 0]) 2 24 Tryz.underlying23 ji jz0 jz1 jz2 rfl (by decide) (some ⟨wr.heap.size, 0, none⟩) 0 0 [] rfl (own_new0 (Nat.le_refl _)) po g.2.1.length pc (lay pov g.2.1) rfl (unhide HSP) (one_layO _) (by unfold maxLen; omega) (by omega) (le_alloc (Nat.le_refl _) _) ?_)
      intro pa pcap w3 own3 grow3
      have qr3 : Q wr w3 := Below.grown ((Q.refl wr).alloc _) grow3 (le_alloc (Nat.le_refl _) _) (fun r hr => Nat.le_of_eq (Option.some.inj hr))
      have HOP : Hid (w3.ownsRow wr.heap.size 59 2 (.slice pa g.2.1.length pcap) g.2.1.length (lay pov g.2.1)) := by
        have h := own3
        first | exact h | (rw [Nat.zero_add, List.nil_append] at h; exact h)
      try rw [Nat.zero_add]
      have hq3 := hq.trans qr3
      have x2 : ∀ ob, (w3.alloc ob).cell? ⟨X, 2, none⟩ = some (.slice dd g.2.2.length dc) := fun ob => (((unhide HB0).q hq3).q ((Q.refl _).alloc ob)).cell 2 rfl
      have HSD := hide (SrcRow.row tv_len (by decide) ((unhide HG).d.q ((W0.trans hq3).alloc (.cells #[] 9))))
      clear own3 grow3 HSP x1
      go_wp2_with (at_builtin; refine wpList_append_row rfl _ _ 24 rfl w3.heap.size 9 k0 (.string ByteArray.empty) 1 16 Tryz.underlying24 ki kz0 kz1 kz2 rfl (by decide) (some ⟨w3.heap.size, 0, none⟩) 0 0 [] rfl (own_new0 (Nat.le_refl _)) dd g.2.2.length dc (lay tv g.2.2) rfl (unhide HSD) (one_layT _) (by unfold maxLen; omega) (by omega) (le_alloc (Nat.le_refl _) _) ?_)
      intro da dcap w5 own5 grow5
      have qr5 : Q w3 w5 := Below.grown ((Q.refl w3).alloc _) grow5 (le_alloc (Nat.le_refl _) _) (fun r hr => Nat.le_of_eq (Option.some.inj hr))
      have HOD : Hid (OwnT w5 w3.heap.size da dcap g.2.2) := by
        have h := own5
        first | exact h | (rw [Nat.zero_add, List.nil_append] at h; exact h)
      try rw [Nat.zero_add]
      have hq5 := hq3.trans qr5
      have HR5 := hide ((unhide HR0).q hq5)
      have n0 : w5.cell? ⟨X + 1, 0, none⟩ = some (.slice none 0 0) := (unhide HR5).cell 0 rfl
      have n1 : w5.cell? ⟨X + 1, 1, none⟩ = some (.slice none 0 0) := (unhide HR5).cell 1 rfl
      have n2 : w5.cell? ⟨X + 1, 2, none⟩ = some (.slice none 0 0) := (unhide HR5).cell 2 rfl
      have f0 := (unhide HR5).frz 0
      have f1 := (unhide HR5).frz 1
      have f2 := (unhide HR5).frz 2
      clear own5 grow5 HSD x2
      go_wp2_with fail
      change bodyPost _ _ _ _ _ (gS3 w5 (X + 1) (.slice ao fs.length cap) (.slice pa g.2.1.length pcap) (.slice da g.2.2.length dcap))
      obtain ⟨hb, gf⟩ := gS3_facts (unhide HR5) (.slice ao fs.length cap) (.slice pa g.2.1.length pcap) (.slice da g.2.2.length dcap)
      have g0 := hb.cell 0 rfl
      have g1 := hb.cell 1 rfl
      have g2 := hb.cell 2 rfl
      have qe := qr3.trans qr5
      have rE := own_fr (own_q (unhide HOE) qe) gf (fun r hr => (unhide HR5).row (own_q (unhide HOE) qe) (by decide) r hr)
      have rP := own_fr (own_q (unhide HOP) qr5) gf (fun r hr => (unhide HR5).row (own_q (unhide HOP) qr5) (by decide) r hr)
      have rD := own_fr (unhide HOD) gf (fun r hr => (unhide HR5).row (unhide HOD) (by decide) r hr)
      have rX : ∀ z ∈ fs, EdR (gS3 w5 (X + 1) (.slice ao fs.length cap) (.slice pa g.2.1.length pcap) (.slice da g.2.2.length dcap)) wb.heap.size z := fun z hz => ((HEA.out.2 z hz).qq qe).fr gf (fun r hr => ((HEA.out.2 z hz).qq qe).blk (unhide HR5) (by decide) r hr)
      have qf : Q w (gS3 w5 (X + 1) (.slice ao fs.length cap) (.slice pa g.2.1.length pcap) (.slice da g.2.2.length dcap)) := Below.trans (W0.trans hq5) (gf.below (W0.trans hq5).size (fun k hk => by rw [hk, ← unhide HX]; omega))
      generalize gS3 w5 (X + 1) (.slice ao fs.length cap) (.slice pa g.2.1.length pcap) (.slice da g.2.2.length dcap) = wf at *
      refine bodyPost_ret (v := .agg #[.slice ao fs.length cap, .slice pa g.2.1.length pcap, .slice da g.2.2.length dcap]) (by simp [results, Tryz.results4, go_sem, g0, g1, g2]) rfl ⟨fs, ao, pa, da, cap, pcap, dcap, rfl, ⟨RowG.own ev_len (by decide) rE, HEA.out.1, RowG.own pov_len (by decide) rP, OwnT.row rD, fun z hz => (rX z hz).rd, (unhide HG).z⟩, (own_le rP).1, (own_le rP).2.1, qf⟩

end Go.Proofs.YtfadjppokbolhaaGreatDoor
