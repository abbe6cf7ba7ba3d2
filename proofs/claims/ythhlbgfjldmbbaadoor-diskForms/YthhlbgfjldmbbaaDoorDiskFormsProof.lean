/- DiskForms, whole: disks, names, contents that may not be are refused, full ones too, whatever the numbers; no conditions. -/
import Derived.Test.YthhlbgfjldmbbaaDoorRows
import Derived.Test.YthhlbgfjldmbbaaDoorCards
import Derived.Test.YthhlbgfjldmbbaaDoorTie
import Derived.LaidMore
import Derived.Lay
import Derived.SevenTiedAt
import Derived.Stop.Joined
import Derived.ProofKit
import Derived.OpenShut
import Derived.ShutString
import Derived.ChangeOld
import Derived.Below
import Derived.SizedLaws
import Derived.Test.YthhlbgfjldmbbaaDoorDkFormsA
import Derived.Test.YthhlbgfjldmbbaaDoorDkFormsP
import Derived.Deep.CutBlock
namespace Go.Proofs.YthhlbgfjldmbbaaDoor
open Go.ChangeShapes Go.WideShapes Go.ChangeAt Go.RowKit
theorem umod10 (n : Int) : ∃ m : Nat, m < 10 ∧ (IntKind.u64.wrap n).tmod 10 = (m : Int) := by
  have h : IntKind.u64.wrap n = n % 18446744073709551616 := rfl
  rw [h, Int.tmod_eq_emod_of_nonneg (by omega)]
  exact ⟨((n % 18446744073709551616) % 10).toNat, by omega, by omega⟩
set_option maxRecDepth 20000 in
set_option maxHeartbeats 32000000 in
theorem diskForms_all (k x : Int) (w : World) : Calls Tryd.prog 3 #[.int .i64 k, .int .i64 x] w fun e w' => e = .returned (.bool true) ∧ Q w w' := by
  obtain ⟨i0, hi, hz0, hz1, hz2⟩ := info_parts Tryd.infoK
  obtain ⟨m, hm, hmod⟩ := umod10 k
  have hbit := and1023 x
  obtain ⟨d, hd⟩ : ∃ d, 1 + x % 1024 = d := ⟨_, rfl⟩
  have hd1 : 1 ≤ d := by omega
  have hd2 : d ≤ 1024 := by omega
  have hwd : wrap64 d = d := by simp only [wrap64]; omega
  go_enter Tryd.func3, Tryd.ntmps3
  go_upto_region 5 with (go_at_call 4; refine (dkawake_any _).mono ?_; rintro e w1 ⟨rfl, q1⟩)
  have HG0 := Blk.new w1 #[.string ⟨#[97]⟩, .int .i64 3, .int .i64 4, .string ⟨#[98]⟩, .int .i64 0, .int .i64 2] 24
  have HD0 := Blk.new (w1.alloc (.cells #[.string ⟨#[97]⟩, .int .i64 3, .int .i64 4, .string ⟨#[98]⟩, .int .i64 0, .int .i64 2] 24)) #[.int .i64 5, .slice (some ⟨w1.heap.size, 0, none⟩) 2 2] 27
  rw [size_alloc] at HD0
  have q2 := ((Q.refl (w1.alloc (.cells #[.string ⟨#[97]⟩, .int .i64 3, .int .i64 4, .string ⟨#[98]⟩, .int .i64 0, .int .i64 2] 24))).alloc (.cells #[.int .i64 5, .slice (some ⟨w1.heap.size, 0, none⟩) 2 2] 27))
  have HQ := hide ((q1.trans ((Q.refl w1).alloc _)).trans q2)
  have HGW := hide q1.size
  have HG := hide (HG0.q q2)
  have HD := hide HD0
  clear HG0 HD0 q2 q1
  generalize (w1.alloc (.cells #[.string ⟨#[97]⟩, .int .i64 3, .int .i64 4, .string ⟨#[98]⟩, .int .i64 0, .int .i64 2] 24)).alloc (.cells #[.int .i64 5, .slice (some ⟨w1.heap.size, 0, none⟩) 2 2] 27) = w2 at *
  generalize w1.heap.size = GF at *
  have HS : Hid (∀ w', Q w2 w' → w'.cell? ⟨GF + 1, 0, none⟩ = some (.int .i64 5) ∧ w'.cell? ⟨GF + 1, 1, none⟩ = some (.slice (some ⟨GF, 0, none⟩) 2 2)) := fun w' q => ⟨((unhide HD).q q).cell 0 rfl, ((unhide HD).q q).cell 1 rfl⟩
  have s0 := (unhide HS _ (Q.refl w2)).1
  have s1 := (unhide HS _ (Q.refl w2)).2
  have sA0 : ∀ ob, (w2.alloc ob).cell? ⟨GF + 1, 0, none⟩ = some (.int .i64 5) := fun ob => (unhide HS _ ((Q.refl w2).alloc ob)).1
  have sA1 : ∀ ob, (w2.alloc ob).cell? ⟨GF + 1, 1, none⟩ = some (.slice (some ⟨GF, 0, none⟩) 2 2) := fun ob => (unhide HS _ ((Q.refl w2).alloc ob)).2
  have sB0 : ∀ ob ob2, ((w2.alloc ob).alloc ob2).cell? ⟨GF + 1, 0, none⟩ = some (.int .i64 5) := fun ob ob2 => (unhide HS _ (((Q.refl w2).alloc ob).alloc ob2)).1
  have sB1 : ∀ ob ob2, ((w2.alloc ob).alloc ob2).cell? ⟨GF + 1, 1, none⟩ = some (.slice (some ⟨GF, 0, none⟩) 2 2) := fun ob ob2 => (unhide HS _ (((Q.refl w2).alloc ob).alloc ob2)).2
  have HN : Hid (∀ w', Q w2 w' → ∀ (j : Nat) (u : Value), (lay fv gsK)[j]? = some u → w'.cell? ((⟨GF, 0, none⟩ : Addr).add j) = some u) := fun w' q => World.news_of_block ((unhide HG).q q)
  go_cut [7] from 31 (fun v wc => ∃ NB g cp, v = .pointer (some ⟨NB, 0, none⟩) ∧ Hid (w2.heap.size ≤ NB) ∧ Hid (Blk wc NB #[.int .i64 5, .slice (some ⟨g, 0, none⟩) 2 cp] 27) ∧ Hid (OwnK wc w2.heap.size (some ⟨g, 0, none⟩) cp gsK) ∧ Hid (Q w2 wc))
  case first =>
    refine wp_region_held_drew (S := fun w' => w'.cell? ⟨GF + 1, 0, none⟩ = some (.int .i64 5) ∧ w'.cell? ⟨GF + 1, 1, none⟩ = some (.slice (some ⟨GF, 0, none⟩) 2 2)) (by kernel_rfl) (unhide HS _ (Q.refl w2).drew) (fun hHeld => ?_)
    clear s0 s1 sA0 sA1 sB0 sB1
    refine wpAnyH_take (i := 0) (v := ?_) rfl (by kernel_rfl) (by kernel_rfl) (by kernel_rfl) (fun _ _ _ h => h) (Or.inl ⟨by rfl, ?_⟩) (by assumption) ?_
    rotate_left
    · (intro w' hSw; (try dsimp only at hSw); go_simp; try with_reducible rfl)
    refine wpAnyH_take (i := 1) (v := ?_) rfl (by kernel_rfl) (by kernel_rfl) (by kernel_rfl) (fun _ _ _ h => h) (Or.inl ⟨by rfl, ?_⟩) (by assumption) ?_
    rotate_left
    · (intro w' hSw; (try dsimp only at hSw); go_simp; try with_reducible rfl)
    refine wpAnyH_take (i := 3) (v := ?_) rfl (by kernel_rfl) (by kernel_rfl) (by kernel_rfl) (fun _ _ _ h => h) (Or.inl ⟨by rfl, ?_⟩) (by assumption) ?_
    rotate_left
    · (intro w' hSw; (try dsimp only at hSw); go_simp; try with_reducible rfl)
    refine wpAnyH_take (i := 4) (v := ?_) rfl (by kernel_rfl) (by kernel_rfl) (by kernel_rfl) (fun _ _ _ h => h) (Or.inl ⟨by rfl, ?_⟩) (by assumption) ?_
    rotate_left
    · (intro w' hSw; (try dsimp only at hSw); go_simp; try with_reducible rfl)
    refine wpAnyH_ready (rs := [2, 7]) (by kernel_rfl) (by simp) ?_
    refine AllReadyH.cons rfl (fun K hK => ?_) (AllReadyH.cons rfl (fun K hK => ?_) AllReadyH.nil)
    · go_simp
      refine hK.out _ _ (unhide HS _ ((Q.refl w2).alloc (.cells #[] 24)).drew) (fun hHeld7 => ?_)
      clear hK
      refine wpAnyH_ready (rs := [5, 7]) (by kernel_rfl) (by simp) ?_
      refine AllReadyH.cons rfl (fun K hK => ?_) (AllReadyH.cons rfl (fun K hK => ?_) AllReadyH.nil)
      · refine step_append_lies _ rfl (.tmp 33) (.tmp 35) 25 rfl w2.heap.size 24 i0 _ 3 32 Tryd.underlying25 hi hz0 hz1 hz2 rfl (by decide) (.slice (some ⟨w2.heap.size, 0, none⟩) 0 0) 0 (lay fv []) (by simp [Act.eval]) (own_q (own_e w2.heap.size w2 _ rfl (Nat.le_refl _)) (Q.refl (w2.alloc (.cells #[] 24))).drew) ⟨GF, 0, none⟩ 2 2 (lay fv gsK) (by simp [Act.eval]) rfl (unhide HN _ (((Q.refl w2).alloc (.cells #[] 24)).drew)) (one_layK gsK) (by decide) (by unfold maxLen; omega) (by omega) (Below.size (((Q.refl w2).alloc (.cells #[] 24)).drew)) _ rfl ?_
        intro g5 cp5 w5 hown5 hgrow5 hor5 hlt5
        have HQ5 : Hid (Q w2 w5) := Below.grown (((Q.refl w2).alloc (.cells #[] 24)).drew) hgrow5 (Below.size (((Q.refl w2).alloc (.cells #[] 24)).drew)) (fun r hr => by have hr' : w2.heap.size = r := Option.some.inj hr; omega)
        have HO5 : Hid (OwnK w5 w2.heap.size (some ⟨g5, 0, none⟩) cp5 gsK) := hown5
        clear hown5 hgrow5 hor5
        refine hK.out _ _ (unhide HS _ (unhide HQ5)) (fun hHeld1 => ?_)
        clear hK
        refine wpAnyH_take (i := 6) (v := ?_) rfl (by kernel_rfl) (by kernel_rfl) (by kernel_rfl) (fun _ _ _ h => h) (Or.inl ⟨by rfl, ?_⟩) (by assumption) ?_
        rotate_left
        · (intro w' hSw; (try dsimp only at hSw); go_simp; try with_reducible rfl)
        refine wpAnyH_ready (rs := [7]) (by kernel_rfl) (by simp) ?_
        refine AllReadyH.cons rfl (fun K hK => ?_) AllReadyH.nil
        go_simp
        refine hK.out _ _ (unhide HS _ ((unhide HQ5).alloc _)) (fun hHeld2 => ?_)
        clear hK
        refine wpAnyH_ready (rs := [8]) (by kernel_rfl) (by simp) ?_
        refine AllReadyH.cons rfl (fun K hK => ?_) AllReadyH.nil
        go_simp
        refine hK.out _ _ (unhide HS _ ((unhide HQ5).alloc _)) (fun hHeld3 => ?_)
        clear hK
        refine wpAnyH_done (by kernel_rfl) ?_ _
        go_wp2_with fail
        go_meet
        case rel => exact ⟨w5.heap.size, g5, cp5, rfl, (unhide HQ5).size, Blk.new w5 _ _, own_q (unhide HO5) ((Q.refl _).alloc _), (unhide HQ5).trans ((Q.refl _).alloc _)⟩
      · go_simp
        refine hK.out _ _ (unhide HS _ (((Q.refl w2).alloc (.cells #[] 24)).alloc (.cells #[.int .i64 0, .slice none 0 0] 27)).drew) (fun hHeld4 => ?_)
        clear hK
        refine wpAnyH_ready (rs := [5]) (by kernel_rfl) (by simp) ?_
        refine AllReadyH.cons rfl (fun K hK => ?_) AllReadyH.nil
        refine step_append_lies _ rfl (.tmp 33) (.tmp 35) 25 rfl w2.heap.size 24 i0 _ 3 32 Tryd.underlying25 hi hz0 hz1 hz2 rfl (by decide) (.slice (some ⟨w2.heap.size, 0, none⟩) 0 0) 0 (lay fv []) (by simp [Act.eval]) (own_q (own_e w2.heap.size w2 _ rfl (Nat.le_refl _)) ((Q.refl (w2.alloc (.cells #[] 24))).alloc (.cells #[.int .i64 0, .slice none 0 0] 27)).drew) ⟨GF, 0, none⟩ 2 2 (lay fv gsK) (by simp [Act.eval]) rfl (unhide HN _ ((((Q.refl w2).alloc (.cells #[] 24)).alloc (.cells #[.int .i64 0, .slice none 0 0] 27)).drew)) (one_layK gsK) (by decide) (by unfold maxLen; omega) (by omega) (Below.size ((((Q.refl w2).alloc (.cells #[] 24)).alloc (.cells #[.int .i64 0, .slice none 0 0] 27)).drew)) _ rfl ?_
        intro g5 cp5 w5 hown5 hgrow5 hor5 hlt5
        have HQ5 : Hid (Q w2 w5) := Below.grown ((((Q.refl w2).alloc (.cells #[] 24)).alloc (.cells #[.int .i64 0, .slice none 0 0] 27)).drew) hgrow5 (Below.size ((((Q.refl w2).alloc (.cells #[] 24)).alloc (.cells #[.int .i64 0, .slice none 0 0] 27)).drew)) (fun r hr => by have hr' : w2.heap.size = r := Option.some.inj hr; omega)
        have HO5 : Hid (OwnK w5 w2.heap.size (some ⟨g5, 0, none⟩) cp5 gsK) := hown5
        have hz5 : Blk w5 (w2.heap.size + 1) #[.int .i64 0, .slice none 0 0] 27 := (blk_at (w2.alloc (.cells #[] 24)) _ _ (size_alloc _ _)).drew.fr (Fr.grown hgrow5) (fun e => by have e2 : w2.heap.size = w2.heap.size + 1 := Option.some.inj e; omega)
        have d0 := hz5.cell 0 rfl
        have d1 := hz5.cell 1 rfl
        have e0 := hz5.frz 0
        have e1 := hz5.frz 1
        have HP5 := hide (put2 hz5 (.int .i64 5) (.slice (some ⟨g5, 0, none⟩) 2 cp5))
        have HZO := hide (fun k hk => hz5.row (unhide HO5) (by decide) k hk)
        clear hz5
        clear hown5 hgrow5 hor5
        refine hK.out _ _ (unhide HS _ (unhide HQ5)) (fun hHeld5 => ?_)
        clear hK
        refine wpAnyH_take (i := 6) (v := ?_) rfl (by kernel_rfl) (by kernel_rfl) (by kernel_rfl) (fun _ _ _ h => h) (Or.inl ⟨by rfl, ?_⟩) (by assumption) ?_
        rotate_left
        · (intro w' hSw; (try dsimp only at hSw); go_simp; try with_reducible rfl)
        refine wpAnyH_ready (rs := [8]) (by kernel_rfl) (by simp) ?_
        refine AllReadyH.cons rfl (fun K hK => ?_) AllReadyH.nil
        go_simp
        refine hK.out _ _ (unhide HS _ (Below.trans (unhide HQ5) ((unhide HP5).2.below (unhide HQ5).size (fun k hk => by omega)))) (fun hHeld6 => ?_)
        clear hK
        refine wpAnyH_done (by kernel_rfl) ?_ _
        go_wp2_with fail
        go_meet
        case rel => exact ⟨w2.heap.size + 1, g5, cp5, rfl, Nat.le_succ _, (unhide HP5).1, own_fr (unhide HO5) (unhide HP5).2 (fun k hk => unhide HZO k hk), Below.trans (unhide HQ5) ((unhide HP5).2.below (unhide HQ5).size (fun k hk => by omega))⟩
    · go_simp
      refine hK.out _ _ (unhide HS _ ((Q.refl w2).alloc (.cells #[.int .i64 0, .slice none 0 0] 27)).drew) (fun hHeld8 => ?_)
      clear hK
      refine wpAnyH_ready (rs := [2]) (by kernel_rfl) (by simp) ?_
      refine AllReadyH.cons rfl (fun K hK => ?_) AllReadyH.nil
      go_simp
      refine hK.out _ _ (unhide HS _ (((Q.refl w2).alloc (.cells #[.int .i64 0, .slice none 0 0] 27)).alloc (.cells #[] 24)).drew) (fun hHeld9 => ?_)
      clear hK
      refine wpAnyH_ready (rs := [5]) (by kernel_rfl) (by simp) ?_
      refine AllReadyH.cons rfl (fun K hK => ?_) AllReadyH.nil
      refine step_append_lies _ rfl (.tmp 33) (.tmp 35) 25 rfl w2.heap.size 24 i0 _ 3 32 Tryd.underlying25 hi hz0 hz1 hz2 rfl (by decide) (.slice (some ⟨w2.heap.size + 1, 0, none⟩) 0 0) 0 (lay fv []) (by simp [Act.eval]) (own_q (own_e w2.heap.size (w2.alloc (.cells #[.int .i64 0, .slice none 0 0] 27)) _ (size_alloc _ _) (Below.size ((Q.refl w2).alloc (.cells #[.int .i64 0, .slice none 0 0] 27)))) (Q.refl ((w2.alloc (.cells #[.int .i64 0, .slice none 0 0] 27)).alloc (.cells #[] 24))).drew) ⟨GF, 0, none⟩ 2 2 (lay fv gsK) (by simp [Act.eval]) rfl (unhide HN _ ((((Q.refl w2).alloc (.cells #[.int .i64 0, .slice none 0 0] 27)).alloc (.cells #[] 24)).drew)) (one_layK gsK) (by decide) (by unfold maxLen; omega) (by omega) (Below.size ((((Q.refl w2).alloc (.cells #[.int .i64 0, .slice none 0 0] 27)).alloc (.cells #[] 24)).drew)) _ rfl ?_
      intro g5 cp5 w5 hown5 hgrow5 hor5 hlt5
      have HQ5 : Hid (Q w2 w5) := Below.grown ((((Q.refl w2).alloc (.cells #[.int .i64 0, .slice none 0 0] 27)).alloc (.cells #[] 24)).drew) hgrow5 (Below.size ((((Q.refl w2).alloc (.cells #[.int .i64 0, .slice none 0 0] 27)).alloc (.cells #[] 24)).drew)) (fun r hr => by have hr' : w2.heap.size + 1 = r := Option.some.inj hr; omega)
      have HO5 : Hid (OwnK w5 w2.heap.size (some ⟨g5, 0, none⟩) cp5 gsK) := hown5
      have hz5 : Blk w5 w2.heap.size #[.int .i64 0, .slice none 0 0] 27 := ((blk_at w2 _ _ rfl).q ((Q.refl (w2.alloc (.cells #[.int .i64 0, .slice none 0 0] 27))).alloc (.cells #[] 24)).drew).fr (Fr.grown hgrow5) (fun e => by have e2 : w2.heap.size + 1 = w2.heap.size := Option.some.inj e; omega)
      have d0 := hz5.cell 0 rfl
      have d1 := hz5.cell 1 rfl
      have e0 := hz5.frz 0
      have e1 := hz5.frz 1
      have HP5 := hide (put2 hz5 (.int .i64 5) (.slice (some ⟨g5, 0, none⟩) 2 cp5))
      have HZO := hide (fun k hk => hz5.row (unhide HO5) (by decide) k hk)
      clear hz5
      clear hown5 hgrow5 hor5
      refine hK.out _ _ (unhide HS _ (unhide HQ5)) (fun hHeld10 => ?_)
      clear hK
      refine wpAnyH_take (i := 6) (v := ?_) rfl (by kernel_rfl) (by kernel_rfl) (by kernel_rfl) (fun _ _ _ h => h) (Or.inl ⟨by rfl, ?_⟩) (by assumption) ?_
      rotate_left
      · (intro w' hSw; (try dsimp only at hSw); go_simp; try with_reducible rfl)
      refine wpAnyH_ready (rs := [8]) (by kernel_rfl) (by simp) ?_
      refine AllReadyH.cons rfl (fun K hK => ?_) AllReadyH.nil
      go_simp
      refine hK.out _ _ (unhide HS _ (Below.trans (unhide HQ5) ((unhide HP5).2.below (unhide HQ5).size (fun k hk => by omega)))) (fun hHeld11 => ?_)
      clear hK
      refine wpAnyH_done (by kernel_rfl) ?_ _
      go_wp2_with fail
      go_meet
      case rel => exact ⟨w2.heap.size, g5, cp5, rfl, Nat.le_refl _, (unhide HP5).1, own_fr (unhide HO5) (unhide HP5).2 (fun k hk => unhide HZO k hk), Below.trans (unhide HQ5) ((unhide HP5).2.below (unhide HQ5).size (fun k hk => by omega))⟩
  case rest =>
    obtain ⟨NB, g, cp, rfl, HNB, HB, HO, HQ2⟩ := hcut
    have HDc := hide ((unhide HD).q (unhide HQ2))
    have HGF := hide (unhide HD).hi
    have nb0 := (unhide HB).cell 0 rfl
    have nb1 := (unhide HB).cell 1 rfl
    have nf0 := (unhide HB).frz 0
    have g0 : wc.cell? ⟨g, 0, none⟩ = some (.string ⟨#[97]⟩) := (row3 (p := 0) (unhide HO) rfl).1.1
    have g1 : wc.cell? ⟨g, 1, none⟩ = some (.int .i64 3) := (row3 (p := 0) (unhide HO) rfl).1.2.1
    have g2 : wc.cell? ⟨g, 2, none⟩ = some (.int .i64 4) := (row3 (p := 0) (unhide HO) rfl).1.2.2
    have g3 : wc.cell? ⟨g, 3, none⟩ = some (.string ⟨#[98]⟩) := (row3 (p := 1) (unhide HO) rfl).1.1
    have z0 : wc.frozen? ⟨g, 0, none⟩ = false := (row3 (p := 0) (unhide HO) rfl).2.1.1
    have z1 : wc.frozen? ⟨g, 1, none⟩ = false := (row3 (p := 0) (unhide HO) rfl).2.1.2.1
    have z2 : wc.frozen? ⟨g, 2, none⟩ = false := (row3 (p := 0) (unhide HO) rfl).2.1.2.2
    have z3 : wc.frozen? ⟨g, 3, none⟩ = false := (row3 (p := 1) (unhide HO) rfl).2.1.1
    have HgB := hide (row3 (p := 0) (unhide HO) rfl).2.2
    have HgN := hide ((unhide HB).row (unhide HO) (by decide) g rfl)
    have v0 : wrap64 (-d) = -d := by simp only [wrap64]; omega
    have v1 : wrap64 (1048576 + d) = 1048576 + d := by simp only [wrap64]; omega
    have v5 : wrap64 (2147483647 + d) = 2147483647 + d := by simp only [wrap64]; omega
    have v6 : wrap64 (1 - d) = 1 - d := by simp only [wrap64]; omega
    have v7 : wrap64 (5 + d) = 5 + d := by simp only [wrap64]; omega
    clear s0 s1 sA0 sA1 sB0 sB1 HN HS hd hbit
    go_upto_block 0 with fail
    go_cut [] from 41 (fun wd => Hid (Blk wd NB #[.int .i64 (cbK d m), .slice (some ⟨g, 0, none⟩) 2 cp] 27) ∧ Hid (OwnK wd w2.heap.size (some ⟨g, 0, none⟩) cp (fbK d m)) ∧ Hid (Q w2 wd))
    case first =>
      have hc : m = 0 ∨ m = 1 ∨ m = 2 ∨ m = 3 ∨ m = 4 ∨ m = 5 ∨ m = 6 ∨ m = 7 ∨ m = 8 ∨ m = 9 := by omega
      clear hm
      rcases hc with rfl | rfl | rfl | rfl | rfl | rfl | rfl | rfl | rfl | rfl
      · have hmm : (IntKind.u64.wrap k).tmod 10 = 0 := hmod
        clear hmod
        go_wp2_with fail
        go_meet
        case rel => exact ⟨(unhide HB).set 0 _, own_fr (unhide HO) (Fr.set wc NB 0 _) (fun k hk => (unhide HB).row (unhide HO) (by decide) k hk), Below.trans (unhide HQ2) ((Fr.set wc NB 0 _).below (unhide HQ2).size (fun k hk => by rw [hk]; exact unhide HNB))⟩
      · have hmm : (IntKind.u64.wrap k).tmod 10 = 1 := hmod
        clear hmod
        go_wp2_with fail
        go_meet
        case rel => exact ⟨(unhide HB).set 0 _, own_fr (unhide HO) (Fr.set wc NB 0 _) (fun k hk => (unhide HB).row (unhide HO) (by decide) k hk), Below.trans (unhide HQ2) ((Fr.set wc NB 0 _).below (unhide HQ2).size (fun k hk => by rw [hk]; exact unhide HNB))⟩
      · have hmm : (IntKind.u64.wrap k).tmod 10 = 2 := hmod
        clear hmod
        go_wp2_with fail
        go_meet
        case rel => exact ⟨(unhide HB).fr (Fr.set wc g 0 (.string ⟨#[99]⟩)) (fun e => unhide HgN e.symm), own_set fv_len (unhide HO) 0 0 ([97], 3, 4) ([99], 3, 4) (.string ⟨#[99]⟩) rfl (by decide) rfl, Below.trans (unhide HQ2) ((Fr.set wc g 0 (.string ⟨#[99]⟩)).below (unhide HQ2).size (fun k hk => by rw [hk]; exact unhide HgB))⟩
      · have hmm : (IntKind.u64.wrap k).tmod 10 = 3 := hmod
        clear hmod
        go_wp2_with fail
        go_meet
        case rel => exact ⟨(unhide HB).fr (Fr.set wc g 0 (.string ⟨#[46, 47, 97]⟩)) (fun e => unhide HgN e.symm), own_set fv_len (unhide HO) 0 0 ([97], 3, 4) ([46, 47, 97], 3, 4) (.string ⟨#[46, 47, 97]⟩) rfl (by decide) rfl, Below.trans (unhide HQ2) ((Fr.set wc g 0 (.string ⟨#[46, 47, 97]⟩)).below (unhide HQ2).size (fun k hk => by rw [hk]; exact unhide HgB))⟩
      · have hmm : (IntKind.u64.wrap k).tmod 10 = 4 := hmod
        clear hmod
        go_wp2_with fail
        go_meet
        case rel => exact ⟨(unhide HB).fr (Fr.set wc g 1 (.int .i64 (-d))) (fun e => unhide HgN e.symm), own_set fv_len (unhide HO) 0 1 ([97], 3, 4) ([97], -d, 4) (.int .i64 (-d)) rfl (by decide) rfl, Below.trans (unhide HQ2) ((Fr.set wc g 1 (.int .i64 (-d))).below (unhide HQ2).size (fun k hk => by rw [hk]; exact unhide HgB))⟩
      · have hmm : (IntKind.u64.wrap k).tmod 10 = 5 := hmod
        clear hmod
        go_wp2_with fail
        go_meet
        case rel => exact ⟨(unhide HB).fr (Fr.set wc g 1 (.int .i64 (2147483647 + d))) (fun e => unhide HgN e.symm), own_set fv_len (unhide HO) 0 1 ([97], 3, 4) ([97], 2147483647 + d, 4) (.int .i64 (2147483647 + d)) rfl (by decide) rfl, Below.trans (unhide HQ2) ((Fr.set wc g 1 (.int .i64 (2147483647 + d))).below (unhide HQ2).size (fun k hk => by rw [hk]; exact unhide HgB))⟩
      · have hmm : (IntKind.u64.wrap k).tmod 10 = 6 := hmod
        clear hmod
        go_wp2_with fail
        go_meet
        case rel => exact ⟨(unhide HB).fr (Fr.set wc g 2 (.int .i64 (1 - d))) (fun e => unhide HgN e.symm), own_set fv_len (unhide HO) 0 2 ([97], 3, 4) ([97], 3, 1 - d) (.int .i64 (1 - d)) rfl (by decide) rfl, Below.trans (unhide HQ2) ((Fr.set wc g 2 (.int .i64 (1 - d))).below (unhide HQ2).size (fun k hk => by rw [hk]; exact unhide HgB))⟩
      · have hmm : (IntKind.u64.wrap k).tmod 10 = 7 := hmod
        clear hmod
        go_wp2_with fail
        go_meet
        case rel => exact ⟨(unhide HB).fr (Fr.set wc g 2 (.int .i64 (5 + d))) (fun e => unhide HgN e.symm), own_set fv_len (unhide HO) 0 2 ([97], 3, 4) ([97], 3, 5 + d) (.int .i64 (5 + d)) rfl (by decide) rfl, Below.trans (unhide HQ2) ((Fr.set wc g 2 (.int .i64 (5 + d))).below (unhide HQ2).size (fun k hk => by rw [hk]; exact unhide HgB))⟩
      · have hmm : (IntKind.u64.wrap k).tmod 10 = 8 := hmod
        clear hmod
        go_wp2_with fail
        go_meet
        case rel => exact ⟨(unhide HB).fr (Fr.set wc g 2 (.int .i64 2)) (fun e => unhide HgN e.symm), own_set fv_len (unhide HO) 0 2 ([97], 3, 4) ([97], 3, 2) (.int .i64 2) rfl (by decide) rfl, Below.trans (unhide HQ2) ((Fr.set wc g 2 (.int .i64 2)).below (unhide HQ2).size (fun k hk => by rw [hk]; exact unhide HgB))⟩
      · have hmm : (IntKind.u64.wrap k).tmod 10 = 9 := hmod
        clear hmod
        go_wp2_with fail
        go_meet
        case rel => exact ⟨(unhide HB).fr (Fr.set wc g 3 (.string ⟨#[97]⟩)) (fun e => unhide HgN e.symm), own_set fv_len (unhide HO) 1 0 ([98], 0, 2) ([97], 0, 2) (.string ⟨#[97]⟩) rfl (by decide) rfl, Below.trans (unhide HQ2) ((Fr.set wc g 3 (.string ⟨#[97]⟩)).below (unhide HQ2).size (fun k hk => by rw [hk]; exact unhide HgB))⟩
    case rest =>
      obtain ⟨HB2, HO2, HQ3⟩ := hcut
      rename World => wd
      have HBAD := hide (fbK_bad d hd1 m hm)
      have HFZ := hide (fbK_z d m)
      have HLN := hide (fbK_len d m)
      generalize cbK d m = cb at *
      generalize fbK d m = fb at *
      have HLO := hide (own_le (unhide HO2))
      have hcp1 : 2 ≤ cp := by have := (unhide HLO).1; rw [unhide HLN] at this; exact this
      have hcp2 : cp ≤ maxLen := (unhide HLO).2.1
      have HRB0 := hide (OwnK.row (unhide HO2))
      have HPB : Hid (∀ w', Q wd w' → Calls Tryd.prog 5 #[.agg #[.int .i64 cb, .slice (some ⟨g, 0, none⟩) fb.length cp], .string ⟨#[120]⟩, .int .i64 1] w' fun e w'' => ∃ ao' cap', e = .returned (.tuple #[.agg #[.int .i64 0, .slice ao' 0 cap'], .int .i64 1200]) ∧ OwnK w'' w'.heap.size ao' cap' [] ∧ Q w' w'') := fun w' q => put_any' cb fb (some ⟨g, 0, none⟩) cp ⟨#[120]⟩ 1 w' (bad_put (unhide HBAD)) ((unhide HRB0).q q) (unhide HFZ) (by rw [unhide HLN]; exact hcp1) hcp2 (show 1 ≤ maxLen by decide)
      have HRB : Hid (∀ w', Q wd w' → Calls Tryd.prog 6 #[.agg #[.int .i64 cb, .slice (some ⟨g, 0, none⟩) fb.length cp], .string ⟨#[98]⟩] w' fun e w'' => ∃ ao' cap', e = .returned (.tuple #[.agg #[.int .i64 0, .slice ao' 0 cap'], .int .i64 1200]) ∧ OwnK w'' w'.heap.size ao' cap' [] ∧ Q w' w'') := fun w' q => rem_any' cb fb (some ⟨g, 0, none⟩) cp ⟨#[98]⟩ w' (bad_rem (unhide HBAD)) ((unhide HRB0).q q) (unhide HFZ) (by rw [unhide HLN]; exact hcp1) hcp2 (show 1 ≤ maxLen by decide)
      have HFB : Hid (∀ w', Q wd w' → Calls Tryd.prog 7 #[.agg #[.int .i64 cb, .slice (some ⟨g, 0, none⟩) fb.length cp], .string ⟨#[98]⟩] w' fun e w'' => e = .returned (.tuple #[.agg #[.string ⟨#[]⟩, .int .i64 0, .int .i64 0], .bool false]) ∧ Q w' w'') := fun w' q => find_lit (t := ⟨#[]⟩) (x := 0) (y := 0) cb fb (some ⟨g, 0, none⟩) cp ⟨#[98]⟩ w' (bad_find (unhide HBAD)) rfl rfl rfl ((unhide HRB0).q q) (unhide HFZ) (by rw [unhide HLN]; exact hcp1) hcp2
      have HMB : Hid (∀ w', RowK w' (some ⟨g, 0, none⟩) fb → Calls Tryd.prog 8 #[.agg #[.int .i64 cb, .slice (some ⟨g, 0, none⟩) fb.length cp]] w' fun e w'' => e = .returned (.bool false) ∧ Q w' w'') := fun w' q => may_litK cb fb (some ⟨g, 0, none⟩) cp w' (unhide HBAD) q (unhide HFZ) (by rw [unhide HLN]; exact hcp1) hcp2
      rw [unhide HLN] at HPB HRB HFB HMB
      have HRG0 : Hid (RowK wd (some ⟨GF, 0, none⟩) gsK) := rowB fv_len ((unhide HG).q (unhide HQ3)) gsK rfl
      have HGZ : Hid (FlZ gsK) := flz_of (by decide +kernel)
      have HPG : Hid (∀ v, coOk v = false → ∀ w', Q wd w' → Calls Tryd.prog 5 #[.agg #[.int .i64 5, .slice (some ⟨GF, 0, none⟩) 2 2], .string ⟨#[120]⟩, .int .i64 v] w' fun e w'' => ∃ ao' cap', e = .returned (.tuple #[.agg #[.int .i64 0, .slice ao' 0 cap'], .int .i64 1200]) ∧ OwnK w'' w'.heap.size ao' cap' [] ∧ Q w' w'') := fun v hv w' q => put_any' 5 gsK (some ⟨GF, 0, none⟩) 2 ⟨#[120]⟩ v w' (co_put hv) ((unhide HRG0).q q) (unhide HGZ) (Nat.le_refl 2) (by decide) (show 1 ≤ maxLen by decide)
      have HRG1 : Hid (∀ w', Q wd w' → Calls Tryd.prog 6 #[.agg #[.int .i64 5, .slice (some ⟨GF, 0, none⟩) 2 2], .string ⟨#[47, 97]⟩] w' fun e w'' => ∃ ao' cap', e = .returned (.tuple #[.agg #[.int .i64 0, .slice ao' 0 cap'], .int .i64 1200]) ∧ OwnK w'' w'.heap.size ao' cap' [] ∧ Q w' w'') := fun w' q => rem_any' 5 gsK (some ⟨GF, 0, none⟩) 2 ⟨#[47, 97]⟩ w' gs_r1 ((unhide HRG0).q q) (unhide HGZ) (Nat.le_refl 2) (by decide) (show 2 ≤ maxLen by decide)
      have HRG2 : Hid (∀ w', Q wd w' → Calls Tryd.prog 6 #[.agg #[.int .i64 5, .slice (some ⟨GF, 0, none⟩) 2 2], .string ⟨#[120]⟩] w' fun e w'' => ∃ ao' cap', e = .returned (.tuple #[.agg #[.int .i64 0, .slice ao' 0 cap'], .int .i64 1202]) ∧ OwnK w'' w'.heap.size ao' cap' [] ∧ Q w' w'') := fun w' q => rem_any' 5 gsK (some ⟨GF, 0, none⟩) 2 ⟨#[120]⟩ w' gs_r2 ((unhide HRG0).q q) (unhide HGZ) (Nat.le_refl 2) (by decide) (show 1 ≤ maxLen by decide)
      have HQd : Hid (Q w wd) := hide ((unhide HQ).trans (unhide HQ3))
      have HDG := hide ((unhide HD).q (unhide HQ3))
      have HQW := hide (Q.refl wd)
      have HGB := hide ((unhide HG).q (unhide HQ3))
      have HOS : Hid (OwZ wd w2.heap.size (some ⟨g, 0, none⟩) cp fb) := ⟨unhide HO2⟩
      clear HB HO HG HD HDc HQ HLO v1 v6 v7 hm hmod
      have ld0 : wd.cell? ⟨NB, 0, none⟩ = some (.int .i64 cb) := (unhide HB2).cell 0 rfl
      have ld1 : wd.cell? ⟨NB, 1, none⟩ = some (.slice (some ⟨g, 0, none⟩) 2 cp) := (unhide HB2).cell 1 rfl
      go_wp2_with fail
      clear ld0 ld1
      refine (unhide HPB wd (unhide HQW)).mono ?_
      rintro e u1 ⟨p1, c1, rfl, own1, q1⟩
      clear own1
      have qa := (Q.refl u1).alloc (.cells #[.int .i64 0, .slice p1 0 c1] 27)
      have HM1 : Hid (Blk (u1.alloc (.cells #[.int .i64 0, .slice p1 0 c1] 27)) u1.heap.size #[.int .i64 0, .slice p1 0 c1] 27) := Blk.new u1 _ _
      replace HQW := hide ((unhide HQW).trans (q1.trans qa))
      replace HB2 := hide ((unhide HB2).q (q1.trans qa))
      replace HDG := hide ((unhide HDG).q (q1.trans qa))
      replace HGB := hide ((unhide HGB).q (q1.trans qa))
      replace HOS := hide ((unhide HOS).q (q1.trans qa))
      clear q1 qa
      generalize hgM1 : u1.heap.size = M1 at *
      have ld0 : (u1.alloc (.cells #[.int .i64 0, .slice p1 0 c1] 27)).cell? ⟨NB, 0, none⟩ = some (.int .i64 cb) := (unhide HB2).cell 0 rfl
      have ld1 : (u1.alloc (.cells #[.int .i64 0, .slice p1 0 c1] 27)).cell? ⟨NB, 1, none⟩ = some (.slice (some ⟨g, 0, none⟩) 2 cp) := (unhide HB2).cell 1 rfl
      go_wp2_with fail
      generalize (u1.alloc (.cells #[.int .i64 0, .slice p1 0 c1] 27)) = vu1 at *
      clear ld0 ld1
      refine (unhide HRB vu1 (unhide HQW)).mono ?_
      rintro e u2 ⟨p2, c2, rfl, own2, q2⟩
      clear own2
      have qa := (Q.refl u2).alloc (.cells #[.int .i64 0, .slice p2 0 c2] 27)
      have HM2 : Hid (Blk (u2.alloc (.cells #[.int .i64 0, .slice p2 0 c2] 27)) u2.heap.size #[.int .i64 0, .slice p2 0 c2] 27) := Blk.new u2 _ _
      replace HQW := hide ((unhide HQW).trans (q2.trans qa))
      replace HB2 := hide ((unhide HB2).q (q2.trans qa))
      replace HDG := hide ((unhide HDG).q (q2.trans qa))
      replace HGB := hide ((unhide HGB).q (q2.trans qa))
      replace HOS := hide ((unhide HOS).q (q2.trans qa))
      replace HM1 := hide ((unhide HM1).q (q2.trans qa))
      clear q2 qa
      generalize hgM2 : u2.heap.size = M2 at *
      have ld0 : (u2.alloc (.cells #[.int .i64 0, .slice p2 0 c2] 27)).cell? ⟨NB, 0, none⟩ = some (.int .i64 cb) := (unhide HB2).cell 0 rfl
      have ld1 : (u2.alloc (.cells #[.int .i64 0, .slice p2 0 c2] 27)).cell? ⟨NB, 1, none⟩ = some (.slice (some ⟨g, 0, none⟩) 2 cp) := (unhide HB2).cell 1 rfl
      go_wp2_with fail
      generalize (u2.alloc (.cells #[.int .i64 0, .slice p2 0 c2] 27)) = vu2 at *
      clear ld0 ld1
      refine (unhide HFB vu2 (unhide HQW)).mono ?_
      rintro e u3 ⟨rfl, q3⟩
      have qa := (Q.refl u3).alloc (.cells #[.string ⟨#[]⟩, .int .i64 0, .int .i64 0] 24)
      have HM3 : Hid (Blk (u3.alloc (.cells #[.string ⟨#[]⟩, .int .i64 0, .int .i64 0] 24)) u3.heap.size #[.string ⟨#[]⟩, .int .i64 0, .int .i64 0] 24) := Blk.new u3 _ _
      replace HQW := hide ((unhide HQW).trans (q3.trans qa))
      replace HB2 := hide ((unhide HB2).q (q3.trans qa))
      replace HDG := hide ((unhide HDG).q (q3.trans qa))
      replace HGB := hide ((unhide HGB).q (q3.trans qa))
      replace HOS := hide ((unhide HOS).q (q3.trans qa))
      replace HM1 := hide ((unhide HM1).q (q3.trans qa))
      replace HM2 := hide ((unhide HM2).q (q3.trans qa))
      clear q3 qa
      generalize hgM3 : u3.heap.size = M3 at *
      go_wp2_with fail
      generalize (u3.alloc (.cells #[.string ⟨#[]⟩, .int .i64 0, .int .i64 0] 24)) = vu3 at *
      have HC0 : Hid (coOk (-d) = false) := by show coOk (-d) = false; unfold coOk; rw [decide_eq_false (show ¬ 0 ≤ -d by omega)]; rfl
      have HC5 : Hid (coOk (2147483647 + d) = false) := by show coOk (2147483647 + d) = false; unfold coOk; rw [decide_eq_false (show ¬ 2147483647 + d ≤ 2147483647 by omega)]; simp
      have HPG5 := hide (fun v hv w' (q : Q vu3 w') => unhide HPG v hv w' ((unhide HQW).trans q))
      have HS3 : Hid (∀ w', Q vu3 w' → w'.cell? ⟨GF + 1, 0, none⟩ = some (.int .i64 5) ∧ w'.cell? ⟨GF + 1, 1, none⟩ = some (.slice (some ⟨GF, 0, none⟩) 2 2)) := fun w' q => ⟨((unhide HDG).q q).cell 0 rfl, ((unhide HDG).q q).cell 1 rfl⟩
      have s0 := (unhide HS3 _ (Q.refl vu3)).1
      have s1 := (unhide HS3 _ (Q.refl vu3)).2
      have sA0 : ∀ ob, (vu3.alloc ob).cell? ⟨GF + 1, 0, none⟩ = some (.int .i64 5) := fun ob => (unhide HS3 _ ((Q.refl vu3).alloc ob)).1
      have sA1 : ∀ ob, (vu3.alloc ob).cell? ⟨GF + 1, 1, none⟩ = some (.slice (some ⟨GF, 0, none⟩) 2 2) := fun ob => (unhide HS3 _ ((Q.refl vu3).alloc ob)).2
      have sB0 : ∀ ob ob2, ((vu3.alloc ob).alloc ob2).cell? ⟨GF + 1, 0, none⟩ = some (.int .i64 5) := fun ob ob2 => (unhide HS3 _ (((Q.refl vu3).alloc ob).alloc ob2)).1
      have sB1 : ∀ ob ob2, ((vu3.alloc ob).alloc ob2).cell? ⟨GF + 1, 1, none⟩ = some (.slice (some ⟨GF, 0, none⟩) 2 2) := fun ob ob2 => (unhide HS3 _ (((Q.refl vu3).alloc ob).alloc ob2)).2
      have hb1 := and1 k
      obtain ⟨jx, hjx, hj2⟩ : ∃ jx : Nat, k % 2 = (jx : Int) ∧ jx < 2 := ⟨(k % 2).toNat, by omega, by omega⟩
      obtain ⟨vx, hvx, hcv⟩ : ∃ vx : Int, (#[Value.int .i64 (-d), .int .i64 (2147483647 + d)] : Array Value)[jx]? = some (.int .i64 vx) ∧ coOk vx = false := by
        have h01 : jx = 0 ∨ jx = 1 := by omega
        rcases h01 with rfl | rfl
        · exact ⟨_, rfl, unhide HC0⟩
        · exact ⟨_, rfl, unhide HC5⟩
      rw [hjx] at hb1
      have HCV := hide hcv
      have j0 : (0 : Int) ≤ (jx : Int) := by omega
      have j1 : (jx : Int) < 2 := by omega
      have iA : (vu3.alloc (.cells #[.int .i64 (-d), .int .i64 (2147483647 + d)] 3)).cell? ⟨vu3.heap.size, jx, none⟩ = some (.int .i64 vx) := (Blk.new vu3 _ 3).cell jx hvx
      have iB : ∀ ob, ((vu3.alloc (.cells #[.int .i64 (-d), .int .i64 (2147483647 + d)] 3)).alloc ob).cell? ⟨vu3.heap.size, jx, none⟩ = some (.int .i64 vx) := fun ob => ((Blk.new vu3 _ 3).q ((Q.refl (vu3.alloc (.cells #[.int .i64 (-d), .int .i64 (2147483647 + d)] 3))).alloc ob)).cell jx hvx
      have iC : ∀ ob, ((vu3.alloc ob).alloc (.cells #[.int .i64 (-d), .int .i64 (2147483647 + d)] 3)).cell? ⟨vu3.heap.size + 1, jx, none⟩ = some (.int .i64 vx) := fun ob => by
        have h := (Blk.new (vu3.alloc ob) _ 3).cell jx hvx
        rwa [size_alloc] at h
      clear hjx hcv
      go_cut [14, 15] from 120 (fun v e wx => ∃ M, v = .pointer (some ⟨M, 0, none⟩) ∧ e = .int .i64 1200 ∧ Hid (Q vu3 wx))
      case first =>
        clear HPB HRB HFB HMB HRG1 HRG2 HRG0 HGZ HB2 HGB HOS HDG HQd HQW HQ2 HQ3 HO2 HRB0 HFZ HLN HBAD HNB HM1 HM2 HM3 HPG hcp1 hcp2
        have n0 : IntKind.i64.wrap (-d) = -d := by rw [IntKind.wrap_i64]; omega
        have n5 : IntKind.i64.wrap (2147483647 + d) = 2147483647 + d := by rw [IntKind.wrap_i64]; omega
        refine wp_region_held_drew (S := fun w' => w'.cell? ⟨GF + 1, 0, none⟩ = some (.int .i64 5) ∧ w'.cell? ⟨GF + 1, 1, none⟩ = some (.slice (some ⟨GF, 0, none⟩) 2 2)) (by kernel_rfl) (unhide HS3 _ (Q.refl vu3).drew) (fun hHeld => ?_)
        clear s0 s1 sA0 sA1 sB0 sB1
        refine wpAnyH_take (i := 0) (v := ?_) rfl (by kernel_rfl) (by kernel_rfl) (by kernel_rfl) (fun _ _ _ h => h) (Or.inl ⟨by rfl, ?_⟩) (by assumption) ?_
        rotate_left
        · (intro w' hSw; (try dsimp only at hSw); go_simp; try with_reducible rfl)
        refine wpAnyH_take (i := 1) (v := ?_) rfl (by kernel_rfl) (by kernel_rfl) (by kernel_rfl) (fun _ _ _ h => h) (Or.inl ⟨by rfl, ?_⟩) (by assumption) ?_
        rotate_left
        · (intro w' hSw; (try dsimp only at hSw); go_simp; try with_reducible rfl)
        refine wpAnyH_take (i := 2) (v := ?_) rfl (by kernel_rfl) (by kernel_rfl) (by kernel_rfl) (fun _ _ _ h => h) (Or.inl ⟨by rfl, ?_⟩) (by assumption) ?_
        rotate_left
        · (intro w' hSw; (try dsimp only at hSw); go_simp; try with_reducible rfl)
        refine wpAnyH_take (i := 3) (v := ?_) rfl (by kernel_rfl) (by kernel_rfl) (by kernel_rfl) (fun _ _ _ h => h) (Or.inl ⟨by rfl, ?_⟩) (by assumption) ?_
        rotate_left
        · (intro w' hSw; (try dsimp only at hSw); go_simp; try with_reducible rfl)
        refine wpAnyH_take (i := 4) (v := ?_) rfl (by kernel_rfl) (by kernel_rfl) (by kernel_rfl) (fun _ _ _ h => h) (Or.inl ⟨by rfl, ?_⟩) (by assumption) ?_
        rotate_left
        · (intro w' hSw; (try dsimp only at hSw); go_simp; try with_reducible rfl)
        refine wpAnyH_take (i := 6) (v := ?_) rfl (by kernel_rfl) (by kernel_rfl) (by kernel_rfl) (fun _ _ _ h => h) (Or.inl ⟨by rfl, ?_⟩) (by assumption) ?_
        rotate_left
        · (intro w' hSw; (try dsimp only at hSw); go_simp; try with_reducible rfl)
        refine wpAnyH_take (i := 7) (v := ?_) rfl (by kernel_rfl) (by kernel_rfl) (by kernel_rfl) (fun _ _ _ h => h) (Or.inl ⟨by rfl, ?_⟩) (by assumption) ?_
        rotate_left
        · (intro w' hSw; (try dsimp only at hSw); go_simp; try with_reducible rfl)
        refine wpAnyH_ready (rs := [5, 14]) (by kernel_rfl) (by simp) ?_
        refine AllReadyH.cons rfl (fun K hK => ?_) (AllReadyH.cons rfl (fun K hK => ?_) AllReadyH.nil)
        · go_simp
          refine hK.out _ _ (unhide HS3 _ ((Q.refl vu3).alloc (.cells #[.int .i64 (-d), .int .i64 (2147483647 + d)] 3)).drew) (fun hHeld13 => ?_)
          clear hK
          refine wpAnyH_take (i := 8) (v := ?_) rfl (by kernel_rfl) (by kernel_rfl) (by kernel_rfl) (fun _ _ _ h => h) (Or.inl ⟨by rfl, ?_⟩) (by assumption) ?_
          rotate_left
          · (intro w' hSw; (try dsimp only at hSw); go_simp; try with_reducible rfl)
          refine wpAnyH_ready (rs := [9, 14]) (by kernel_rfl) (by simp) ?_
          refine AllReadyH.cons rfl (fun K hK => ?_) (AllReadyH.cons rfl (fun K hK => ?_) AllReadyH.nil)
          · go_simp
            refine hK.out _ _ (unhide HS3 _ ((Q.refl vu3).alloc (.cells #[.int .i64 (-d), .int .i64 (2147483647 + d)] 3)).drew) (fun hHeld2 => ?_)
            clear hK
            refine wpAnyH_ready (rs := [10, 14]) (by kernel_rfl) (by simp) ?_
            refine AllReadyH.cons rfl (fun K hK => ?_) (AllReadyH.cons rfl (fun K hK => ?_) AllReadyH.nil)
            · go_simp
              go_wp2_with (go_at_call 5; refine (unhide HPG5 _ (unhide HCV) _ ((Q.refl vu3).alloc (.cells #[.int .i64 (-d), .int .i64 (2147483647 + d)] 3)).drew).mono ?_; rintro e w7 ⟨po, pc, rfl, own7, q7⟩)
              clear own7
              have HQ7 := hide (Q.trans ((Q.refl vu3).alloc (.cells #[.int .i64 (-d), .int .i64 (2147483647 + d)] 3)).drew q7)
              refine hK.out _ _ (unhide HS3 _ (unhide HQ7)) (fun hHeld3 => ?_)
              clear hK
              clear iA iB iC hvx
              refine wpAnyH_take (i := 11) (v := ?_) rfl (by kernel_rfl) (by kernel_rfl) (by kernel_rfl) (fun _ _ _ h => h) (Or.inl ⟨by rfl, ?_⟩) (by assumption) ?_
              rotate_left
              · (intro w' hSw; (try dsimp only at hSw); go_simp; try with_reducible rfl)
              refine wpAnyH_take (i := 12) (v := ?_) rfl (by kernel_rfl) (by kernel_rfl) (by kernel_rfl) (fun _ _ _ h => h) (Or.inl ⟨by rfl, ?_⟩) (by assumption) ?_
              rotate_left
              · (intro w' hSw; (try dsimp only at hSw); go_simp; try with_reducible rfl)
              refine wpAnyH_take (i := 13) (v := ?_) rfl (by kernel_rfl) (by kernel_rfl) (by kernel_rfl) (fun _ _ _ h => h) (Or.inl ⟨by rfl, ?_⟩) (by assumption) ?_
              rotate_left
              · (intro w' hSw; (try dsimp only at hSw); go_simp; try with_reducible rfl)
              refine wpAnyH_ready (rs := [14]) (by kernel_rfl) (by simp) ?_
              refine AllReadyH.cons rfl (fun K hK => ?_) AllReadyH.nil
              go_simp
              refine hK.out _ _ (unhide HS3 _ ((unhide HQ7).alloc _)) (fun hHeld4 => ?_)
              clear hK
              refine wpAnyH_ready (rs := [15]) (by kernel_rfl) (by simp) ?_
              refine AllReadyH.cons rfl (fun K hK => ?_) AllReadyH.nil
              go_simp
              refine hK.out _ _ (unhide HS3 _ ((unhide HQ7).alloc _)) (fun hHeld5 => ?_)
              clear hK
              refine wpAnyH_take (i := 16) (v := ?_) rfl (by kernel_rfl) (by kernel_rfl) (by kernel_rfl) (fun _ _ _ h => h) (Or.inl ⟨by rfl, ?_⟩) (by assumption) ?_
              rotate_left
              · (intro w' hSw; (try dsimp only at hSw); go_simp; try with_reducible rfl)
              refine wpAnyH_done (by kernel_rfl) ?_ _
              go_wp2_with fail
              go_meet
              case rel => exact ⟨w7.heap.size, rfl, rfl, (unhide HQ7).alloc _⟩
            · go_simp
              refine hK.out _ _ (unhide HS3 _ (((Q.refl vu3).alloc (.cells #[.int .i64 (-d), .int .i64 (2147483647 + d)] 3)).alloc (.cells #[.int .i64 0, .slice none 0 0] 27)).drew) (fun hHeld6 => ?_)
              clear hK
              refine wpAnyH_ready (rs := [10]) (by kernel_rfl) (by simp) ?_
              refine AllReadyH.cons rfl (fun K hK => ?_) AllReadyH.nil
              go_simp
              go_wp2_with (go_at_call 5; refine (unhide HPG5 _ (unhide HCV) _ (((Q.refl vu3).alloc (.cells #[.int .i64 (-d), .int .i64 (2147483647 + d)] 3)).alloc (.cells #[.int .i64 0, .slice none 0 0] 27)).drew).mono ?_; rintro e w7 ⟨po, pc, rfl, own7, q7⟩)
              clear own7
              have HQ7 := hide (Q.trans (((Q.refl vu3).alloc (.cells #[.int .i64 (-d), .int .i64 (2147483647 + d)] 3)).alloc (.cells #[.int .i64 0, .slice none 0 0] 27)).drew q7)
              have hz := (blk_at (vu3.alloc (.cells #[.int .i64 (-d), .int .i64 (2147483647 + d)] 3)) (vu3.heap.size + 1) #[.int .i64 0, .slice none 0 0] (t := 27) (size_alloc _ _)).drew.q q7
              have d0 := hz.cell 0 rfl
              have d1 := hz.cell 1 rfl
              have e0 := hz.frz 0
              have e1 := hz.frz 1
              have HP7 := hide (put2 hz (.int .i64 0) (.slice po 0 pc))
              have HQ8 := hide (Below.trans (unhide HQ7) ((unhide HP7).2.below (unhide HQ7).size (fun k hk => by omega)))
              clear hz
              refine hK.out _ _ (unhide HS3 _ (unhide HQ7)) (fun hHeld7 => ?_)
              clear hK
              clear iA iB iC hvx
              refine wpAnyH_take (i := 11) (v := ?_) rfl (by kernel_rfl) (by kernel_rfl) (by kernel_rfl) (fun _ _ _ h => h) (Or.inl ⟨by rfl, ?_⟩) (by assumption) ?_
              rotate_left
              · (intro w' hSw; (try dsimp only at hSw); go_simp; try with_reducible rfl)
              refine wpAnyH_take (i := 12) (v := ?_) rfl (by kernel_rfl) (by kernel_rfl) (by kernel_rfl) (fun _ _ _ h => h) (Or.inl ⟨by rfl, ?_⟩) (by assumption) ?_
              rotate_left
              · (intro w' hSw; (try dsimp only at hSw); go_simp; try with_reducible rfl)
              refine wpAnyH_take (i := 13) (v := ?_) rfl (by kernel_rfl) (by kernel_rfl) (by kernel_rfl) (fun _ _ _ h => h) (Or.inl ⟨by rfl, ?_⟩) (by assumption) ?_
              rotate_left
              · (intro w' hSw; (try dsimp only at hSw); go_simp; try with_reducible rfl)
              refine wpAnyH_ready (rs := [15]) (by kernel_rfl) (by simp) ?_
              refine AllReadyH.cons rfl (fun K hK => ?_) AllReadyH.nil
              go_simp
              refine hK.out _ _ (unhide HS3 _ (unhide HQ8)) (fun hHeld8 => ?_)
              clear hK
              refine wpAnyH_take (i := 16) (v := ?_) rfl (by kernel_rfl) (by kernel_rfl) (by kernel_rfl) (fun _ _ _ h => h) (Or.inl ⟨by rfl, ?_⟩) (by assumption) ?_
              rotate_left
              · (intro w' hSw; (try dsimp only at hSw); go_simp; try with_reducible rfl)
              refine wpAnyH_done (by kernel_rfl) ?_ _
              go_wp2_with fail
              go_meet
              case rel => exact ⟨vu3.heap.size + 1, rfl, rfl, unhide HQ8⟩
          · go_simp
            refine hK.out _ _ (unhide HS3 _ (((Q.refl vu3).alloc (.cells #[.int .i64 (-d), .int .i64 (2147483647 + d)] 3)).alloc (.cells #[.int .i64 0, .slice none 0 0] 27)).drew) (fun hHeld9 => ?_)
            clear hK
            refine wpAnyH_ready (rs := [9]) (by kernel_rfl) (by simp) ?_
            refine AllReadyH.cons rfl (fun K hK => ?_) AllReadyH.nil
            go_simp
            refine hK.out _ _ (unhide HS3 _ (((Q.refl vu3).alloc (.cells #[.int .i64 (-d), .int .i64 (2147483647 + d)] 3)).alloc (.cells #[.int .i64 0, .slice none 0 0] 27)).drew) (fun hHeld10 => ?_)
            clear hK
            refine wpAnyH_ready (rs := [10]) (by kernel_rfl) (by simp) ?_
            refine AllReadyH.cons rfl (fun K hK => ?_) AllReadyH.nil
            go_simp
            go_wp2_with (go_at_call 5; refine (unhide HPG5 _ (unhide HCV) _ (((Q.refl vu3).alloc (.cells #[.int .i64 (-d), .int .i64 (2147483647 + d)] 3)).alloc (.cells #[.int .i64 0, .slice none 0 0] 27)).drew).mono ?_; rintro e w7 ⟨po, pc, rfl, own7, q7⟩)
            clear own7
            have HQ7 := hide (Q.trans (((Q.refl vu3).alloc (.cells #[.int .i64 (-d), .int .i64 (2147483647 + d)] 3)).alloc (.cells #[.int .i64 0, .slice none 0 0] 27)).drew q7)
            have hz := (blk_at (vu3.alloc (.cells #[.int .i64 (-d), .int .i64 (2147483647 + d)] 3)) (vu3.heap.size + 1) #[.int .i64 0, .slice none 0 0] (t := 27) (size_alloc _ _)).drew.q q7
            have d0 := hz.cell 0 rfl
            have d1 := hz.cell 1 rfl
            have e0 := hz.frz 0
            have e1 := hz.frz 1
            have HP7 := hide (put2 hz (.int .i64 0) (.slice po 0 pc))
            have HQ8 := hide (Below.trans (unhide HQ7) ((unhide HP7).2.below (unhide HQ7).size (fun k hk => by omega)))
            clear hz
            refine hK.out _ _ (unhide HS3 _ (unhide HQ7)) (fun hHeld11 => ?_)
            clear hK
            clear iA iB iC hvx
            refine wpAnyH_take (i := 11) (v := ?_) rfl (by kernel_rfl) (by kernel_rfl) (by kernel_rfl) (fun _ _ _ h => h) (Or.inl ⟨by rfl, ?_⟩) (by assumption) ?_
            rotate_left
            · (intro w' hSw; (try dsimp only at hSw); go_simp; try with_reducible rfl)
            refine wpAnyH_take (i := 12) (v := ?_) rfl (by kernel_rfl) (by kernel_rfl) (by kernel_rfl) (fun _ _ _ h => h) (Or.inl ⟨by rfl, ?_⟩) (by assumption) ?_
            rotate_left
            · (intro w' hSw; (try dsimp only at hSw); go_simp; try with_reducible rfl)
            refine wpAnyH_take (i := 13) (v := ?_) rfl (by kernel_rfl) (by kernel_rfl) (by kernel_rfl) (fun _ _ _ h => h) (Or.inl ⟨by rfl, ?_⟩) (by assumption) ?_
            rotate_left
            · (intro w' hSw; (try dsimp only at hSw); go_simp; try with_reducible rfl)
            refine wpAnyH_ready (rs := [15]) (by kernel_rfl) (by simp) ?_
            refine AllReadyH.cons rfl (fun K hK => ?_) AllReadyH.nil
            go_simp
            refine hK.out _ _ (unhide HS3 _ (unhide HQ8)) (fun hHeld12 => ?_)
            clear hK
            refine wpAnyH_take (i := 16) (v := ?_) rfl (by kernel_rfl) (by kernel_rfl) (by kernel_rfl) (fun _ _ _ h => h) (Or.inl ⟨by rfl, ?_⟩) (by assumption) ?_
            rotate_left
            · (intro w' hSw; (try dsimp only at hSw); go_simp; try with_reducible rfl)
            refine wpAnyH_done (by kernel_rfl) ?_ _
            go_wp2_with fail
            go_meet
            case rel => exact ⟨vu3.heap.size + 1, rfl, rfl, unhide HQ8⟩
        · go_simp
          refine hK.out _ _ (unhide HS3 _ ((Q.refl vu3).alloc (.cells #[.int .i64 0, .slice none 0 0] 27)).drew) (fun hHeld14 => ?_)
          clear hK
          refine wpAnyH_ready (rs := [5]) (by kernel_rfl) (by simp) ?_
          refine AllReadyH.cons rfl (fun K hK => ?_) AllReadyH.nil
          go_simp
          refine hK.out _ _ (unhide HS3 _ (((Q.refl vu3).alloc (.cells #[.int .i64 0, .slice none 0 0] 27)).alloc (.cells #[.int .i64 (-d), .int .i64 (2147483647 + d)] 3)).drew) (fun hHeld15 => ?_)
          clear hK
          refine wpAnyH_take (i := 8) (v := ?_) rfl (by kernel_rfl) (by kernel_rfl) (by kernel_rfl) (fun _ _ _ h => h) (Or.inl ⟨by rfl, ?_⟩) (by assumption) ?_
          rotate_left
          · (intro w' hSw; (try dsimp only at hSw); go_simp; try with_reducible rfl)
          refine wpAnyH_ready (rs := [9]) (by kernel_rfl) (by simp) ?_
          refine AllReadyH.cons rfl (fun K hK => ?_) AllReadyH.nil
          go_simp
          refine hK.out _ _ (unhide HS3 _ (((Q.refl vu3).alloc (.cells #[.int .i64 0, .slice none 0 0] 27)).alloc (.cells #[.int .i64 (-d), .int .i64 (2147483647 + d)] 3)).drew) (fun hHeld16 => ?_)
          clear hK
          refine wpAnyH_ready (rs := [10]) (by kernel_rfl) (by simp) ?_
          refine AllReadyH.cons rfl (fun K hK => ?_) AllReadyH.nil
          go_simp
          go_wp2_with (go_at_call 5; refine (unhide HPG5 _ (unhide HCV) _ (((Q.refl vu3).alloc (.cells #[.int .i64 0, .slice none 0 0] 27)).alloc (.cells #[.int .i64 (-d), .int .i64 (2147483647 + d)] 3)).drew).mono ?_; rintro e w7 ⟨po, pc, rfl, own7, q7⟩)
          clear own7
          have HQ7 := hide (Q.trans (((Q.refl vu3).alloc (.cells #[.int .i64 0, .slice none 0 0] 27)).alloc (.cells #[.int .i64 (-d), .int .i64 (2147483647 + d)] 3)).drew q7)
          have hz := ((blk_at vu3 vu3.heap.size #[.int .i64 0, .slice none 0 0] (t := 27) rfl).q ((Q.refl (vu3.alloc (.cells #[.int .i64 0, .slice none 0 0] 27))).alloc (.cells #[.int .i64 (-d), .int .i64 (2147483647 + d)] 3))).drew.q q7
          have d0 := hz.cell 0 rfl
          have d1 := hz.cell 1 rfl
          have e0 := hz.frz 0
          have e1 := hz.frz 1
          have HP7 := hide (put2 hz (.int .i64 0) (.slice po 0 pc))
          have HQ8 := hide (Below.trans (unhide HQ7) ((unhide HP7).2.below (unhide HQ7).size (fun k hk => by omega)))
          clear hz
          refine hK.out _ _ (unhide HS3 _ (unhide HQ7)) (fun hHeld17 => ?_)
          clear hK
          clear iA iB iC hvx
          refine wpAnyH_take (i := 11) (v := ?_) rfl (by kernel_rfl) (by kernel_rfl) (by kernel_rfl) (fun _ _ _ h => h) (Or.inl ⟨by rfl, ?_⟩) (by assumption) ?_
          rotate_left
          · (intro w' hSw; (try dsimp only at hSw); go_simp; try with_reducible rfl)
          refine wpAnyH_take (i := 12) (v := ?_) rfl (by kernel_rfl) (by kernel_rfl) (by kernel_rfl) (fun _ _ _ h => h) (Or.inl ⟨by rfl, ?_⟩) (by assumption) ?_
          rotate_left
          · (intro w' hSw; (try dsimp only at hSw); go_simp; try with_reducible rfl)
          refine wpAnyH_take (i := 13) (v := ?_) rfl (by kernel_rfl) (by kernel_rfl) (by kernel_rfl) (fun _ _ _ h => h) (Or.inl ⟨by rfl, ?_⟩) (by assumption) ?_
          rotate_left
          · (intro w' hSw; (try dsimp only at hSw); go_simp; try with_reducible rfl)
          refine wpAnyH_ready (rs := [15]) (by kernel_rfl) (by simp) ?_
          refine AllReadyH.cons rfl (fun K hK => ?_) AllReadyH.nil
          go_simp
          refine hK.out _ _ (unhide HS3 _ (unhide HQ8)) (fun hHeld18 => ?_)
          clear hK
          refine wpAnyH_take (i := 16) (v := ?_) rfl (by kernel_rfl) (by kernel_rfl) (by kernel_rfl) (fun _ _ _ h => h) (Or.inl ⟨by rfl, ?_⟩) (by assumption) ?_
          rotate_left
          · (intro w' hSw; (try dsimp only at hSw); go_simp; try with_reducible rfl)
          refine wpAnyH_done (by kernel_rfl) ?_ _
          go_wp2_with fail
          go_meet
          case rel => exact ⟨vu3.heap.size, rfl, rfl, unhide HQ8⟩
      case rest =>
        obtain ⟨M4, rfl, rfl, HQ7⟩ := hcut
        rename World => u4
        clear s0 s1 sA0 sA1 sB0 sB1 HS3 HPG5 HPG hb1 iA iB iC j0 j1 HCV hvx hj2
        replace HQW := hide ((unhide HQW).trans (unhide HQ7))
        replace HB2 := hide ((unhide HB2).q (unhide HQ7))
        replace HDG := hide ((unhide HDG).q (unhide HQ7))
        replace HGB := hide ((unhide HGB).q (unhide HQ7))
        replace HOS := hide ((unhide HOS).q (unhide HQ7))
        replace HM1 := hide ((unhide HM1).q (unhide HQ7))
        replace HM2 := hide ((unhide HM2).q (unhide HQ7))
        replace HM3 := hide ((unhide HM3).q (unhide HQ7))
        have ld0 : u4.cell? ⟨(GF + 1), 0, none⟩ = some (.int .i64 5) := (unhide HDG).cell 0 rfl
        have ld1 : u4.cell? ⟨(GF + 1), 1, none⟩ = some (.slice (some ⟨GF, 0, none⟩) 2 2) := (unhide HDG).cell 1 rfl
        go_wp2_with fail
        clear ld0 ld1
        refine (unhide HRG1 u4 (unhide HQW)).mono ?_
        rintro e u5 ⟨p5, c5, rfl, own5, q5⟩
        clear own5
        have qa := (Q.refl u5).alloc (.cells #[.int .i64 0, .slice p5 0 c5] 27)
        have HM5 : Hid (Blk (u5.alloc (.cells #[.int .i64 0, .slice p5 0 c5] 27)) u5.heap.size #[.int .i64 0, .slice p5 0 c5] 27) := Blk.new u5 _ _
        replace HQW := hide ((unhide HQW).trans (q5.trans qa))
        replace HB2 := hide ((unhide HB2).q (q5.trans qa))
        replace HDG := hide ((unhide HDG).q (q5.trans qa))
        replace HGB := hide ((unhide HGB).q (q5.trans qa))
        replace HOS := hide ((unhide HOS).q (q5.trans qa))
        replace HM1 := hide ((unhide HM1).q (q5.trans qa))
        replace HM2 := hide ((unhide HM2).q (q5.trans qa))
        replace HM3 := hide ((unhide HM3).q (q5.trans qa))
        clear q5 qa
        generalize hgM5 : u5.heap.size = M5 at *
        have ld0 : (u5.alloc (.cells #[.int .i64 0, .slice p5 0 c5] 27)).cell? ⟨(GF + 1), 0, none⟩ = some (.int .i64 5) := (unhide HDG).cell 0 rfl
        have ld1 : (u5.alloc (.cells #[.int .i64 0, .slice p5 0 c5] 27)).cell? ⟨(GF + 1), 1, none⟩ = some (.slice (some ⟨GF, 0, none⟩) 2 2) := (unhide HDG).cell 1 rfl
        go_wp2_with fail
        generalize (u5.alloc (.cells #[.int .i64 0, .slice p5 0 c5] 27)) = vu5 at *
        clear ld0 ld1
        refine (unhide HRG2 vu5 (unhide HQW)).mono ?_
        rintro e u6 ⟨p6, c6, rfl, own6, q6⟩
        clear own6
        have qa := q6.trans ((Q.refl u6).alloc (.cells #[.int .i64 0, .slice p6 0 c6] 27))
        replace HQW := hide ((unhide HQW).trans qa)
        replace HB2 := hide ((unhide HB2).q qa)
        replace HDG := hide ((unhide HDG).q qa)
        replace HGB := hide ((unhide HGB).q qa)
        replace HOS := hide ((unhide HOS).q qa)
        replace HM1 := hide ((unhide HM1).q qa)
        replace HM2 := hide ((unhide HM2).q qa)
        replace HM3 := hide ((unhide HM3).q qa)
        replace HM5 := hide ((unhide HM5).q qa)
        clear qa q6
        have hd6 := unhide HDG
        have x0 := hd6.cell 0 rfl
        have f0 := hd6.frz 0
        have fr6 := Fr.set (u6.alloc (.cells #[.int .i64 0, .slice p6 0 c6] 27)) (GF + 1) 0 (.int .i64 1048576)
        have hd7 : Blk ((u6.alloc (.cells #[.int .i64 0, .slice p6 0 c6] 27)).setCell ⟨GF + 1, 0, none⟩ (.int .i64 1048576)) (GF + 1) #[.int .i64 1048576, .slice (some ⟨GF, 0, none⟩) 2 2] 27 := hd6.set 0 _
        have y0 := hd7.cell 0 rfl
        have y1 := hd7.cell 1 rfl
        have HD7 := hide hd7
        have HB7 := hide ((unhide HB2).fr fr6 (fun e => by have h1 := unhide HNB; have h2 := unhide HGF; omega))
        have HG7 := hide ((unhide HGB).fr fr6 (fun e => by omega))
        have HO7 := hide (own_fr (unhide HOS).h fr6 (fun k hk hk2 => by have h1 := ((unhide HOS).h.lt k hk).1; have h2 := unhide HGF; omega))
        have HQ8 := hide (Below.trans ((unhide HQd).trans (unhide HQW)) (fr6.below ((unhide HQd).trans (unhide HQW)).size (fun k hk => by rw [hk]; exact Nat.le_succ_of_le (unhide HGW))))
        clear hd6 hd7 fr6 HB2 HGB HOS HDG HQW
        go_wp2_with fail
        generalize (u6.alloc (.cells #[.int .i64 0, .slice p6 0 c6] 27)).setCell ⟨GF + 1, 0, none⟩ (.int .i64 1048576) = u7 at *
        clear x0 f0 y0 y1
        refine (put_any' 1048576 gsK (some ⟨GF, 0, none⟩) 2 ⟨#[97]⟩ 1 u7 gs_p (rowB fv_len (unhide HG7) gsK rfl) (unhide HGZ) (Nat.le_refl 2) (by decide) (show 1 ≤ maxLen by decide)).mono ?_
        rintro e u8 ⟨p8, c8, rfl, own8, q8⟩
        clear own8
        have qb := q8.trans ((Q.refl u8).alloc (.cells #[.int .i64 0, .slice p8 0 c8] 27))
        have HD8 := hide ((unhide HD7).q qb)
        have HB8 := hide ((unhide HB7).q qb)
        have HG8 := hide ((unhide HG7).q qb)
        have HO8 := hide (own_q (unhide HO7) qb)
        have HQ9 := hide (Q.trans (show Q w u7 from unhide HQ8) qb)
        have y0 := (unhide HD8).cell 0 rfl
        have y1 := (unhide HD8).cell 1 rfl
        clear qb q8 HD7 HB7 HG7 HO7
        go_wp2_with fail
        generalize u8.alloc (.cells #[.int .i64 0, .slice p8 0 c8] 27) = u9 at *
        refine (may_litK 1048576 gsK (some ⟨GF, 0, none⟩) 2 u9 gs_may (rowB fv_len (unhide HG8) gsK rfl) (unhide HGZ) (Nat.le_refl 2) (by decide)).mono ?_
        rintro e ua ⟨rfl, qa⟩
        have HBa := hide ((unhide HB8).q qa)
        have b0 := (unhide HBa).cell 0 rfl
        have b1 := (unhide HBa).cell 1 rfl
        have HOa := hide (own_q (unhide HO8) qa)
        clear y0 y1
        go_wp2_with fail
        refine (unhide HMB ua (OwnK.row (unhide HOa))).mono ?_
        rintro e ub ⟨rfl, qb⟩
        have HQb := hide ((unhide HQ9).trans (qa.trans qb))
        clear b0 b1 qa qb
        go_wp2_with (go_at_call 9; refine (num_any _ _).mono ?_; rintro e w' ⟨rfl, hw'⟩; have hw2 := hw'.symm; clear hw'; subst hw2)
        go_ret
        exact ⟨rfl, unhide HQb⟩
theorem diskForms_any (a : Int) (_ : Lit.wf (.int .i64 a) = true) (b : Int) (_ : Lit.wf (.int .i64 b) = true) (w : World) :
    Calls Tryd.prog 3 #[.int .i64 a, .int .i64 b] w fun e w' => e = .returned (.bool true) ∧ Q w w' := diskForms_all a b w

set_option maxRecDepth 100000 in
theorem diskForms_lifted (os : Os) (started : os.Started) (H : Type) (enc : TypeId × Value → H) :
    ReturnsInHanded {} Tryd.checked os 3 .any (fun w args => (Rows.diskFormsSpec.pre enc Tryd.prog Tryd.f3 [] false w args ∧ laidMetH Tryd.prog Rows.diskFormsRow.laid w) ∧ sizedMet enc Tryd.prog Tryd.f3 (OpenSpec.ofChange Rows.diskFormsSpec) false w args) (Rows.diskFormsSpec.post enc Tryd.prog Tryd.f3 false true false false) := by
  refine returnsInHanded_of_change_and (C := Tryd.checked) (X := fun w _ => laidMetH Tryd.prog Rows.diskFormsRow.laid w) (fun _ _ _ hh h => h.of_heap hh) Tryd.own started (by kernel_rfl) Tryd.func3
    (ChangeSpec.witness_shaped (enc := enc) (C := Tryd.checked) (os := os) (X := fun w _ => laidMetH Tryd.prog Rows.diskFormsRow.laid w) false (World.laidAll Tryd.prog os Rows.diskFormsRow.laid) #[.int .i64 0, .int .i64 0] 8 (World.laidAll_os _ _ _)
      (World.shaped_of_ZipB (by kernel_rfl) (by kernel_rfl)) (by kernel_rfl) (by kernel_rfl) (by kernel_rfl)
      (by rw [MakeChecks.laidMetH_plain _ _ _ (by kernel_rfl)]; exact laidMet_laidAll _ (by kernel_rfl) (by kernel_rfl))) ?_
  intro W base args ds gs before hval0 hW _ hsz0 hL _
  have hval : ∀ (j : Nat) t v, Tryd.f3.params[j]? = some t → args[j]? = some v → Value.okWide Tryd.prog W .any base t v := hval0
  have hW' := hW
  obtain ⟨p, q, hA0, hV, rfl, hfz, hnd⟩ := hW
  have hA : DataW.TrodAll enc Tryd.prog W 0 (fun _ => true) true Tryd.f3.params.toList args.toList ds p := hA0
  rw [Tryd.params3] at hA hval
  obtain ⟨v0, vs0, d0, ds0, p0, q0, hargs, rfl, rfl, h0, r0⟩ := trodAll_cons hA
  obtain ⟨v1, vs1, d1, ds1, p1, q1, rfl, rfl, rfl, h1, r1⟩ := trodAll_cons r0
  obtain ⟨rfl, rfl, rfl⟩ := trodAll_nil r1
  obtain rfl : args = #[v0, v1] := by cases args; simp_all
  obtain ⟨rfl, rfl⟩ := trodVars_none hV
  obtain ⟨a0, rfl, rfl, rfl, w0⟩ := open_int Tryd.underlying3 (hval 0 3 v0 rfl rfl) h0
  obtain ⟨a1, rfl, rfl, rfl, w1⟩ := open_int Tryd.underlying3 (hval 1 3 v1 rfl rfl) h1
  clear hA0 hval0
  simp only [List.append_nil] at hW'
  refine (diskForms_any a0 w0 a1 w1 W).mono fun e W' ⟨he, bel⟩ => ?_
  subst he
  exact ⟨_, rfl, _, _, _, [], [], [], hW', trodAll_mk1 (shut_bool Tryd.underlying4 _), (trodAll_cons_mk (shut_int Tryd.underlying3 w0) (trodAll_cons_mk (shut_int Tryd.underlying3 w1) trodAll_mk0)), rfl, bel.frame _, fun h => by cases h⟩

theorem diskForms_holds : Rows.DiskFormsSaid :=
  OpenClaim.holds_of_wide 3 Tryd.f3 rfl rfl rfl rfl rfl rfl rfl ⟨rfl, rfl, rfl, rfl, rfl⟩ rfl rfl rfl rfl rfl (by kernel_rfl) Tryd.func3 (by kernel_rfl)
    (of_decide_eq_true (by kernel_rfl)) (by unfold Func.isWrapper; first | (rw [if_pos (by decide +kernel)]; kernel_rfl) | (rw [if_neg (by decide +kernel)]; exact ⟨rfl, rfl⟩))
    (fun os started H enc _ => diskForms_lifted os started H enc)
theorem diskForms_card : Rows.DiskFormsCardSaid :=
  Claim7.holds_tied_plain_at .later [] [.data, .pinned] true (true, "307cac763e20cdc10c5ffc21cc35ca4585baaaa6c3705583fa9dd6be4929962f") false diskForms_holds (fun _ h => by cases h) (by kernel_rfl) (fun _ h => by cases h) diskForms_row_tie rfl ⟨rfl, rfl⟩ (by kernel_rfl) rfl
    (fun f fn hf hfn => by
      obtain rfl : f = 3 := Option.some.inj ((show Tryd.prog.funcNamed Rows.diskFormsRow.func = some 3 by kernel_rfl).symm.trans hf) |>.symm
      obtain rfl : fn = Tryd.f3 := (Option.some.inj (Tryd.func3.symm.trans hfn)).symm
      exact ⟨by kernel_rfl, fun j t ht => by
        rw [Tryd.params3] at ht
        have hm : t ∈ [3, 3] := by simpa using Array.mem_of_getElem? ht
        have hall : ([3, 3].all fun u => !Tryd.prog.wantsStandIn u) = true := by kernel_rfl
        exact (show Tryd.prog.wantsStandIn t = false by simpa using List.all_eq_true.1 hall t hm)⟩)
    (by kernel_rfl)
#print axioms diskForms_card

end Go.Proofs.YthhlbgfjldmbbaaDoor
