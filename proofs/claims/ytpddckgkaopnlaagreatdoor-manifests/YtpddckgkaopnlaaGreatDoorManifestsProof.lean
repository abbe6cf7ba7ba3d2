/- Manifests, whole: for every text the parsed graph is the document's own, and what is written over it afterwards reaches nothing else; no conditions. -/
import Derived.Test.YtpddckgkaopnlaaGreatDoorRows
import Derived.Test.YtpddckgkaopnlaaGreatDoorCards
import Derived.Test.YtpddckgkaopnlaaGreatDoorTie
import Derived.LaidMore
import Derived.Lay
import Derived.SevenTiedAt
import Derived.Stop.Joined
import Derived.ProofKit
import Derived.OpenShut
import Derived.ShutString
import Derived.ChangeOld
import Derived.Below
import Derived.SizedLaws
import Derived.Test.YtpddckgkaopnlaaGreatDoorMfAwake
import Derived.Test.YtpddckgkaopnlaaGreatDoorBnMfFields
import Derived.Test.YtpddckgkaopnlaaGreatDoorBnMfSame
import Derived.Test.YtpddckgkaopnlaaGreatDoorRpParse
namespace Go.Proofs.YtpddckgkaopnlaaGreatDoor
open Go.ChangeShapes Go.WideShapes Go.ChangeAt Go.RowKit
open Go.ChangeMaps (open_string shut_string)

theorem path_len {x : Tx} (h : cleanL x = some x) : x.length ≤ 16 := by
  unfold cleanL at h
  split at h
  · rename_i hc
    have := hc.1
    unfold mayL at this
    simp at this
    omega
  · cases h
theorem paths_t {ws : Ws} (h : PathsL ws) : ws.length ≤ 4096 ∧ ∀ p ∈ ws, p.length ≤ 4096 := ⟨by have := h.1; omega, fun p hp => by have := path_len (h.2 p hp); omega⟩
theorem gm_edt {g : Gr} (h : GrMay g) : ∀ e ∈ g.1, EdT e := fun e he => ⟨paths_t (h.e e he).b.o, paths_t (h.e e he).b.i, paths_t (h.e e he).b.m, paths_t (h.e e he).b.d, by have := (h.e e he).c2; omega⟩
theorem gm_all (l : Tx) : (∀ e ∈ (mfG l).1, EdT e) ∧ (mfG l).1.length ≤ 16 ∧ ∀ p ∈ (mfG l).2.2, p.length ≤ 4096 := by
  unfold mfG
  cases h : mfL l with
  | ok g => exact ⟨gm_edt (mf_may h), (mf_may h).le, (paths_t (mf_may h).d).2⟩
  | error n => exact ⟨fun e he => (by cases he), (by show gr0.1.length ≤ 16; decide), fun p hp => (by cases hp)⟩

set_option maxRecDepth 20000 in
set_option maxHeartbeats 8000000 in
theorem manifests_any (s : ByteArray) (hs : s.size ≤ maxLen) (w : World) (htab : TabB w.heap.size w) :
    Calls Tryz.prog 3 #[.string s] w fun e w' => e = .returned (.bool true) ∧ Q w w' := by
  have HT := hide htab
  clear htab
  have HGS := hide (mf_s (bl s))
  have HGT := hide (gm_all (bl s))
  have HP := hide (fun w (ht : TabB w.heap.size w) => parse_gm (g := mfG (bl s)) (n := mfE (bl s)) s w ht hs ⟨rfl, rfl⟩)
  have HR : Hid (∀ w, Calls Tryz.prog 5 #[.string s] w fun e w' => ∃ (es : List EdA) (eo po dd : Option Addr) (ec pc dc : Nat), e = .returned (.tuple #[.agg #[.slice eo es.length ec, .slice po (mfG (bl s)).2.1.length pc, .slice dd (mfG (bl s)).2.2.length dc], .int .i64 (mfE (bl s))]) ∧ GrR w' (mfG (bl s)) es eo po dd ∧ Q w w') := fun w => rparse_any s w hs
  generalize mfG (bl s) = g at *
  generalize mfE (bl s) = n at *
  have hq : eqGr g g = true := (eqGr_iff g g).2 rfl
  go_enter Tryz.func3, Tryz.ntmps3
  go_wp2_with fail
  refine (unhide HP _ (unhide HT)).mono ?_
  rintro e w1 ⟨es, eo, po, dd, ec, pc, dc, rfl, hm, _, q1⟩
  have HB1 : Hid (Blk (w1.alloc (.cells #[.slice eo es.length ec, .slice po g.2.1.length pc, .slice dd g.2.2.length dc] 26)) w1.heap.size #[.slice eo es.length ec, .slice po g.2.1.length pc, .slice dd g.2.2.length dc] 26) := Blk.new w1 _ _
  have qa := (Q.refl w1).alloc (.cells #[.slice eo es.length ec, .slice po g.2.1.length pc, .slice dd g.2.2.length dc] 26)
  have HM : Hid (GrM w.heap.size (w1.alloc (.cells #[.slice eo es.length ec, .slice po g.2.1.length pc, .slice dd g.2.2.length dc] 26)) g es eo po dd ec pc dc) := hm.fr (Fr.of_q (P := fun _ => False) qa) (fun _ _ h => h)
  have HQ1 := hide (q1.trans qa)
  clear hm q1 qa
  go_wp2_with fail
  generalize (w1.alloc (.cells #[.slice eo es.length ec, .slice po g.2.1.length pc, .slice dd g.2.2.length dc] 26)) = v1 at *
  generalize hG1 : w1.heap.size = G1 at *
  clear hG1
  refine (unhide HR _).mono ?_
  rintro e w2 ⟨fs, fo, qo, ddd, fc, qc, ddc, rfl, hr, q2⟩
  have HB2 : Hid (Blk (w2.alloc (.cells #[.slice fo fs.length fc, .slice qo g.2.1.length qc, .slice ddd g.2.2.length ddc] 26)) w2.heap.size #[.slice fo fs.length fc, .slice qo g.2.1.length qc, .slice ddd g.2.2.length ddc] 26) := Blk.new w2 _ _
  have qb := (Q.refl w2).alloc (.cells #[.slice fo fs.length fc, .slice qo g.2.1.length qc, .slice ddd g.2.2.length ddc] 26)
  have HRR := hide (hr.q' qb)
  have HM2 := hide ((unhide HM).fr (Fr.of_q (P := fun _ => False) (q2.trans qb)) (fun _ _ h => h))
  have HB1' := hide ((unhide HB1).q (q2.trans qb))
  have HQ2 := hide ((unhide HQ1).trans (q2.trans qb))
  have c0 := (unhide HB1').cell 0 rfl
  have c1 := (unhide HB1').cell 1 rfl
  have c2 := (unhide HB1').cell 2 rfl
  have d0 := (unhide HB2).cell 0 rfl
  have d1 := (unhide HB2).cell 1 rfl
  have d2 := (unhide HB2).cell 2 rfl
  clear hr q2 qb
  go_wp2_with fail
  generalize (w2.alloc (.cells #[.slice fo fs.length fc, .slice qo g.2.1.length qc, .slice ddd g.2.2.length ddc] 26)) = v2 at *
  clear c0 c1 c2 d0 d1 d2
  have HSG := hide (sameG_any g g es fs eo po dd fo qo ddd ec pc dc fc qc ddc v2 ((unhide HM2).rd (unhide HGS)) (unhide HRR))
  rw [hq] at HSG
  refine (unhide HSG).mono ?_
  rintro e w3 ⟨rfl, q3⟩
  have HM3 := hide ((unhide HM2).fr (Fr.of_q (P := fun _ => False) q3) (fun _ _ h => h))
  have HQ3 := hide ((unhide HQ2).trans q3)
  have HB3 := hide ((unhide HB1').q q3)
  have c0 := (unhide HB3).cell 0 rfl
  have c1 := (unhide HB3).cell 1 rfl
  have c2 := (unhide HB3).cell 2 rfl
  clear q3 hq
  go_wp2_with (go_at_call 7; refine (num_any _ _).mono ?_; rintro e w' ⟨rfl, hw'⟩; have hw2 := hw'.symm; clear hw'; subst hw2)
  clear c0 c1 c2
  have hem : ∀ x ∈ es, EdT x.1 := fun x hx => (unhide HGT).1 x.1 (by rw [← (unhide HM3).em]; exact List.mem_map_of_mem hx)
  have hel : es.length ≤ 16 := by have h := (unhide HM3).em; have h2 := congrArg List.length h; rw [List.length_map] at h2; rw [h2]; exact (unhide HGT).2.1
  refine (spoilG_any w.heap.size g es eo po dd ec pc dc w3 (unhide HM3) hel hem (unhide HGS).lp ⟨(unhide HGS).ld, (unhide HGT).2.2⟩ (unhide HQ3).size).mono ?_
  rintro e w4 ⟨rfl, b4⟩
  have HQ4 := hide (Below.trans (unhide HQ3) b4)
  clear b4
  go_wp2_with fail
  refine (mfawake_any _ ((unhide HT).q (unhide HQ4))).mono ?_
  rintro e w5 ⟨rfl, q5⟩
  have HQ5 := hide (Q.trans (show Q w w4 from unhide HQ4) q5)
  go_wp2_with fail
  go_ret
  exact ⟨rfl, unhide HQ5⟩

set_option maxRecDepth 100000 in
theorem manifests_lifted (os : Os) (started : os.Started) (H : Type) (enc : TypeId × Value → H) :
    ReturnsInHanded {} Tryz.checked os 3 .any (fun w args => (Rows.manifestsSpec.pre enc Tryz.prog Tryz.f3 [] false w args ∧ laidMetH Tryz.prog Rows.manifestsRow.laid w) ∧ sizedMet enc Tryz.prog Tryz.f3 (OpenSpec.ofChange Rows.manifestsSpec) false w args) (Rows.manifestsSpec.post enc Tryz.prog Tryz.f3 false true false false) := by
  refine returnsInHanded_of_change_and (C := Tryz.checked) (X := fun w _ => laidMetH Tryz.prog Rows.manifestsRow.laid w) (fun _ _ _ hh h => h.of_heap hh) Tryz.own started (by kernel_rfl) Tryz.func3
    (ChangeSpec.witness_shaped (enc := enc) (C := Tryz.checked) (os := os) (X := fun w _ => laidMetH Tryz.prog Rows.manifestsRow.laid w) false (World.laidAll Tryz.prog os Rows.manifestsRow.laid) #[.string ByteArray.empty] 8 (World.laidAll_os _ _ _)
      (World.shaped_of_ZipB (by kernel_rfl) (by kernel_rfl)) (by kernel_rfl) (by kernel_rfl) (by kernel_rfl)
      (by rw [MakeChecks.laidMetH_plain _ _ _ (by kernel_rfl)]; exact laidMet_laidAll _ (by kernel_rfl) (by kernel_rfl))) ?_
  intro W base args ds gs before hval0 hW _ hsz0 hL _
  have hval : ∀ (j : Nat) t v, Tryz.f3.params[j]? = some t → args[j]? = some v → Value.okWide Tryz.prog W .any base t v := hval0
  have hW' := hW
  obtain ⟨p, q, hA0, hV, rfl, hfz, hnd⟩ := hW
  have hA : DataW.TrodAll enc Tryz.prog W 0 (fun _ => true) true Tryz.f3.params.toList args.toList ds p := hA0
  rw [Tryz.params3] at hA hval
  obtain ⟨v0, vs0, d0, ds0, p0, q0, hargs, rfl, rfl, h0, r0⟩ := trodAll_cons hA
  obtain ⟨rfl, rfl, rfl⟩ := trodAll_nil r0
  obtain rfl : args = #[v0] := by cases args; simp_all
  obtain ⟨rfl, rfl⟩ := trodVars_none hV
  obtain ⟨a0, rfl, rfl, rfl, w0⟩ := open_string Tryz.underlying9 (hval 0 9 v0 rfl rfl) h0
  clear hA0 hval0
  simp only [List.append_nil] at hW'
  refine (manifests_any a0 w0 W (tab_of_laid (laid := Rows.manifestsRow.laid) (by kernel_rfl) hL)).mono fun e W' ⟨he, bel⟩ => ?_
  subst he
  exact ⟨_, rfl, _, _, _, [], [], [], hW', trodAll_mk1 (shut_bool Tryz.underlying4 _), (trodAll_cons_mk (shut_string Tryz.underlying9 w0) trodAll_mk0), rfl, bel.frame _, fun h => by cases h⟩

theorem manifests_holds : Rows.ManifestsSaid :=
  OpenClaim.holds_of_wide 3 Tryz.f3 rfl rfl rfl rfl rfl rfl rfl ⟨rfl, rfl, rfl, rfl, rfl⟩ rfl rfl rfl rfl rfl (by kernel_rfl) Tryz.func3 (by kernel_rfl)
    (of_decide_eq_true (by kernel_rfl)) (by unfold Func.isWrapper; first | (rw [if_pos (by decide +kernel)]; kernel_rfl) | (rw [if_neg (by decide +kernel)]; exact ⟨rfl, rfl⟩))
    (fun os started H enc _ => manifests_lifted os started H enc)
theorem manifests_card : Rows.ManifestsCardSaid :=
  Claim7.holds_tied_plain_at .later [] [.data, .listed, .data, .pinned] true (true, "7bb8d73b06d483d334e8817f3f68ea038a8650c36bcb49bbb13852b22d951594") false manifests_holds (fun _ h => by cases h) (by kernel_rfl) (fun _ h => by cases h) manifests_row_tie rfl ⟨rfl, rfl⟩ (by kernel_rfl) rfl
    (fun f fn hf hfn => by
      obtain rfl : f = 3 := Option.some.inj ((show Tryz.prog.funcNamed Rows.manifestsRow.func = some 3 by kernel_rfl).symm.trans hf) |>.symm
      obtain rfl : fn = Tryz.f3 := (Option.some.inj (Tryz.func3.symm.trans hfn)).symm
      exact ⟨by kernel_rfl, fun j t ht => by
        rw [Tryz.params3] at ht
        have hm : t ∈ [9] := by simpa using Array.mem_of_getElem? ht
        have hall : ([9].all fun u => !Tryz.prog.wantsStandIn u) = true := by kernel_rfl
        exact (show Tryz.prog.wantsStandIn t = false by simpa using List.all_eq_true.1 hall t hm)⟩)
    (by kernel_rfl)
#print axioms manifests_card
end Go.Proofs.YtpddckgkaopnlaaGreatDoor
