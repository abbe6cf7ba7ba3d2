/- SignForms, whole: edges that may not be are refused, whatever the numbers; no conditions. -/
import Derived.Test.YtbfhliocckkbmaaDoorRows
import Derived.Test.YtbfhliocckkbmaaDoorCards
import Derived.Test.YtbfhliocckkbmaaDoorTie
import Derived.LaidMore
import Derived.Lay
import Derived.SevenTiedAt
import Derived.Stop.Joined
import Derived.ProofKit
import Derived.OpenShut
import Derived.ShutString
import Derived.ChangeOld
import Derived.Below
import Derived.SizedLaws
import Derived.Test.YtbfhliocckkbmaaDoorSgOpen
import Derived.Test.YtbfhliocckkbmaaDoorBitPlain
import Derived.Test.YtbfhliocckkbmaaDoorZrText
namespace Go.Proofs.YtbfhliocckkbmaaDoor
open Go.ChangeShapes Go.WideShapes Go.ChangeAt Go.RowKit

/-- The edge that is turned, its first row ahead of it, one block more behind it. -/
def sfL (Y : EdA) (ex : List (Array Value × TypeId)) : List (Array Value × TypeId) := (#[.string ⟨#[120]⟩], 9) :: ((ev Y).toArray, 24) :: ex
theorem sf_of (w : World) (ex : List (Array Value × TypeId)) (Y : EdA)
    (hr : ∀ W, Blk W w.heap.size #[.string ⟨#[120]⟩] 9 → (∀ j x, ex[j]? = some x → Blk W (w.heap.size + (j + 2)) x.1 x.2) → EdRd W Y) (hz : EdZ Y.1) (hc : EdC Y) (hok : edOk Y.1 = false) :
    Q w (al w (sfL Y ex)) ∧ Calls Tryd.prog 8 #[edV' Y] (al w (sfL Y ex)) fun e w' => e = .returned (.tuple #[.string ⟨#[]⟩, .int .i64 1100]) ∧ Q (al w (sfL Y ex)) w' := by
  have hb := fun j x hx => al_blk (sfL Y ex) w j x hx
  have b0 : Blk (al w (sfL Y ex)) w.heap.size #[.string ⟨#[120]⟩] 9 := hb 0 _ rfl
  have hrd := hr (al w (sfL Y ex)) b0 (fun j x hx => hb (j + 2) x (by unfold sfL; simpa using hx))
  have hs := sgOf_any Y _ hrd hz hc
  obtain ⟨t1, t2⟩ := sg_no hok
  rw [t1, t2] at hs
  exact ⟨al_q _ w, hs⟩
def sf0 (_ : Nat) : EdA := (([], [], [], [], [99, 99], false, []), (none, 0), (none, 0), (none, 0), (none, 0))
def sf1 (n : Nat) : EdA := (([[46, 46, 47, 120]], [], [], [], [99, 99], false, []), (at0 (n + 1 + 1), 1), (none, 0), (none, 0), (none, 0))
def sf2 (n : Nat) : EdA := (([[120]], [[65]], [], [], [99, 99], false, []), (at0 n, 1), (at0 (n + 1 + 1), 1), (none, 0), (none, 0))
def sf3 (n : Nat) : EdA := (([[120]], [], [[]], [], [99, 99], false, []), (at0 n, 1), (none, 0), (at0 (n + 1 + 1), 1), (none, 0))
def sf4 (n : Nat) : EdA := (([[120]], [], [], [[46, 47, 120]], [99, 99], false, []), (at0 n, 1), (none, 0), (none, 0), (at0 (n + 1 + 1), 1))
def sf5 (n : Nat) : EdA := (([[120]], [], [], [], [], false, []), (at0 n, 1), (none, 0), (none, 0), (none, 0))
def sf6 (n d : Nat) : EdA := (([[120]], [], [], [], List.replicate (257 + d) 0, false, []), (at0 n, 1), (none, 0), (none, 0), (none, 0))
def sf7 (n : Nat) : EdA := (([[120]], [], [], [], [99, 99], false, [65]), (at0 n, 1), (none, 0), (none, 0), (none, 0))
theorem sf_one (w : World) (n : Nat) {t : TypeId} {cs : Array Value} {ex : List (Array Value × TypeId)} (h : ∀ j x, ex[j]? = some x → Blk w (n + (j + 2)) x.1 x.2) (he : ex[0]? = some (cs, t)) : Blk w (n + 1 + 1) cs t := h 0 _ he
theorem sf_ed {Y : EdA} (h : edzB Y.1 = true) : EdZ Y.1 := edz_of h
theorem sf6_no (n d : Nat) : edOk (sf6 n d).1 = false := by
  have h1 : cmB (sf6 n d).1.2.2.2.2.1 = false := by
    show cmB (List.replicate (257 + d) 0) = false
    unfold cmB
    rw [List.length_replicate, decide_eq_false (show ¬ 257 + d ≤ 256 by omega), Bool.and_false]
  unfold edOk; rw [h1]; simp
theorem sf6_z (n d : Nat) (h : d < 128) : EdZ (sf6 n d).1 :=
  ⟨wsz_of (ws := [[120]]) (by decide +kernel), wsz_of (ws := []) (by decide +kernel), wsz_of (ws := []) (by decide +kernel), wsz_of (ws := []) (by decide +kernel), by show (List.replicate (257 + d) (0 : UInt8)).length ≤ maxLen; rw [List.length_replicate]; unfold maxLen; omega, by show (0 : Nat) ≤ _; decide⟩

set_option maxRecDepth 20000 in
set_option maxHeartbeats 8000000 in
theorem signForms_any (a : Int) (_ : (Lit.int .i64 a).wf = true) (b : Int) (_ : (Lit.int .i64 b).wf = true) (w : World) :
    Calls Tryd.prog 4 #[.int .i64 a, .int .i64 b] w fun e w' => e = .returned (.bool true) ∧ Q w w' := by
  have h7 := and7 a
  have h127 := and127 b
  obtain ⟨r, hr⟩ : ∃ r : Nat, a % 8 = (r : Int) := ⟨(a % 8).toNat, by omega⟩
  have hr8 : r < 8 := by omega
  obtain ⟨d, hd⟩ : ∃ d : Nat, b % 128 = (d : Int) := ⟨(b % 128).toNat, by omega⟩
  have hd128 : d < 128 := by omega
  rw [hr] at h7
  rw [hd] at h127
  clear hr hd
  go_enter Tryd.func4, Tryd.ntmps4
  go_wp2_with fail
  refine (sawake_any _).mono ?_
  rintro e w1 ⟨rfl, q1⟩
  have hmk : ∀ w : World, (Instr.makeSlice 35 (.int .i64 (256 + (1 + (d : Int)))) (.int .i64 (256 + (1 + (d : Int))))).run Tryd.prog w = .ok (.slice (some ⟨w.heap.size, 0, none⟩) (257 + d) (257 + d)) (w.alloc (.cells (madeCells #[.int .u8 0] (257 + d)) 5)) := fun w => mk_zeros_at 256 d (by omega) w
  have hst : ∀ o1 o2 : Obj, (convert 35 9 (.slice (some ⟨w1.heap.size + 1 + 1, 0, none⟩) (257 + d) (257 + d))).run Tryd.prog (((w1.alloc o1).alloc o2).alloc (.cells (madeCells #[.int .u8 0] (257 + d)) 5)) = .ok (.string ⟨(List.replicate (257 + d) 0).toArray⟩) (((w1.alloc o1).alloc o2).alloc (.cells (madeCells #[.int .u8 0] (257 + d)) 5)) := by
    intro o1 o2
    have h := str_zeros' (257 + d) ((w1.alloc o1).alloc o2)
    rwa [size_alloc, size_alloc] at h
  obtain rfl | rfl | rfl | rfl | rfl | rfl | rfl | rfl : r = 0 ∨ r = 1 ∨ r = 2 ∨ r = 3 ∨ r = 4 ∨ r = 5 ∨ r = 6 ∨ r = 7 := by omega
  · obtain ⟨q2, hs⟩ := sf_of w1 [] (sf0 w1.heap.size) (fun W h0 h => ⟨Or.inl rfl, Or.inl rfl, Or.inl rfl, Or.inl rfl⟩) (edz_of (by kernel_rfl)) ⟨Nat.le_refl _, Nat.le_refl _, Nat.le_refl _⟩ (by kernel_rfl)
    have HS := hide hs
    have HQ := hide q2
    clear hs q2
    go_wp2_with fail
    change Calls _ _ _ (al w1 (sfL (sf0 w1.heap.size) [])) _
    refine (unhide HS).mono ?_
    rintro e w2 ⟨rfl, q3⟩
    have q := (q1.trans (unhide HQ)).trans q3
    clear HS HQ hmk hst
    go_wp2_with (go_at_call 10; refine (num_any _ _).mono ?_; rintro e w3 ⟨rfl, rfl⟩)
    go_ret
    exact ⟨rfl, q⟩
  · obtain ⟨q2, hs⟩ := sf_of w1 [(#[.string ⟨#[46, 46, 47, 120]⟩], 9)] (sf1 w1.heap.size) (fun W h0 h => ⟨tvR (sf_one W _ h rfl) _ rfl, Or.inl rfl, Or.inl rfl, Or.inl rfl⟩) (edz_of (by kernel_rfl)) ⟨Nat.le_refl _, Nat.le_refl _, Nat.le_refl _⟩ (by kernel_rfl)
    have HS := hide hs
    have HQ := hide q2
    clear hs q2
    go_wp2_with fail
    change Calls _ _ _ (al w1 (sfL (sf1 w1.heap.size) [(#[.string ⟨#[46, 46, 47, 120]⟩], 9)])) _
    refine (unhide HS).mono ?_
    rintro e w2 ⟨rfl, q3⟩
    have q := (q1.trans (unhide HQ)).trans q3
    clear HS HQ hmk hst
    go_wp2_with (go_at_call 10; refine (num_any _ _).mono ?_; rintro e w3 ⟨rfl, rfl⟩)
    go_ret
    exact ⟨rfl, q⟩
  · obtain ⟨q2, hs⟩ := sf_of w1 [(#[.string ⟨#[65]⟩], 9)] (sf2 w1.heap.size) (fun W h0 h => ⟨tvR h0 _ rfl, tvR (sf_one W _ h rfl) _ rfl, Or.inl rfl, Or.inl rfl⟩) (edz_of (by kernel_rfl)) ⟨Nat.le_refl _, Nat.le_refl _, Nat.le_refl _⟩ (by kernel_rfl)
    have HS := hide hs
    have HQ := hide q2
    clear hs q2
    go_wp2_with fail
    change Calls _ _ _ (al w1 (sfL (sf2 w1.heap.size) [(#[.string ⟨#[65]⟩], 9)])) _
    refine (unhide HS).mono ?_
    rintro e w2 ⟨rfl, q3⟩
    have q := (q1.trans (unhide HQ)).trans q3
    clear HS HQ hmk hst
    go_wp2_with (go_at_call 10; refine (num_any _ _).mono ?_; rintro e w3 ⟨rfl, rfl⟩)
    go_ret
    exact ⟨rfl, q⟩
  · obtain ⟨q2, hs⟩ := sf_of w1 [(#[.string ⟨#[]⟩], 9)] (sf3 w1.heap.size) (fun W h0 h => ⟨tvR h0 _ rfl, Or.inl rfl, tvR (sf_one W _ h rfl) _ rfl, Or.inl rfl⟩) (edz_of (by kernel_rfl)) ⟨Nat.le_refl _, Nat.le_refl _, Nat.le_refl _⟩ (by kernel_rfl)
    have HS := hide hs
    have HQ := hide q2
    clear hs q2
    go_wp2_with fail
    change Calls _ _ _ (al w1 (sfL (sf3 w1.heap.size) [(#[.string ⟨#[]⟩], 9)])) _
    refine (unhide HS).mono ?_
    rintro e w2 ⟨rfl, q3⟩
    have q := (q1.trans (unhide HQ)).trans q3
    clear HS HQ hmk hst
    go_wp2_with (go_at_call 10; refine (num_any _ _).mono ?_; rintro e w3 ⟨rfl, rfl⟩)
    go_ret
    exact ⟨rfl, q⟩
  · obtain ⟨q2, hs⟩ := sf_of w1 [(#[.string ⟨#[46, 47, 120]⟩], 9)] (sf4 w1.heap.size) (fun W h0 h => ⟨tvR h0 _ rfl, Or.inl rfl, Or.inl rfl, tvR (sf_one W _ h rfl) _ rfl⟩) (edz_of (by kernel_rfl)) ⟨Nat.le_refl _, Nat.le_refl _, Nat.le_refl _⟩ (by kernel_rfl)
    have HS := hide hs
    have HQ := hide q2
    clear hs q2
    go_wp2_with fail
    change Calls _ _ _ (al w1 (sfL (sf4 w1.heap.size) [(#[.string ⟨#[46, 47, 120]⟩], 9)])) _
    refine (unhide HS).mono ?_
    rintro e w2 ⟨rfl, q3⟩
    have q := (q1.trans (unhide HQ)).trans q3
    clear HS HQ hmk hst
    go_wp2_with (go_at_call 10; refine (num_any _ _).mono ?_; rintro e w3 ⟨rfl, rfl⟩)
    go_ret
    exact ⟨rfl, q⟩
  · obtain ⟨q2, hs⟩ := sf_of w1 [] (sf5 w1.heap.size) (fun W h0 h => ⟨tvR h0 _ rfl, Or.inl rfl, Or.inl rfl, Or.inl rfl⟩) (edz_of (by kernel_rfl)) ⟨Nat.le_refl _, Nat.le_refl _, Nat.le_refl _⟩ (by kernel_rfl)
    have HS := hide hs
    have HQ := hide q2
    clear hs q2
    go_wp2_with fail
    change Calls _ _ _ (al w1 (sfL (sf5 w1.heap.size) [])) _
    refine (unhide HS).mono ?_
    rintro e w2 ⟨rfl, q3⟩
    have q := (q1.trans (unhide HQ)).trans q3
    clear HS HQ hmk hst
    go_wp2_with (go_at_call 10; refine (num_any _ _).mono ?_; rintro e w3 ⟨rfl, rfl⟩)
    go_ret
    exact ⟨rfl, q⟩
  · obtain ⟨q2, hs⟩ := sf_of w1 [(madeCells #[.int .u8 0] (257 + d), 5)] (sf6 w1.heap.size d) (fun W h0 h => ⟨tvR h0 _ rfl, Or.inl rfl, Or.inl rfl, Or.inl rfl⟩) (sf6_z _ d hd128) ⟨Nat.le_refl _, Nat.le_refl _, Nat.le_refl _⟩ (sf6_no _ d)
    have HS := hide hs
    have HQ := hide q2
    clear hs q2
    go_wp2_with fail
    change Calls _ _ _ (al w1 (sfL (sf6 w1.heap.size d) [(madeCells #[.int .u8 0] (257 + d), 5)])) _
    refine (unhide HS).mono ?_
    rintro e w2 ⟨rfl, q3⟩
    have q := (q1.trans (unhide HQ)).trans q3
    clear HS HQ hmk hst
    go_wp2_with (go_at_call 10; refine (num_any _ _).mono ?_; rintro e w3 ⟨rfl, rfl⟩)
    go_ret
    exact ⟨rfl, q⟩
  · obtain ⟨q2, hs⟩ := sf_of w1 [] (sf7 w1.heap.size) (fun W h0 h => ⟨tvR h0 _ rfl, Or.inl rfl, Or.inl rfl, Or.inl rfl⟩) (edz_of (by kernel_rfl)) ⟨Nat.le_refl _, Nat.le_refl _, Nat.le_refl _⟩ (by kernel_rfl)
    have HS := hide hs
    have HQ := hide q2
    clear hs q2
    go_wp2_with fail
    change Calls _ _ _ (al w1 (sfL (sf7 w1.heap.size) [])) _
    refine (unhide HS).mono ?_
    rintro e w2 ⟨rfl, q3⟩
    have q := (q1.trans (unhide HQ)).trans q3
    clear HS HQ hmk hst
    go_wp2_with (go_at_call 10; refine (num_any _ _).mono ?_; rintro e w3 ⟨rfl, rfl⟩)
    go_ret
    exact ⟨rfl, q⟩

set_option maxRecDepth 100000 in
theorem signForms_lifted (os : Os) (started : os.Started) (H : Type) (enc : TypeId × Value → H) :
    ReturnsInHanded {} Tryd.checked os 4 .any (fun w args => (Rows.signFormsSpec.pre enc Tryd.prog Tryd.f4 [] false w args ∧ laidMetH Tryd.prog Rows.signFormsRow.laid w) ∧ sizedMet enc Tryd.prog Tryd.f4 (OpenSpec.ofChange Rows.signFormsSpec) false w args) (Rows.signFormsSpec.post enc Tryd.prog Tryd.f4 false true false false) := by
  refine returnsInHanded_of_change_and (C := Tryd.checked) (X := fun w _ => laidMetH Tryd.prog Rows.signFormsRow.laid w) (fun _ _ _ hh h => h.of_heap hh) Tryd.own started (by kernel_rfl) Tryd.func4
    (ChangeSpec.witness_shaped (enc := enc) (C := Tryd.checked) (os := os) (X := fun w _ => laidMetH Tryd.prog Rows.signFormsRow.laid w) false (World.laidAll Tryd.prog os Rows.signFormsRow.laid) #[.int .i64 0, .int .i64 0] 8 (World.laidAll_os _ _ _)
      (World.shaped_of_ZipB (by kernel_rfl) (by kernel_rfl)) (by kernel_rfl) (by kernel_rfl) (by kernel_rfl)
      (by rw [MakeChecks.laidMetH_plain _ _ _ (by kernel_rfl)]; exact laidMet_laidAll _ (by kernel_rfl) (by kernel_rfl))) ?_
  intro W base args ds gs before hval0 hW _ hsz0 hL _
  have hval : ∀ (j : Nat) t v, Tryd.f4.params[j]? = some t → args[j]? = some v → Value.okWide Tryd.prog W .any base t v := hval0
  have hW' := hW
  obtain ⟨p, q, hA0, hV, rfl, hfz, hnd⟩ := hW
  have hA : DataW.TrodAll enc Tryd.prog W 0 (fun _ => true) true Tryd.f4.params.toList args.toList ds p := hA0
  rw [Tryd.params4] at hA hval
  obtain ⟨v0, vs0, d0, ds0, p0, q0, hargs, rfl, rfl, h0, r0⟩ := trodAll_cons hA
  obtain ⟨v1, vs1, d1, ds1, p1, q1, rfl, rfl, rfl, h1, r1⟩ := trodAll_cons r0
  obtain ⟨rfl, rfl, rfl⟩ := trodAll_nil r1
  obtain rfl : args = #[v0, v1] := by cases args; simp_all
  obtain ⟨rfl, rfl⟩ := trodVars_none hV
  obtain ⟨a0, rfl, rfl, rfl, w0⟩ := open_int Tryd.underlying3 (hval 0 3 v0 rfl rfl) h0
  obtain ⟨a1, rfl, rfl, rfl, w1⟩ := open_int Tryd.underlying3 (hval 1 3 v1 rfl rfl) h1
  clear hA0 hval0
  simp only [List.append_nil] at hW'
  refine (signForms_any a0 w0 a1 w1 W).mono fun e W' ⟨he, bel⟩ => ?_
  subst he
  exact ⟨_, rfl, _, _, _, [], [], [], hW', trodAll_mk1 (shut_bool Tryd.underlying4 _), (trodAll_cons_mk (shut_int Tryd.underlying3 w0) (trodAll_cons_mk (shut_int Tryd.underlying3 w1) trodAll_mk0)), rfl, bel.frame _, fun h => by cases h⟩

theorem signForms_holds : Rows.SignFormsSaid :=
  OpenClaim.holds_of_wide 4 Tryd.f4 rfl rfl rfl rfl rfl rfl rfl ⟨rfl, rfl, rfl, rfl, rfl⟩ rfl rfl rfl rfl rfl (by kernel_rfl) Tryd.func4 (by kernel_rfl)
    (of_decide_eq_true (by kernel_rfl)) (by unfold Func.isWrapper; first | (rw [if_pos (by decide +kernel)]; kernel_rfl) | (rw [if_neg (by decide +kernel)]; exact ⟨rfl, rfl⟩))
    (fun os started H enc _ => signForms_lifted os started H enc)
theorem signForms_card : Rows.SignFormsCardSaid :=
  Claim7.holds_tied_plain_at .later [] [.data, .pinned] true (true, "d4e89a7e85c36141bb06b5297fcb65e899c755e51bbc01a6754520a1fa7ca3c1") false signForms_holds (fun _ h => by cases h) (by kernel_rfl) (fun _ h => by cases h) signForms_row_tie rfl ⟨rfl, rfl⟩ (by kernel_rfl) rfl
    (fun f fn hf hfn => by
      obtain rfl : f = 4 := Option.some.inj ((show Tryd.prog.funcNamed Rows.signFormsRow.func = some 4 by kernel_rfl).symm.trans hf) |>.symm
      obtain rfl : fn = Tryd.f4 := (Option.some.inj (Tryd.func4.symm.trans hfn)).symm
      exact ⟨by kernel_rfl, fun j t ht => by
        rw [Tryd.params4] at ht
        have hm : t ∈ [3, 3] := by simpa using Array.mem_of_getElem? ht
        have hall : ([3, 3].all fun u => !Tryd.prog.wantsStandIn u) = true := by kernel_rfl
        exact (show Tryd.prog.wantsStandIn t = false by simpa using List.all_eq_true.1 hall t hm)⟩)
    (by kernel_rfl)
#print axioms signForms_card

end Go.Proofs.YtbfhliocckkbmaaDoor
