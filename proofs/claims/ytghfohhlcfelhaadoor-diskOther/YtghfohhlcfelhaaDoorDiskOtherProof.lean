/- DiskOther, whole: any disk, any names, any content: a write turns its own file alone, a file taken away leaves the others; no conditions. -/
import Derived.Test.YtghfohhlcfelhaaDoorRows
import Derived.Test.YtghfohhlcfelhaaDoorCards
import Derived.Test.YtghfohhlcfelhaaDoorTie
import Derived.LaidMore
import Derived.Lay
import Derived.SevenTiedAt
import Derived.Stop.Joined
import Derived.ProofKit
import Derived.OpenShut
import Derived.ShutString
import Derived.ChangeOld
import Derived.Below
import Derived.SizedLaws
import Derived.Test.YtghfohhlcfelhaaDoorDkOthA
import Derived.Test.YtghfohhlcfelhaaDoorDkOthB
import Derived.Test.YtghfohhlcfelhaaDoorDkOthC
namespace Go.Proofs.YtghfohhlcfelhaaDoor
open Go.ChangeShapes Go.WideShapes Go.ChangeAt Go.RowKit
open Go.ChangeMaps (open_string shut_string)

theorem diskOther_any (w : World) (c : Int) (fs : List Fl) (ao : Option Addr) (cap : Nat) (hd : IsDk w fs ao cap) (n : ByteArray) (hn : n.size ≤ maxLen) (x : Int) (_ : Lit.wf (.int .i64 x) = true) (o : ByteArray) (_ : o.size ≤ maxLen) :
    Calls Tryd.prog 6 #[dkV c ao fs.length cap, .string n, .int .i64 x, .string o] w fun e w' => e = .returned (.bool true) ∧ Q w w' := by
  by_cases hO : bl o = bl n
  · obtain rfl : o = n := (of_bl rfl : o = ⟨(bl o).toArray⟩).trans ((congrArg (fun l : List UInt8 => (⟨l.toArray⟩ : ByteArray)) hO).trans (of_bl rfl : n = ⟨(bl n).toArray⟩).symm)
    by_cases hP : putE c fs (bl o) (x % 65536) = 0 <;> by_cases hR : remE c fs (bl o) = 0
    · exact other_00s w c fs ao cap hd o hn x hP hR
    · exact other_01s w c fs ao cap hd o hn x hP hR
    · exact other_10s w c fs ao cap hd o hn x hP hR
    · exact other_11s w c fs ao cap hd o hn x hP hR
  · by_cases hP : putE c fs (bl n) (x % 65536) = 0 <;> by_cases hR : remE c fs (bl n) = 0
    · exact other_00d w c fs ao cap hd n hn x o hP hR hO
    · exact other_01d w c fs ao cap hd n hn x o hP hR hO
    · exact other_10d w c fs ao cap hd n hn x o hP hR hO
    · exact other_11d w c fs ao cap hd n hn x o hP hR hO

theorem Tryd.laidOut : laidOutB Tryd.prog = true := by kernel_rfl
set_option maxRecDepth 100000 in
theorem diskOther_lifted (os : Os) (started : os.Started) (H : Type) (enc : TypeId × Value → H) :
    ReturnsInHanded {} Tryd.checked os 6 .any (fun w args => (Rows.diskOtherSpec.pre enc Tryd.prog Tryd.f6 [] false w args ∧ laidMetH Tryd.prog Rows.diskOtherRow.laid w) ∧ sizedMet enc Tryd.prog Tryd.f6 (OpenSpec.ofChange Rows.diskOtherSpec) false w args) (Rows.diskOtherSpec.post enc Tryd.prog Tryd.f6 false true false false) := by
  refine returnsInHanded_of_change_and (C := Tryd.checked) (X := fun w _ => laidMetH Tryd.prog Rows.diskOtherRow.laid w) (fun _ _ _ hh h => h.of_heap hh) Tryd.own started (by kernel_rfl) Tryd.func6
    (ChangeSpec.witness_shaped (enc := enc) (C := Tryd.checked) (os := os) (X := fun w _ => laidMetH Tryd.prog Rows.diskOtherRow.laid w) false (World.laidAll Tryd.prog os Rows.diskOtherRow.laid) #[.agg #[.int .i64 0, .slice none 0 0], .string ByteArray.empty, .int .i64 0, .string ByteArray.empty] 8 (World.laidAll_os _ _ _)
      (World.shaped_of_ZipB (by kernel_rfl) (by kernel_rfl)) (by kernel_rfl) (by kernel_rfl) (by kernel_rfl)
      (by rw [MakeChecks.laidMetH_plain _ _ _ (by kernel_rfl)]; exact laidMet_laidAll _ (by kernel_rfl) (by kernel_rfl))) ?_
  intro W base args ds gs before hval0 hW _ hsz0 hL _
  have hval : ∀ (j : Nat) t v, Tryd.f6.params[j]? = some t → args[j]? = some v → Value.okWide Tryd.prog W .any base t v := hval0
  have hW' := hW
  obtain ⟨p, q, hA0, hV, rfl, hfz, hnd⟩ := hW
  have hA : DataW.TrodAll enc Tryd.prog W 0 (fun _ => true) true Tryd.f6.params.toList args.toList ds p := hA0
  rw [Tryd.params6] at hA hval
  rw [Tryd.params6] at hsz0
  obtain ⟨v0, vs0, d0, ds0, p0, q0, hargs, rfl, rfl, h0, r0⟩ := trodAll_cons hA
  obtain ⟨v1, vs1, d1, ds1, p1, q1, rfl, rfl, rfl, h1, r1⟩ := trodAll_cons r0
  obtain ⟨v2, vs2, d2, ds2, p2, q2, rfl, rfl, rfl, h2, r2⟩ := trodAll_cons r1
  obtain ⟨v3, vs3, d3, ds3, p3, q3, rfl, rfl, rfl, h3, r3⟩ := trodAll_cons r2
  obtain ⟨rfl, rfl, rfl⟩ := trodAll_nil r3
  obtain rfl : args = #[v0, v1, v2, v3] := by cases args; simp_all
  obtain ⟨rfl, rfl⟩ := trodVars_none hV
  have k0 := h0
  have lt0 : ∀ x ∈ p0, x.block < W.heap.size := by obtain ⟨m, hm⟩ := k0; exact DataW.trod_lt m _ _ _ hm
  obtain ⟨c0, fs0, ao0, cap0, rfl, w0⟩ := Tryd.is_disk (hval 0 24 v0 rfl rfl) h0 (fun m hm => by simpa using List.all_eq_true.1 hsz0 m (DataW.weights_mem_each (j := 0) (t := 24) rfl rfl m hm))
  obtain ⟨a1, rfl, rfl, rfl, w1⟩ := open_string Tryd.underlying9 (hval 1 9 v1 rfl rfl) h1
  obtain ⟨a2, rfl, rfl, rfl, w2⟩ := open_int Tryd.underlying3 (hval 2 3 v2 rfl rfl) h2
  obtain ⟨a3, rfl, rfl, rfl, w3⟩ := open_string Tryd.underlying9 (hval 3 9 v3 rfl rfl) h3
  clear hA0 hval0
  refine (diskOther_any W c0 fs0 ao0 cap0 w0 a1 w1 a2 w2 a3 w3).mono fun e W' ⟨he, bel⟩ => ?_
  subst he
  exact ⟨_, rfl, _, _, _, [], _, [], hW', trodAll_mk1 (shut_bool Tryd.underlying4 _), (trodAll_cons_mk (Below.trod Tryd.laidOut (by kernel_rfl) (of_decide_eq_true (by kernel_rfl)) k0 bel lt0) (trodAll_cons_mk (shut_string Tryd.underlying9 w1) (trodAll_cons_mk (shut_int Tryd.underlying3 w2) (trodAll_cons_mk (shut_string Tryd.underlying9 w3) trodAll_mk0)))), rfl, bel.frame _, fun h => by cases h⟩

theorem diskOther_holds : Rows.DiskOtherSaid :=
  OpenClaim.holds_of_wide 6 Tryd.f6 rfl rfl rfl rfl rfl rfl rfl ⟨rfl, rfl, rfl, rfl, rfl⟩ rfl rfl rfl rfl rfl (by kernel_rfl) Tryd.func6 (by kernel_rfl)
    (of_decide_eq_true (by kernel_rfl)) (by unfold Func.isWrapper; first | (rw [if_pos (by decide +kernel)]; kernel_rfl) | (rw [if_neg (by decide +kernel)]; exact ⟨rfl, rfl⟩))
    (fun os started H enc _ => diskOther_lifted os started H enc)
theorem diskOther_card : Rows.DiskOtherCardSaid :=
  Claim7.holds_tied_plain_at .later [] [.data, .pinned] true (true, "70ffd1132ee9d4383af659bd53c2ff836d5bbd12bc3d7956f63e20143a124f82") false diskOther_holds (fun _ h => by cases h) (by kernel_rfl) (fun _ h => by cases h) diskOther_row_tie rfl ⟨rfl, rfl⟩ (by kernel_rfl) rfl
    (fun f fn hf hfn => by
      obtain rfl : f = 6 := Option.some.inj ((show Tryd.prog.funcNamed Rows.diskOtherRow.func = some 6 by kernel_rfl).symm.trans hf) |>.symm
      obtain rfl : fn = Tryd.f6 := (Option.some.inj (Tryd.func6.symm.trans hfn)).symm
      exact ⟨by kernel_rfl, fun j t ht => by
        rw [Tryd.params6] at ht
        have hm : t ∈ [24, 9, 3, 9] := by simpa using Array.mem_of_getElem? ht
        have hall : ([24, 9, 3, 9].all fun u => !Tryd.prog.wantsStandIn u) = true := by kernel_rfl
        exact (show Tryd.prog.wantsStandIn t = false by simpa using List.all_eq_true.1 hall t hm)⟩)
    (by kernel_rfl)
#print axioms diskOther_card
end Go.Proofs.YtghfohhlcfelhaaDoor
