/- The statement on single bytes holds for every two numbers: a text of one byte told many times is a name just if the byte may stand in one and there are one to sixteen; no conditions. -/
import Derived.Test.YtpdficlpkchdlaaRows
import Derived.Test.YtpdficlpkchdlaaNmAwake
import Derived.ProofKit
import Derived.OpenShut
import Derived.ShutString
import Derived.ChangeOld
import Derived.Below
import Derived.Deep.DeepCutAuto
namespace Go.Proofs.Ytpdficlpkchdlaa
open Go.ChangeShapes Go.WideShapes Go.ChangeAt Go.RowKit
open Go.ChangeMaps (open_string shut_string)

theorem and31 (n : Int) : bits .and .i64 n 31 = n % 32 := by
  show IntKind.i64.wrap ((BitVec.ofInt 64 n &&& BitVec.ofInt 64 31).toNat : Int) = _
  rw [BitVec.toNat_and, show (BitVec.ofInt 64 31).toNat = 31 from rfl, nat_mask5, BitVec.toNat_ofInt, IntKind.wrap_i64]
  omega

theorem byte_of (x : Int) (h0 : 0 ≤ x) (h1 : x ≤ 255) : ∃ b : UInt8, x = (b.toNat : Int) := by
  refine ⟨x.toNat.toUInt8, ?_⟩
  simp; omega

def rep (b : UInt8) (k : Nat) : ByteArray := ⟨(List.replicate k b).toArray⟩
theorem rep_size (b : UInt8) (k : Nat) : (rep b k).size = k := by simp [rep, ByteArray.size]
theorem rep_succ (b : UInt8) (k : Nat) : rep b k ++ ⟨#[b]⟩ = rep b (k + 1) := by
  unfold rep
  rw [show (ByteArray.mk #[b]) = ByteArray.mk [b].toArray from rfl, ByteArray.mk_append_mk, List.replicate_succ']
theorem rep_ok (b : UInt8) (k : Nat) : allOk (rep b k).data.toList = (decide (k = 0) || okb (b.toNat : Int)) := by
  unfold rep allOk
  simp [List.all_replicate]
theorem rep_may (b : UInt8) (k : Nat) : mayB (rep b k) = (okb (b.toNat : Int) && decide (1 ≤ k) && decide (k ≤ 16)) := by
  unfold mayB
  rw [rep_size, rep_ok]
  by_cases h : k = 0
  · subst h; simp
  · have h1 : 1 ≤ k := by omega
    simp [h, h1, Bool.and_comm]
theorem two_may (b : UInt8) : mayB ({ data := #[97] } ++ ⟨#[b]⟩) = okb (b.toNat : Int) := by
  rw [show (ByteArray.mk #[97]) = ByteArray.mk [97].toArray from rfl, show (ByteArray.mk #[b]) = ByteArray.mk [b].toArray from rfl, ByteArray.mk_append_mk]
  have e : okb 97 = true := by decide
  simp [mayB, allOk, ByteArray.size, e]

theorem back (b : UInt8) (wr : World) : (convert 26 9 (.slice (some ⟨wr.heap.size, 0, none⟩) 1 1)).run Try.prog (wr.alloc (.cells #[.int .u8 (b.toNat : Int)] 5)) = .ok (.string ⟨#[b]⟩) (wr.alloc (.cells #[.int .u8 (b.toNat : Int)] 5)) := by
  refine run_convert_bytes_back _ 26 9 5 ⟨wr.heap.size, 0, none⟩ 1 [b] Try.underlying26 Try.underlying5 Try.underlying9 ?_
  intro j hj
  have : j = 0 := by simpa using hj
  subst this
  exact World.cell?_alloc_mark _ _ _ _ _

set_option maxHeartbeats 4000000 in
theorem nameBytes_any (c : Int) (_ : (Lit.int .i64 c).wf = true) (many : Int) (_ : (Lit.int .i64 many).wf = true) (w : World) :
    Calls Try.prog 4 #[.int .i64 c, .int .i64 many] w fun e w' => e = .returned (.bool true) ∧ Q w w' := by
  obtain ⟨b, hb⟩ := byte_of (c % 256) (by omega) (by omega)
  have hb0 : (b.toNat : Int) ≤ 255 := by have := b.toNat_lt; omega
  obtain ⟨n, hn⟩ : ∃ n : Nat, many % 32 = n := ⟨(many % 32).toNat, by omega⟩
  have hn0 : n < 32 := by omega
  have hand := and31 many
  rw [hn] at hand
  have hbk := back b
  have hrs := rep_size b
  go_enter Try.func4, Try.ntmps4
  go_wp2_with fail
  refine (awake_any _).mono ?_
  rintro e w1 ⟨rfl, q1⟩
  go_upto_region 4 with fail
  go_cut [5, 6] (fun x ok wc => x = .int .u8 (b.toNat : Int) ∧ ok = .bool (okb (b.toNat : Int)) ∧ wc = w1)
  case first =>
    rcases okb_parts (b.toNat : Int) with ⟨g1, g2, hr⟩ | ⟨g1, g2, g3, hr⟩ | ⟨g1, g2, hr⟩ | ⟨g1, g2, g3, hr⟩ | ⟨g1, g2, g3, g4, hr⟩ | ⟨g1, g2, g3, g4, g5, hr⟩ | ⟨g1, g2, g3, g4, g5, hr⟩
    rotate_left 6
    · have HR := hide hr
      have k2 : ((b.toNat : Int) == 46) = false := beq_eq_false_iff_ne.2 g2
      have k3 : ((b.toNat : Int) == 95) = false := beq_eq_false_iff_ne.2 g3
      have k4 : ((b.toNat : Int) == 45) = false := beq_eq_false_iff_ne.2 g4
      have k5 : ((b.toNat : Int) == 47) = false := beq_eq_false_iff_ne.2 g5
      have G : (b.toNat : Int) < 48 ∨ (57 < (b.toNat : Int) ∧ (b.toNat : Int) < 97) ∨ 122 < (b.toNat : Int) := by
        unfold smallB at g1; simp at g1; omega
      clear hr g1 g2 g3 g4 g5
      rcases G with G | ⟨G, G2⟩ | G
      all_goals
        go_wp2_with fail
        go_meet
        exact ⟨by first | rfl | exact congrArg (Value.int .u8) (by omega), congrArg Value.bool (by first | exact (unhide HR).symm | (rw [unhide HR]; simp; omega)), rfl⟩
    all_goals
      have HR := hide hr
      clear hr
      go_wp2_with fail
      go_meet
      exact ⟨by first | rfl | exact congrArg (Value.int .u8) (by omega), congrArg Value.bool (by first | exact (unhide HR).symm | (rw [unhide HR]; simp; omega)), rfl⟩
  case rest =>
    obtain ⟨rfl, rfl, rfl⟩ := hcut
    go_wp2_with fail
    go_loopw [8, 9] (fun s i wr => ∃ k : Nat, k ≤ n ∧ i = .int .i64 k ∧ s = .string (rep b k) ∧ Q w wr) (fun _ i _ => n - (intOf i).toNat)
    case atStart => exact ⟨0, Nat.zero_le _, rfl, rfl, q1⟩
    case round =>
      obtain ⟨k, hk, rfl, rfl, hq⟩ := hrel
      by_cases hlt : k < n
      · go_wp2_with fail
        go_roundw
        case rel => exact ⟨k + 1, by omega, by go_num, congrArg Value.string (rep_succ b k), hq.alloc _⟩
        case measure => simp [intOf]; omega
      · have hkn : k = n := by omega
        subst hkn
        have l1 : (rep b k).size ≤ maxLen := by rw [rep_size]; unfold maxLen; omega
        have l2 : (ByteArray.mk #[97] ++ ByteArray.mk #[b]).size ≤ maxLen := by rw [ByteArray.size_append']; show 1 + 1 ≤ maxLen; unfold maxLen; decide
        have L1 := hide l1
        have L2 := hide l2
        clear l1 l2
        have m2 := two_may b
        have m1 := rep_may b k
        cases hok : okb (b.toNat : Int)
        · rw [hok] at m1 m2
          simp only [Bool.false_and] at m1
          go_wp2_with (first | (go_at_call 6; refine (num_any _ _).mono ?_; rintro e wy ⟨rfl, rfl⟩) | (go_at_call 7; refine (may_any _ _ (by first | exact unhide L1 | exact unhide L2)).mono ?_; rintro e wx ⟨rfl, qx⟩))
          go_ret
          exact ⟨rfl, by repeat (first | exact Q.refl _ | assumption | refine Q.alloc ?_ _ | refine Q.trans ?_ (by assumption))⟩
        · rw [hok] at m1 m2
          rcases (by omega : k < 1 ∨ (1 ≤ k ∧ k ≤ 16) ∨ (1 ≤ k ∧ 16 < k)) with h1 | ⟨h1, h2⟩ | ⟨h1, h2⟩
          · have m3 : mayB (rep b k) = false := by rw [m1]; simp; omega
            clear m1
            go_wp2_with (first | (go_at_call 6; refine (num_any _ _).mono ?_; rintro e wy ⟨rfl, rfl⟩) | (go_at_call 7; refine (may_any _ _ (by first | exact unhide L1 | exact unhide L2)).mono ?_; rintro e wx ⟨rfl, qx⟩))
            go_ret
            exact ⟨ret_bool (by first | rfl | (simp; omega)), by repeat (first | exact Q.refl _ | assumption | refine Q.alloc ?_ _ | refine Q.trans ?_ (by assumption))⟩
          · have m3 : mayB (rep b k) = true := by rw [m1]; simp; omega
            clear m1
            go_wp2_with (first | (go_at_call 6; refine (num_any _ _).mono ?_; rintro e wy ⟨rfl, rfl⟩) | (go_at_call 7; refine (may_any _ _ (by first | exact unhide L1 | exact unhide L2)).mono ?_; rintro e wx ⟨rfl, qx⟩))
            go_ret
            exact ⟨ret_bool (by first | rfl | (simp; omega)), by repeat (first | exact Q.refl _ | assumption | refine Q.alloc ?_ _ | refine Q.trans ?_ (by assumption))⟩
          · have m3 : mayB (rep b k) = false := by rw [m1]; simp; omega
            clear m1
            go_wp2_with (first | (go_at_call 6; refine (num_any _ _).mono ?_; rintro e wy ⟨rfl, rfl⟩) | (go_at_call 7; refine (may_any _ _ (by first | exact unhide L1 | exact unhide L2)).mono ?_; rintro e wx ⟨rfl, qx⟩))
            go_ret
            exact ⟨ret_bool (by first | rfl | (simp; omega)), by repeat (first | exact Q.refl _ | assumption | refine Q.alloc ?_ _ | refine Q.trans ?_ (by assumption))⟩

set_option maxRecDepth 100000 in
theorem nameBytes_lifted (os : Os) (started : os.Started) (H : Type) (enc : TypeId × Value → H) :
    ReturnsInHanded {} Try.checked os 4 .any (Rows.nameBytesSpec.pre6 enc Try.prog Try.f4 Rows.nameBytesRow.domain false) (Rows.nameBytesSpec.post enc Try.prog Try.f4 false true false false) := by
  refine returnsInHanded_of_change (C := Try.checked) Try.own started (by kernel_rfl) Try.func4
    (ChangeSpec.witness6 (enc := enc) (C := Try.checked) false ⟨#[], #[.int .i64 0, .int .i64 0], []⟩ 8 (by kernel_rfl) (by kernel_rfl) (by kernel_rfl) (by kernel_rfl)) ?_
  intro W base args ds gs before hval0 hW hcnd _
  have hval : ∀ (j : Nat) t v, Try.f4.params[j]? = some t → args[j]? = some v → Value.okWide Try.prog W .any base t v := hval0
  have hW' := hW
  obtain ⟨p, q, hA0, hV, rfl, hfz, hnd⟩ := hW
  have hA : DataW.TrodAll enc Try.prog W 0 (fun _ => true) true Try.f4.params.toList args.toList ds p := hA0
  rw [Try.params4] at hA hval
  obtain ⟨v0, vs0, d0, ds0, p0, q0, hargs, rfl, rfl, h0, r0⟩ := trodAll_cons hA
  obtain ⟨v1, vs1, d1, ds1, p1, q1, rfl, rfl, rfl, h1, r1⟩ := trodAll_cons r0
  obtain ⟨rfl, rfl, rfl⟩ := trodAll_nil r1
  obtain rfl : args = #[v0, v1] := by cases args; simp_all
  obtain ⟨rfl, rfl⟩ := trodVars_none hV
  obtain ⟨a0, rfl, rfl, rfl, w0⟩ := open_int Try.underlying3 (hval 0 3 v0 rfl rfl) h0
  obtain ⟨a1, rfl, rfl, rfl, w1⟩ := open_int Try.underlying3 (hval 1 3 v1 rfl rfl) h1
  clear hA0 hval0
  simp only [List.append_nil] at hW'
  refine (nameBytes_any a0 w0 a1 w1 W).mono fun e W' ⟨he, bel⟩ => ?_
  subst he
  exact ⟨_, rfl, _, _, _, [], [], [], hW', trodAll_mk1 (shut_bool Try.underlying4 _), (trodAll_cons_mk (shut_int Try.underlying3 w0) (trodAll_cons_mk (shut_int Try.underlying3 w1) trodAll_mk0)), rfl, bel.frame _, fun h => by cases h⟩

theorem nameBytes_holds : Rows.NameBytesSaid :=
  OpenClaim.holds_of_wide 4 Try.f4 rfl rfl rfl rfl rfl rfl rfl ⟨rfl, rfl, rfl, rfl, rfl⟩ rfl rfl rfl rfl rfl (by kernel_rfl) Try.func4 (by kernel_rfl)
    (of_decide_eq_true (by kernel_rfl)) (by unfold Func.isWrapper; first | (rw [if_pos (by decide +kernel)]; kernel_rfl) | (rw [if_neg (by decide +kernel)]; exact ⟨rfl, rfl⟩))
    (fun os started H enc _ => nameBytes_lifted os started H enc)
#print axioms nameBytes_holds

end Go.Proofs.Ytpdficlpkchdlaa
