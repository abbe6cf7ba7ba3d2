/- What the statement on a write that turns its own file alone leans on; no conditions. -/
import Derived.Test.YtjalklmgdkhekaaDoorDkAwake
import Derived.Test.YtjalklmgdkhekaaDoorDkOpen
namespace Go.Proofs.YtjalklmgdkhekaaDoor
open Go.RowKit

theorem and65535 (n : Int) : bits .and .i64 n 65535 = n % 65536 := by
  show IntKind.i64.wrap ((BitVec.ofInt 64 n &&& BitVec.ofInt 64 65535).toNat : Int) = _
  rw [BitVec.toNat_and, show (BitVec.ofInt 64 65535).toNat = 2 ^ 16 - 1 from rfl, Nat.and_two_pow_sub_one_eq_mod, BitVec.toNat_ofInt, IntKind.wrap_i64]; omega
theorem put_any' {c' m : Int} {fs' : List Fl} {k : Nat} (c : Int) (fs : List Fl) (ao : Option Addr) (cap : Nat) (n : ByteArray) (x : Int) (w : World) (h : putC c fs (bl n) x = c' ∧ putF c fs (bl n) x = fs' ∧ putE c fs (bl n) x = m ∧ fs'.length = k) (hr : RowK w ao fs) (hz : FlZ fs) (hs : fs.length ≤ cap) (hcap : cap ≤ maxLen) (hn : n.size ≤ maxLen) :
    Calls Tryd.prog 5 #[.agg #[.int .i64 c, .slice ao fs.length cap], .string n, .int .i64 x] w fun e w' => ∃ ao' cap', e = .returned (.tuple #[.agg #[.int .i64 c', .slice ao' k cap'], .int .i64 m]) ∧ OwnK w' w.heap.size ao' cap' fs' ∧ Q w w' := by
  obtain ⟨rfl, rfl, rfl, rfl⟩ := h
  exact dkPut_any c fs ao cap n x w hr hz hs hcap hn
theorem rem_any' {c' m : Int} {fs' : List Fl} {k : Nat} (c : Int) (fs : List Fl) (ao : Option Addr) (cap : Nat) (n : ByteArray) (w : World) (h : remC c fs (bl n) = c' ∧ remF c fs (bl n) = fs' ∧ remE c fs (bl n) = m ∧ fs'.length = k) (hr : RowK w ao fs) (hz : FlZ fs) (hs : fs.length ≤ cap) (hcap : cap ≤ maxLen) (hn : n.size ≤ maxLen) :
    Calls Tryd.prog 7 #[.agg #[.int .i64 c, .slice ao fs.length cap], .string n] w fun e w' => ∃ ao' cap', e = .returned (.tuple #[.agg #[.int .i64 c', .slice ao' k cap'], .int .i64 m]) ∧ OwnK w' w.heap.size ao' cap' fs' ∧ Q w w' := by
  obtain ⟨rfl, rfl, rfl, rfl⟩ := h
  exact dkRem_any c fs ao cap n w hr hz hs hcap hn

end Go.Proofs.YtjalklmgdkhekaaDoor
