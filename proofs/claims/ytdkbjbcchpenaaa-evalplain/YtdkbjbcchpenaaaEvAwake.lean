/- The fixed texts and scopes that every statement on values asks of first: a value, a text that is refused, one that is too long; no conditions. -/
import Derived.Test.YtdkbjbcchpenaaaEvRef
namespace Go.Proofs.Ytdkbjbcchpenaaa
open Go.RowKit

theorem of_lit {l : List UInt8} {m : Int} (s : ByteArray) (ins outs : List Bd) (ai ao : Option Addr) (ci co : Nat) (w : World) (h : evS (bl s) ins outs = l ∧ evE (bl s) ins outs = m) (hs : s.size ≤ maxLen) (hi : Read w ai ci ins) (ho : Read w ao co outs) :
    Calls Try.prog 9 #[.string s, .slice ai ins.length ci, .slice ao outs.length co] w fun e w' => e = .returned (.tuple #[.string ⟨l.toArray⟩, .int .i64 m]) ∧ Q w w' := by
  have := of_any s ins outs ai ao ci co w hs hi ho
  unfold EvSays at this
  rw [h.1, h.2] at this
  exact this

theorem read_block (w : World) (cs : Array Value) (bs : List Bd) (h : cs.toList = lay dv bs) (f : Fit bs) (hl : bs.length ≤ 4096) : Read (w.alloc (.cells cs 34)) (some ⟨w.heap.size, 0, none⟩) bs.length bs :=
  ⟨rowG_block dv_len _ _ _ bs h, f, Nat.le_refl _, by unfold maxLen; omega⟩
theorem read_next (w : World) (n : Nat) (hn : n = w.heap.size) (cs : Array Value) (bs : List Bd) (h : cs.toList = lay dv bs) (f : Fit bs) (hl : bs.length ≤ 4096) : Read (w.alloc (.cells cs 34)) (some ⟨n, 0, none⟩) bs.length bs := by
  subst hn; exact read_block w cs bs h f hl
theorem read_none (w : World) : Read w none 0 [] := ⟨Or.inl rfl, (fun b hb => by cases hb), Nat.le_refl _, Nat.zero_le _⟩

/-- So many q's. -/
def qs (n : Nat) : List UInt8 := List.replicate n 113
theorem qs_succ (n : Nat) : (⟨(qs n).toArray⟩ : ByteArray) ++ ⟨#[113]⟩ = ⟨(qs (n + 1)).toArray⟩ := by
  rw [show (⟨#[113]⟩ : ByteArray) = ⟨([113] : List UInt8).toArray⟩ from rfl, mk_app]
  unfold qs
  rw [List.replicate_succ']

set_option maxHeartbeats 1000000 in
theorem long_any (w : World) : Calls Try.prog 14 #[] w fun e w' => e = .returned (.string ⟨(qs 257).toArray⟩) ∧ w' = w := by
  go_enter Try.func14, Try.ntmps14
  go_wp2_with fail
  go_loop [1, 2] (fun v i => ∃ k : Nat, k ≤ 257 ∧ i = .int .i64 k ∧ v = .string ⟨(qs k).toArray⟩) (fun _ i => 257 - (intOf i).toNat)
  case atStart => exact ⟨0, by omega, rfl, rfl⟩
  case round =>
    obtain ⟨k, hk, rfl, rfl⟩ := hrel
    have hsz : (⟨(qs k).toArray⟩ : ByteArray).size ≤ 257 := by rw [mk_size]; unfold qs; simpa using hk
    have HS := hide (qs_succ k)
    have HE : Hid (k = 257 → (⟨(qs k).toArray⟩ : ByteArray) = ⟨(qs 257).toArray⟩) := fun h => by rw [h]
    revert HS hsz HE
    generalize (⟨(qs k).toArray⟩ : ByteArray) = acc
    intro hsz HS HE
    by_cases hlt : k ≤ 256
    · have k1 : (k : Int) ≤ 256 := by omega
      go_wp2_with fail
      go_round
      case rel => exact ⟨k + 1, by omega, by go_num, by rw [unhide HS]⟩
      case measure => simp [intOf]; omega
    · have k1 : (256 : Int) < (k : Int) := by omega
      have HE2 := hide (unhide HE (by omega))
      clear HE HS
      go_wp2_with fail
      go_ret
      rw [← unhide HE2]
      exact ⟨rfl, rfl⟩

def evI : List Bd := [(⟨#[97]⟩, ⟨#[120]⟩), (⟨#[98]⟩, ⟨#[]⟩)]
def evO : List Bd := [(⟨#[98]⟩, ⟨#[121]⟩), (⟨#[97]⟩, ⟨#[122]⟩)]
theorem evl1 : evS (bl ⟨#[36, 97, 45, 36, 98, 45, 36, 123, 99, 125, 46]⟩) evI evO = [120, 45, 121, 45, 46] ∧ evE (bl ⟨#[36, 97, 45, 36, 98, 45, 36, 123, 99, 125, 46]⟩) evI evO = 0 := by decide +kernel
theorem evl2 : evS (bl ⟨#[36]⟩) evI evO = [] ∧ evE (bl ⟨#[36]⟩) evI evO = 500 := by decide +kernel
theorem evl3 : evS (bl ⟨(qs 257).toArray⟩) evI evO = [] ∧ evE (bl ⟨(qs 257).toArray⟩) evI evO = 501 := by decide +kernel

set_option maxRecDepth 20000 in
set_option maxHeartbeats 4000000 in
theorem evawake_any (w : World) :
    Calls Try.prog 13 #[] w fun e w' => e = .returned (.bool true) ∧ Q w w' := by
  have f1 : Fit evI := fit_of (by decide +kernel)
  have f2 : Fit evO := fit_of (by decide +kernel)
  have HM := hide (fun (n : Nat) (h : n ≤ 4096) => (show n ≤ maxLen by unfold maxLen; omega))
  have HQ : Hid (Q w ((w.alloc (.cells #[.string ⟨#[97]⟩, .string ⟨#[120]⟩, .string ⟨#[98]⟩, .string ⟨#[]⟩] 34)).alloc (.cells #[.string ⟨#[98]⟩, .string ⟨#[121]⟩, .string ⟨#[97]⟩, .string ⟨#[122]⟩] 34))) := ((Q.refl w).alloc _).alloc _
  have HI := hide ((read_block w #[.string ⟨#[97]⟩, .string ⟨#[120]⟩, .string ⟨#[98]⟩, .string ⟨#[]⟩] evI rfl f1 (by decide)).q ((Q.refl _).alloc (.cells #[.string ⟨#[98]⟩, .string ⟨#[121]⟩, .string ⟨#[97]⟩, .string ⟨#[122]⟩] 34)))
  have HO := hide (read_next (w.alloc (.cells #[.string ⟨#[97]⟩, .string ⟨#[120]⟩, .string ⟨#[98]⟩, .string ⟨#[]⟩] 34)) (w.heap.size + 1) (size_alloc _ _).symm #[.string ⟨#[98]⟩, .string ⟨#[121]⟩, .string ⟨#[97]⟩, .string ⟨#[122]⟩] evO rfl f2 (by decide))
  go_enter Try.func13, Try.ntmps13
  go_wp2_with fail
  refine (of_lit _ evI evO _ _ 2 2 _ evl1 (unhide HM _ (by decide)) (unhide HI) (unhide HO)).mono ?_
  rintro e w1 ⟨rfl, q1⟩
  have HI1 := hide ((unhide HI).q q1)
  have HO1 := hide ((unhide HO).q q1)
  have hq1 := (unhide HQ).trans q1
  clear HI HO HQ q1
  go_wp2_with fail
  refine (of_lit _ evI evO _ _ 2 2 _ evl2 (unhide HM _ (by decide)) (unhide HI1) (unhide HO1)).mono ?_
  rintro e w2 ⟨rfl, q2⟩
  have HI2 := hide ((unhide HI1).q q2)
  have HO2 := hide ((unhide HO1).q q2)
  have hq2 := hq1.trans q2
  clear HI1 HO1 hq1 q2
  go_wp2_with fail
  refine (long_any _).mono ?_
  rintro e w3 ⟨rfl, rfl⟩
  go_wp2_with fail
  refine (of_lit _ evI evO _ _ 2 2 _ evl3 (unhide HM _ (by rw [mk_size]; decide)) (unhide HI2) (unhide HO2)).mono ?_
  rintro e w4 ⟨rfl, q4⟩
  have hq4 := hq2.trans q4
  clear HI2 HO2 hq2 q4
  go_wp2_with (go_at_call 11; refine (num_any _ _).mono ?_; rintro e w' ⟨rfl, rfl⟩)
  go_ret
  exact ⟨rfl, hq4⟩

end Go.Proofs.Ytdkbjbcchpenaaa
