/- Plain facts on a disk that is written file by file until it is full; no conditions. -/
import Derived.Test.YtghfohhlcfelhaaDoorDkPlain
namespace Go.Proofs.YtghfohhlcfelhaaDoor
open Go.RowKit

def nmM (i : Nat) : Tx := [102, UInt8.ofNat (97 + i % 8), UInt8.ofNat (97 + i / 8)]
theorem nmM_may : ∀ i < 64, pthB (nmM i) = true := by decide +kernel
theorem nmM_inj : ∀ i < 64, ∀ j < 64, nmM i = nmM j → i = j := by decide +kernel
theorem nmM_g : ∀ i < 64, nmM i ≠ [103] := by decide +kernel
theorem g_may : pthB [103] = true := by decide +kernel
theorem nmM_eq {i p q : Nat} {c d : UInt8} (hp : i % 8 = p) (hq : i / 8 = q) (hq8 : q < 8) (hc : (c.toNat : Int) = 97 + (p : Int)) (hd : (d.toNat : Int) = 97 + (q : Int)) : ((⟨#[102]⟩ : ByteArray) ++ ⟨#[c]⟩) ++ ⟨#[d]⟩ = ⟨(nmM i).toArray⟩ := by
  have e1 : c = UInt8.ofNat (97 + i % 8) := by
    apply UInt8.toNat_inj.1
    rw [UInt8.toNat_ofNat']; omega
  have e2 : d = UInt8.ofNat (97 + i / 8) := by
    apply UInt8.toNat_inj.1
    rw [UInt8.toNat_ofNat']; omega
  rw [e1, e2]
  exact of_bl (by rw [bl_app, bl_app]; rfl)

structure DmI (i : Nat) (fs : List Fl) : Prop where
  d : DkOk (i : Int) fs
  n : fs.length = i
  s : ∀ j < i, ∃ f, fnF fs (nmM j) = some f
  o : ∀ f ∈ fs, ∃ j < i, f.1 = nmM j
theorem DmI.none {i : Nat} {fs : List Fl} (h : DmI i fs) {n : Tx} (hn : ∀ j < i, nmM j ≠ n) : fnF fs n = none := by
  unfold fnF
  rw [List.find?_eq_none]
  intro f hf
  obtain ⟨j, hj, e⟩ := h.o f hf
  simpa [e] using hn j hj
theorem DmI.next {i : Nat} {fs : List Fl} (h : DmI i fs) (hi : i < 64) : putE (i : Int) fs (nmM i) (i : Int) = 0 ∧ DmI (i + 1) (putL fs (nmM i) (i : Int) ((i : Int) + 1)) := by
  have hno : fnF fs (nmM i) = Option.none := h.none (fun j hj e => by have := nmM_inj j (by omega) i hi e; omega)
  have hf : fulB (i : Int) fs (nmM i) = false := by
    unfold fulB
    rw [decide_eq_false (by omega), decide_eq_false (show ¬ fs.length = 64 by have := h.n; omega)]; simp
  have hx : coOk (i : Int) = true := by unfold coOk; rw [decide_eq_true (by omega), decide_eq_true (by omega)]; rfl
  have he : putE (i : Int) fs (nmM i) (i : Int) = 0 := by unfold putE; rw [dk_of h.d, nmM_may i hi, hx, hf]; rfl
  refine ⟨he, ?_, ?_, ?_, ?_⟩
  · have := put_may he
    rwa [show ((i + 1 : Nat) : Int) = (i : Int) + 1 by omega]
  · rw [put_len h.d.u, hno, h.n]; rfl
  · intro j hj
    rw [fn_put h.d.u]
    split
    · exact ⟨_, rfl⟩
    · rename_i hne
      exact h.s j (by rcases Nat.lt_or_eq_of_le (Nat.lt_succ_iff.1 hj) with h1 | h1; exact h1; exact absurd (by rw [h1]) hne)
  · intro f hf
    unfold putL at hf
    rcases List.mem_append.1 hf with h1 | h1
    · obtain ⟨j, hj, e⟩ := h.o f (List.mem_filter.1 h1).1
      exact ⟨j, by omega, e⟩
    · rcases List.mem_cons.1 h1 with h2 | h2
      · exact ⟨i, by omega, by rw [h2]⟩
      · obtain ⟨j, hj, e⟩ := h.o f (List.mem_filter.1 h2).1
        exact ⟨j, by omega, e⟩
theorem DmI.d64 {fs : List Fl} (h : DmI 64 fs) : dkOk 64 fs = true := dk_of (c := 64) (show DkOk 64 fs from h.d)
/-- A full disk. -/
theorem dm_full {fs : List Fl} (h : DmI 64 fs) : putC 64 fs [103] 1 = 0 ∧ putF 64 fs [103] 1 = [] ∧ putE 64 fs [103] 1 = 1201 := by
  have hno : fnF fs [103] = none := h.none (fun j hj => nmM_g j hj)
  have hf : fulB 64 fs [103] = true := by unfold fulB; rw [hno, decide_eq_true h.n]; rfl
  have he : putE 64 fs [103] 1 = 1201 := by unfold putE; rw [h.d64, g_may, hf]; rfl
  exact ⟨by unfold putC; rw [he]; rfl, by unfold putF; rw [he]; rfl, he⟩
theorem dm_old {fs : List Fl} (h : DmI 64 fs) {k : Nat} (hk : k < 64) {x : Int} (hx : coOk x = true) :
    (putC 64 fs (nmM k) x = 65 ∧ putF 64 fs (nmM k) x = putL fs (nmM k) x 65 ∧ putE 64 fs (nmM k) x = 0 ∧ (putL fs (nmM k) x 65).length = 64) ∧
    FlZ (putL fs (nmM k) x 65) ∧ fdF 65 (putL fs (nmM k) x 65) (nmM k) = some (nmM k, x, 65) := by
  obtain ⟨f, hf⟩ := h.s k hk
  have hu : fulB 64 fs (nmM k) = false := by unfold fulB; rw [hf]; rfl
  have he : putE 64 fs (nmM k) x = 0 := by unfold putE; rw [h.d64, nmM_may k hk, hx, hu]; rfl
  have hm : DkOk 65 (putL fs (nmM k) x 65) := put_may he
  refine ⟨⟨by unfold putC; rw [if_pos he]; rfl, by unfold putF; rw [if_pos he]; rfl, he, ?_⟩, fun g hg => ?_, ?_⟩
  · rw [put_len h.d.u, hf, h.n]; rfl
  · have := fl_len (hm.f g hg); unfold maxLen; omega
  · unfold fdF
    rw [dk_of hm, if_pos rfl, fn_put h.d.u, if_pos rfl]
theorem dm_rem {fs : List Fl} (h : DmI 64 fs) {k : Nat} (hk : k < 64) :
    (remC 64 fs (nmM k) = 64 ∧ remF 64 fs (nmM k) = remL fs (nmM k) ∧ remE 64 fs (nmM k) = 0 ∧ (remL fs (nmM k)).length = 63) ∧ FlZ (remL fs (nmM k)) ∧ putE 64 (remL fs (nmM k)) [103] 1 = 0 := by
  obtain ⟨f, hf⟩ := h.s k hk
  have he : remE 64 fs (nmM k) = 0 := by unfold remE; rw [h.d64, nmM_may k hk, hf]; rfl
  have hm : DkOk 64 (remL fs (nmM k)) := rem_may h.d
  have hl : (remL fs (nmM k)).length = 63 := by
    have e := congrArg List.length (splitF (n := nmM k) h.d.u)
    rw [hf, h.n] at e
    rw [rem_lo h.d.u, List.length_append]
    simp at e
    omega
  have hno : fnF (remL fs (nmM k)) [103] = none := by
    rw [fn_rem]
    split
    · rfl
    · exact h.none (fun j hj => nmM_g j hj)
  have hu : fulB 64 (remL fs (nmM k)) [103] = false := by unfold fulB; rw [hl]; simp
  exact ⟨⟨by unfold remC; rw [if_pos he], by unfold remF; rw [if_pos he], he, hl⟩, fun g hg => by have := fl_len (hm.f g hg); unfold maxLen; omega, by unfold putE; rw [dk_of hm, g_may, hu]; rfl⟩

end Go.Proofs.YtghfohhlcfelhaaDoor
