/- What package disk's small functions answer: two texts compared, where a name stands among files that rise, may a file be, may it stand behind others, a copy of a file; the conditions: texts are no longer than a string can be, at most 4096 files. -/
import Derived.Test.YtjalklmgdkhekaaDoorDkState
import Derived.Test.YtjalklmgdkhekaaDoorGfList
import Derived.Test.YtjalklmgdkhekaaDoorBnAfQuiet
namespace Go.Proofs.YtjalklmgdkhekaaDoor
open Go.RowKit

abbrev flV (f : Fl) : Value := .agg #[.string ⟨f.1.toArray⟩, .int .i64 f.2.1, .int .i64 f.2.2]
abbrev dkV (c : Int) (ao : Option Addr) (n cap : Nat) : Value := .agg #[.int .i64 c, .slice ao n cap]

theorem cs_entry (a b : ByteArray) (w : World) :
    (callFunc 58 #[.string a, .string b]).run Tryd.prog w = .ok (.value (.int .i64 (Lib.compareBytes a.data.toList b.data.toList))) w := by
  rw [run_callFunc_extern Tryd.func58 (by kernel_rfl) (by kernel_rfl) (by kernel_rfl) (e := Extern.BytealgCompare.compare) (by kernel_rfl), Lib.run_compareString]
  rfl
theorem bcmp_any (a b : ByteArray) (w : World) :
    Calls Tryd.prog 45 #[.string a, .string b] w fun e w' => e = .returned (.int .i64 (Lib.compareBytes a.data.toList b.data.toList)) ∧ w' = w := by
  have hd := cs_entry
  go_enter Tryd.func45, Tryd.ntmps45
  go_wp2
  go_ret
  exact ⟨rfl, rfl⟩
theorem scmp_any (a b : ByteArray) (w : World) :
    Calls Tryd.prog 34 #[.string a, .string b] w fun e w' => e = .returned (.int .i64 (Lib.compareBytes a.data.toList b.data.toList)) ∧ w' = w := by
  go_enter Tryd.func34, Tryd.ntmps34
  go_wp2_with (go_at_call 45; refine (bcmp_any _ _ _).mono ?_; rintro e w' ⟨rfl, rfl⟩)
  go_ret
  exact ⟨rfl, rfl⟩

set_option maxHeartbeats 1000000 in
theorem pl1_any (f : Fl) (n : ByteArray) (w : World) :
    Calls Tryd.prog 33 #[flV f, .string n] w fun e w' => e = .returned (.int .i64 (Lib.compareBytes f.1 (bl n))) ∧ Q w w' := by
  have HC := hide (fun w => scmp_any ⟨f.1.toArray⟩ n w)
  rw [show (⟨f.1.toArray⟩ : ByteArray).data.toList = f.1 from rfl, show n.data.toList = bl n from rfl] at HC
  generalize Lib.compareBytes f.1 (bl n) = z at HC ⊢
  unfold flV
  obtain ⟨f1, f2, f3⟩ := f
  dsimp only at HC ⊢
  generalize (⟨f1.toArray⟩ : ByteArray) = x1 at HC ⊢
  go_enter Tryd.func33, Tryd.ntmps33
  go_wp2_with (go_at_call 34; refine (unhide HC _).mono ?_; rintro e w' ⟨rfl, rfl⟩)
  go_ret
  exact ⟨rfl, (Q.refl _).alloc _⟩

theorem up_mono {fs : List Fl} {n : Tx} (hu : Up fs) {i j : Nat} {f g : Fl} (hij : i ≤ j) (hf : fs[i]? = some f) (hg : fs[j]? = some g) (h : ltT g.1 n = true) : ltT f.1 n = true := by
  obtain ⟨l1, e1⟩ := List.getElem?_eq_some_iff.1 hf
  obtain ⟨l2, e2⟩ := List.getElem?_eq_some_iff.1 hg
  rcases Nat.lt_or_eq_of_le hij with h1 | h1
  · have := List.pairwise_iff_getElem.1 hu i j l1 l2 h1
    rw [e1, e2] at this
    exact lt_tr this h
  · subst h1; rw [← e1, e2]; exact h

set_option maxRecDepth 20000 in
set_option maxHeartbeats 4000000 in
theorem bsf_any (fs : List Fl) (n : ByteArray) (ao : Option Addr) (cap : Nat) (w : World) (hr : RowK w ao fs) (hu : Up fs) (hs : fs.length ≤ 4096) :
    Calls Tryd.prog 32 #[.slice ao fs.length cap, .string n, .func (.func 33) #[] #[]] w
      fun e w' => e = .returned (.tuple #[.int .i64 ((loF fs (bl n)).length : Nat), .bool (fnF fs (bl n)).isSome]) ∧ Q w w' := by
  have HU := hide hu
  clear hu
  go_enter Tryd.func32, Tryd.ntmps32
  go_wp2_with fail
  go_loopw [9, 10] (fun i j wr => ∃ lo hi : Nat, i = .int .i64 lo ∧ j = .int .i64 hi ∧ lo ≤ hi ∧ hi ≤ fs.length ∧ Hid (∀ t g, t < lo → fs[t]? = some g → ltT g.1 (bl n) = true) ∧ Hid (∀ t g, hi ≤ t → fs[t]? = some g → ltT g.1 (bl n) = false) ∧ Q w wr) (fun i j _ => (intOf j).toNat - (intOf i).toNat)
  case atStart => exact ⟨0, fs.length, rfl, rfl, Nat.zero_le _, Nat.le_refl _, hide (fun t g ht => absurd ht (Nat.not_lt_zero _)), hide (fun t g ht hg => by rw [List.getElem?_eq_none ht] at hg; cases hg), Q.refl _⟩
  case round =>
    obtain ⟨lo, hi, rfl, rfl, hlh, hin, HA, HB, hq⟩ := hrel
    by_cases hlt : lo < hi
    · rcases hr.q hq with he | ⟨g, o, rfl, hg, hcell⟩
      · rw [he] at hin; simp at hin; omega
      obtain ⟨h, hh⟩ : ∃ h : Nat, h = (lo + hi) / 2 := ⟨_, rfl⟩
      have hhI : ((lo : Int) + (hi : Int)) / 2 = (h : Int) := by omega
      have h0 : lo ≤ h := by omega
      have h1 : h < hi := by omega
      have h2 : h < fs.length := by omega
      have h2' : (h : Int) < (fs.length : Int) := by omega
      have h3' : (0 : Int) ≤ (h : Int) := by omega
      obtain ⟨b, hb⟩ : ∃ b, fs[h]? = some b := ⟨fs[h], List.getElem?_eq_getElem h2⟩
      have c0 : wr.cell? ⟨g, o + h * 3, none⟩ = some (.string ⟨b.1.toArray⟩) := hcell h 0 b _ hb (by decide) rfl
      have c1 : wr.cell? ⟨g, o + h * 3 + 1, none⟩ = some (.int .i64 b.2.1) := hcell h 1 b _ hb (by decide) rfl
      have c2 : wr.cell? ⟨g, o + h * 3 + 2, none⟩ = some (.int .i64 b.2.2) := hcell h 2 b _ hb (by decide) rfl
      have hcon := hide (pl1_any b n wr)
      have hz := cmp_lt b.1 (bl n)
      have hw1 : IntKind.i64.wrap ((h : Int) + 1) = (h : Int) + 1 := by rw [IntKind.wrap_i64]; omega
      generalize Lib.compareBytes b.1 (bl n) = z at hcon hz
      have HBB := hide hb
      have HH := hide hh
      clear hcell hr hb hh
      by_cases hzl : z < 0
      · have HA2 : Hid (∀ t g, t < h + 1 → fs[t]? = some g → ltT g.1 (bl n) = true) := fun t g ht hg => up_mono (unhide HU) (by omega) hg (unhide HBB) (by rw [← hz]; exact decide_eq_true hzl)
        clear hz
        go_wp2_with (go_at_call 33; refine (unhide hcon).mono ?_; rintro e w2 ⟨rfl, q2⟩)
        go_roundw
        case rel => exact ⟨h + 1, hi, by go_num, rfl, by omega, hin, HA2, HB, hq.trans q2⟩
        case measure => simp [intOf]; omega
      · have HB2 : Hid (∀ t g, h ≤ t → fs[t]? = some g → ltT g.1 (bl n) = false) := fun t g ht hg => by
          cases hx : ltT g.1 (bl n)
          · rfl
          · have := up_mono (unhide HU) ht (unhide HBB) hg hx
            rw [← hz, decide_eq_false hzl] at this; cases this
        clear hz
        go_wp2_with (go_at_call 33; refine (unhide hcon).mono ?_; rintro e w2 ⟨rfl, q2⟩)
        go_roundw
        case rel => exact ⟨lo, h, rfl, rfl, by omega, by omega, HA, HB2, hq.trans q2⟩
        case measure => simp [intOf]; omega
    · obtain rfl : hi = lo := by omega
      have HL : Hid ((loF fs (bl n)).length = hi) := lo_len hin (unhide HA) (unhide HB)
      by_cases hn : hi < fs.length
      · rcases hr.q hq with he | ⟨g, o, rfl, hg, hcell⟩
        · rw [he] at hn; simp at hn
        obtain ⟨b, hb⟩ : ∃ b, fs[hi]? = some b := ⟨fs[hi], List.getElem?_eq_getElem hn⟩
        have c0 : wr.cell? ⟨g, o + hi * 3, none⟩ = some (.string ⟨b.1.toArray⟩) := hcell hi 0 b _ hb (by decide) rfl
        have c1 : wr.cell? ⟨g, o + hi * 3 + 1, none⟩ = some (.int .i64 b.2.1) := hcell hi 1 b _ hb (by decide) rfl
        have c2 : wr.cell? ⟨g, o + hi * 3 + 2, none⟩ = some (.int .i64 b.2.2) := hcell hi 2 b _ hb (by decide) rfl
        have hcon := hide (pl1_any b n wr)
        have hz := cmp_z b.1 (bl n)
        have HF : Hid ((fnF fs (bl n)).isSome = (b.1 == bl n)) := by
          show _ = _
          cases hf : fnF fs (bl n) with
          | none => rw [lo_no hf (by rw [unhide HL]; exact hb)]; rfl
          | some f =>
            have := lo_at (unhide HU) hf
            rw [unhide HL, hb] at this
            cases this
            rw [fn_name hf]; simp
        have hn' : (hi : Int) < (fs.length : Int) := by omega
        have h3' : (0 : Int) ≤ (hi : Int) := by omega
        generalize Lib.compareBytes b.1 (bl n) = z at hcon hz
        generalize (b.1 == bl n) = v at hz HF
        clear hcell hr hb HA HB
        by_cases hzl : z = 0
        all_goals
          have HV := hide hz
          clear hz
          go_wp2_with (go_at_call 33; refine (unhide hcon).mono ?_; rintro e w2 ⟨rfl, q2⟩)
          go_ret2
          refine ⟨?_, hq.trans q2⟩
          rw [unhide HL, unhide HF, ← unhide HV]
          simp [hzl]
      · have HF : Hid ((fnF fs (bl n)).isSome = false) := by
          show _ = _
          cases hf : fnF fs (bl n) with
          | none => rfl
          | some f =>
            have := lo_at (unhide HU) hf
            rw [unhide HL, List.getElem?_eq_none (by omega)] at this
            cases this
        clear HA HB
        go_wp2_with fail
        go_ret2
        refine ⟨?_, hq⟩
        rw [unhide HL, unhide HF]; rfl

set_option maxHeartbeats 1000000 in
theorem place_any (fs : List Fl) (n : ByteArray) (ao : Option Addr) (cap : Nat) (w : World) (hr : RowK w ao fs) (hu : Up fs) (hs : fs.length ≤ 4096) :
    Calls Tryd.prog 19 #[.slice ao fs.length cap, .string n] w
      fun e w' => e = .returned (.tuple #[.int .i64 ((loF fs (bl n)).length : Nat), .bool (fnF fs (bl n)).isSome]) ∧ Q w w' := by
  have HC := hide (bsf_any fs n ao cap w hr hu hs)
  generalize (loF fs (bl n)).length = k at HC ⊢
  generalize (fnF fs (bl n)).isSome = v at HC ⊢
  go_enter Tryd.func19, Tryd.ntmps19
  go_wp2_with fail
  refine (unhide HC).mono ?_
  rintro e w1 ⟨rfl, q⟩
  go_wp2_with fail
  go_ret2
  exact ⟨rfl, q⟩

theorem mco_any (x : Int) (w : World) : Calls Tryd.prog 18 #[.int .i64 x] w fun e w' => e = .returned (.bool (coOk x)) ∧ w' = w := by
  have hr : Hid (coOk x = (decide (0 ≤ x) && decide (x ≤ 2147483647))) := rfl
  by_cases h1 : 0 ≤ x <;> by_cases h2 : x ≤ 2147483647
  all_goals
    go_enter Tryd.func18, Tryd.ntmps18
    go_wp2
    go_ret
    refine ⟨ret_bool ?_, rfl⟩
    rw [hr.out]
    simp [h1, h2]

set_option maxHeartbeats 1000000 in
theorem mfl_any (c : Int) (f : Fl) (w : World) (hz : f.1.length ≤ maxLen) :
    Calls Tryd.prog 29 #[flV f, .int .i64 c] w fun e w' => e = .returned (.bool (flOk c f)) ∧ Q w w' := by
  have HP := hide (fun w => pthP_any ⟨f.1.toArray⟩ w (by rw [mk_size']; exact hz))
  rw [show bl (⟨f.1.toArray⟩ : ByteArray) = f.1 from rfl] at HP
  have HC := hide (mco_any f.2.1)
  have HO : Hid (flOk c f = (pthB f.1 && (coOk f.2.1 && (decide (1 ≤ f.2.2) && decide (f.2.2 ≤ c))))) := rfl
  generalize flOk c f = v at HO ⊢
  generalize pthB f.1 = v1 at HP HO
  generalize coOk f.2.1 = v2 at HC HO
  unfold flV
  obtain ⟨f1, f2, f3⟩ := f
  dsimp only at HP HC HO ⊢
  generalize (⟨f1.toArray⟩ : ByteArray) = x1 at HP ⊢
  clear hz
  have a0 : (w.alloc (.cells #[.string x1, .int .i64 f2, .int .i64 f3] 34)).cell? ⟨w.heap.size, 1, none⟩ = some (.int .i64 f2) := by simp
  have a1 : (w.alloc (.cells #[.string x1, .int .i64 f2, .int .i64 f3] 34)).cell? ⟨w.heap.size, 2, none⟩ = some (.int .i64 f3) := by simp
  have q0 := (Q.refl w).alloc (.cells #[.string x1, .int .i64 f2, .int .i64 f3] 34)
  have HW : Hid (∀ w1, Q (w.alloc (.cells #[.string x1, .int .i64 f2, .int .i64 f3] 34)) w1 → w1.cell? ⟨w.heap.size, 1, none⟩ = some (.int .i64 f2) ∧ w1.cell? ⟨w.heap.size, 2, none⟩ = some (.int .i64 f3)) := fun w1 q => ⟨(q.cell (p := ⟨w.heap.size, 1, none⟩) (by simp)).trans a0, (q.cell (p := ⟨w.heap.size, 2, none⟩) (by simp)).trans a1⟩
  have HQ0 := hide q0
  clear a0 a1 q0
  cases v1
  · go_enter Tryd.func29, Tryd.ntmps29
    go_wp2_with fail
    refine (unhide HP _).mono ?_
    rintro e w1 ⟨rfl, q1⟩
    go_wp2_with fail
    go_ret
    exact ⟨ret_bool (by rw [unhide HO]; rfl), (unhide HQ0).trans q1⟩
  · cases v2
    · go_enter Tryd.func29, Tryd.ntmps29
      go_wp2_with fail
      refine (unhide HP _).mono ?_
      rintro e w1 ⟨rfl, q1⟩
      obtain ⟨b1, b2⟩ := unhide HW w1 q1
      go_wp2_with (go_at_call 18; refine (unhide HC _).mono ?_; rintro e w' ⟨rfl, rfl⟩)
      go_ret
      exact ⟨ret_bool (by rw [unhide HO]; rfl), (unhide HQ0).trans q1⟩
    · by_cases h1 : 1 ≤ f3 <;> by_cases h2 : f3 ≤ c
      all_goals
        go_enter Tryd.func29, Tryd.ntmps29
        go_wp2_with fail
        refine (unhide HP _).mono ?_
        rintro e w1 ⟨rfl, q1⟩
        obtain ⟨b1, b2⟩ := unhide HW w1 q1
        go_wp2_with (go_at_call 18; refine (unhide HC _).mono ?_; rintro e w' ⟨rfl, rfl⟩)
        go_ret
        exact ⟨ret_bool (by rw [unhide HO]; simp [h1, h2]), (unhide HQ0).trans q1⟩

set_option maxHeartbeats 1000000 in
theorem fw1_any (b : Fl) (t : Int) (g : Nat) (w : World) (hc : w.cell? ⟨g, 2, none⟩ = some (.int .i64 t)) (hp : g < w.heap.size) :
    Calls Tryd.prog 40 #[flV b, .pointer (some ⟨g, 0, none⟩)] w fun e w' => e = .returned (.bool (b.2.2 == t)) ∧ Q w w' := by
  unfold flV
  obtain ⟨b1, b2, b3⟩ := b
  dsimp only
  generalize (⟨b1.toArray⟩ : ByteArray) = x1
  have hc2 : ∀ o, (w.alloc o).cell? ⟨g, 2, none⟩ = some (.int .i64 t) := fun o => by
    rw [← hc]; exact ((Q.refl w).alloc o).cell (p := ⟨g, 2, none⟩) hp
  go_enter Tryd.func40, Tryd.ntmps40
  go_wp2_with fail
  go_ret
  exact ⟨rfl, (Q.refl _).alloc _⟩

set_option maxHeartbeats 2000000 in
theorem fw_ix (xs : List (Fl)) (pr : Fl → Bool) (ao : Option Addr) (cap : Nat) (p : Addr) (w : World) (hr : RowG fv 3 w ao xs) (hs : xs.length ≤ 140737488355328) (hcl : ∀ wr, Q w wr → ∀ b ∈ xs, Calls Tryd.prog 40 #[flV b, .pointer (some p)] wr fun e w' => e = .returned (.bool (pr b)) ∧ Q wr w') :
    Calls Tryd.prog 50 #[.slice ao xs.length cap, .func (.func 40) #[] #[.pointer (some p)]] w fun e w' => e = .returned (.int .i64 (ixB pr xs)) ∧ Q w w' := by
  have HCL := hide hcl
  clear hcl
  go_enter Tryd.func50, Tryd.ntmps50
  go_wp2_with fail
  go_loopw [8] (fun i wr => ∃ k : Nat, k ≤ xs.length ∧ i = .int .i64 k ∧ Hid ((xs.take k).any pr = false) ∧ Q w wr) (fun i _ => xs.length - (intOf i).toNat)
  case atStart => exact ⟨0, Nat.zero_le _, rfl, rfl, Q.refl _⟩
  case round =>
    obtain ⟨k, hk, rfl, HA, hq⟩ := hrel
    by_cases hlt : k < xs.length
    · rcases hr.q hq with he | ⟨g, o, rfl, hg, hcell⟩
      · rw [he] at hlt; simp at hlt
      obtain ⟨b, hb⟩ : ∃ b, xs[k]? = some b := ⟨xs[k], List.getElem?_eq_getElem hlt⟩
      have c0 : wr.cell? ⟨g, o + k * 3, none⟩ = some (.string ⟨b.1.toArray⟩) := hcell k 0 b _ hb (by decide) rfl
      have c1 : wr.cell? ⟨g, o + k * 3 + 1, none⟩ = some (.int .i64 b.2.1) := hcell k 1 b _ hb (by decide) rfl
      have c2 : wr.cell? ⟨g, o + k * 3 + 2, none⟩ = some (.int .i64 b.2.2) := hcell k 2 b _ hb (by decide) rfl
      have hcon := hide (unhide HCL wr hq b (List.mem_of_getElem? hb))
      have HT := hide (anyt_succ pr hb)
      have HH := hide (fun h => ixB_at (p := pr) hb HA.out h)
      clear hcell hr hb
      cases hok : pr b
      · have HO : Hid ((xs.take (k + 1)).any pr = false) := by
          show _ = false
          rw [unhide HT, HA.out]; simpa using hok
        rw [hok] at hcon
        clear hok HT HH HA
        go_wp2_with (go_at_call 40; refine (unhide hcon).mono ?_; rintro e w2 ⟨rfl, q2⟩)
        go_roundw
        case rel => exact ⟨k + 1, by omega, by go_num, HO, hq.trans q2⟩
        case measure => simp [intOf]; omega
      · have HO : Hid (ixB pr xs = k) := unhide HH hok
        rw [hok] at hcon
        clear hok HT HH HA
        go_wp2_with (go_at_call 40; refine (unhide hcon).mono ?_; rintro e w2 ⟨rfl, q2⟩)
        go_ret
        exact ⟨ret_int HO.out.symm, hq.trans q2⟩
    · have HO : Hid (ixB pr xs = -1) := by
        show _ = _
        have := HA.out
        rw [List.take_of_length_le (by omega)] at this
        exact ixB_no this
      clear HA
      go_wp2_with fail
      go_ret
      exact ⟨ret_int HO.out.symm, hq⟩

set_option maxHeartbeats 1000000 in
theorem fw_cx (xs : List (Fl)) (pr : Fl → Bool) (ao : Option Addr) (cap : Nat) (p : Addr) (w : World) (hr : RowG fv 3 w ao xs) (hs : xs.length ≤ 140737488355328) (hcl : ∀ wr, Q w wr → ∀ b ∈ xs, Calls Tryd.prog 40 #[flV b, .pointer (some p)] wr fun e w' => e = .returned (.bool (pr b)) ∧ Q wr w') :
    Calls Tryd.prog 39 #[.slice ao xs.length cap, .func (.func 40) #[] #[.pointer (some p)]] w fun e w' => e = .returned (.bool (xs.any pr)) ∧ Q w w' := by
  have hC := hide (fw_ix xs pr ao cap p w hr hs hcl)
  have HD : Hid (decide (0 ≤ ixB pr xs) = xs.any pr) := ixB_dec _ _
  generalize ixB pr xs = z at hC HD
  clear hcl
  go_enter Tryd.func39, Tryd.ntmps39
  go_wp2_with fail
  refine (unhide hC).mono ?_
  rintro e w2 ⟨rfl, q⟩
  go_wp2_with fail
  go_ret
  exact ⟨ret_bool (unhide HD), q⟩


end Go.Proofs.YtjalklmgdkhekaaDoor
