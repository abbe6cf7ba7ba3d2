/- May a graph be, as package graph's May answers; the conditions: the graph lies in memory, no text is longer than a string can be. -/
import Derived.Test.YtfadjppokbolhaaGreatDoorGfEdge
import Derived.Test.YtfadjppokbolhaaGreatDoorAfQuiet
namespace Go.Proofs.YtfadjppokbolhaaGreatDoor
open Go.RowKit

set_option maxRecDepth 20000 in
set_option maxHeartbeats 4000000 in
theorem me1_any (x : EdA) (ps : List Po) (po : Option Addr) (pc : Nat) (p : Addr) (w : World) (hx : EdRd w x) (hz : EdZ x.1) (hc : w.cell? p = some (.slice po ps.length pc)) (hp : p.block < w.heap.size) (hr : RowO w po ps) (hs : ps.length ≤ 140737488355328) :
    Calls Tryz.prog 44 #[.agg #[.slice x.2.1.1 x.1.1.length x.2.1.2, .slice x.2.2.1.1 x.1.2.1.length x.2.2.1.2, .slice x.2.2.2.1.1 x.1.2.2.1.length x.2.2.2.1.2, .slice x.2.2.2.2.1 x.1.2.2.2.1.length x.2.2.2.2.2, .string ⟨x.1.2.2.2.2.1.toArray⟩, .bool x.1.2.2.2.2.2.1, .string ⟨x.1.2.2.2.2.2.2.toArray⟩], .pointer (some p)] w fun e w' => e = .returned (.bool (!edM' ps x.1)) ∧ Q w w' := by
  have qb : Q w (bx1' w x) := (Q.refl w).alloc _
  have HE : Hid (∀ w2, Q w w2 → Calls Tryz.prog 45 #[.agg #[.slice x.2.1.1 x.1.1.length x.2.1.2, .slice x.2.2.1.1 x.1.2.1.length x.2.2.1.2, .slice x.2.2.2.1.1 x.1.2.2.1.length x.2.2.2.1.2, .slice x.2.2.2.2.1 x.1.2.2.2.1.length x.2.2.2.2.2, .string ⟨x.1.2.2.2.2.1.toArray⟩, .bool x.1.2.2.2.2.2.1, .string ⟨x.1.2.2.2.2.2.2.toArray⟩]] w2 fun e w' => e = .returned (.bool (edOk x.1)) ∧ Q w2 w') := fun w2 q => edMay_any x w2 (hx.q q) hz
  have HB : Hid (∀ w2, Q (bx1' w x) w2 → w2.cell? ⟨w.heap.size, 6, none⟩ = some (.string ⟨x.1.2.2.2.2.2.2.toArray⟩)) := fun w2 q => ((Blk.new w (ev x).toArray 41).q q).cell 6 rfl
  have HPC : Hid (∀ w2, Q w w2 → w2.cell? p = some (.slice po ps.length pc)) := fun w2 q => (q.cell hp).trans hc
  have HH := hide (fun w2 (q : Q w w2) => hp_any ps ⟨x.1.2.2.2.2.2.2.toArray⟩ po pc w2 (hr.q q) hs)
  have HM : Hid (edM' ps x.1 = (edOk x.1 && ((bl (⟨x.1.2.2.2.2.2.2.toArray⟩ : ByteArray)).isEmpty || pooB ps (bl ⟨x.1.2.2.2.2.2.2.toArray⟩)))) := rfl
  clear hx hz hc hr
  cases hok : edOk x.1
  · have HO : Hid ((!edM' ps x.1) = true) := by show _ = _; rw [HM.out, hok]; rfl
    rw [hok] at HE
    clear hok HM
    go_enter Tryz.func44, Tryz.ntmps44
    go_wp2_with fail
    change Calls _ _ _ (bx1' w x) _
    refine (unhide HE _ qb).mono ?_
    rintro e w1 ⟨rfl, q1⟩
    go_wp2_with fail
    go_ret
    exact ⟨ret_bool HO.out.symm, qb.trans q1⟩
  · rw [hok] at HE HM
    clear hok
    by_cases h0 : bl (⟨x.1.2.2.2.2.2.2.toArray⟩ : ByteArray) = []
    · have HO : Hid ((!edM' ps x.1) = false) := by show _ = _; rw [HM.out, h0]; rfl
      have g1 := is_keyn h0
      have g2 := is_emp h0
      clear h0 HM
      have HBX : Hid (∀ w2, Q (w.alloc (.cells #[.slice x.2.1.1 x.1.1.length x.2.1.2, .slice x.2.2.1.1 x.1.2.1.length x.2.2.1.2, .slice x.2.2.2.1.1 x.1.2.2.1.length x.2.2.2.1.2, .slice x.2.2.2.2.1 x.1.2.2.2.1.length x.2.2.2.2.2, .string ⟨x.1.2.2.2.2.1.toArray⟩, .bool x.1.2.2.2.2.2.1, .string ⟨x.1.2.2.2.2.2.2.toArray⟩] 41)) w2 → w2.cell? ⟨w.heap.size, 6, none⟩ = some (.string ⟨x.1.2.2.2.2.2.2.toArray⟩)) := HB
      clear HB
      generalize (⟨x.1.2.2.2.2.2.2.toArray⟩ : ByteArray) = pl at *
      go_enter Tryz.func44, Tryz.ntmps44
      go_wp2_with fail
      refine (unhide HE _ ((Q.refl w).alloc _)).mono ?_
      rintro e w1 ⟨rfl, q1⟩
      have c6 := unhide HBX w1 q1
      go_wp2_with fail
      go_ret
      exact ⟨ret_bool HO.out.symm, ((Q.refl w).alloc _).trans q1⟩
    · have HO : Hid ((!edM' ps x.1) = !pooB ps (bl ⟨x.1.2.2.2.2.2.2.toArray⟩)) := by
        show _ = _
        have : (bl (⟨x.1.2.2.2.2.2.2.toArray⟩ : ByteArray)).isEmpty = false := by
          cases h : bl (⟨x.1.2.2.2.2.2.2.toArray⟩ : ByteArray) with | nil => exact absurd h h0 | cons a b => rfl
        rw [HM.out, this]; rfl
      have g1 := no_keyn h0
      have g2 := no_emp h0
      clear h0 HM
      generalize pooB ps (bl ⟨x.1.2.2.2.2.2.2.toArray⟩) = pb at HH HO
      have HBX : Hid (∀ w2, Q (w.alloc (.cells #[.slice x.2.1.1 x.1.1.length x.2.1.2, .slice x.2.2.1.1 x.1.2.1.length x.2.2.1.2, .slice x.2.2.2.1.1 x.1.2.2.1.length x.2.2.2.1.2, .slice x.2.2.2.2.1 x.1.2.2.2.1.length x.2.2.2.2.2, .string ⟨x.1.2.2.2.2.1.toArray⟩, .bool x.1.2.2.2.2.2.1, .string ⟨x.1.2.2.2.2.2.2.toArray⟩] 41)) w2 → w2.cell? ⟨w.heap.size, 6, none⟩ = some (.string ⟨x.1.2.2.2.2.2.2.toArray⟩)) := HB
      clear HB
      generalize (⟨x.1.2.2.2.2.2.2.toArray⟩ : ByteArray) = pl at *
      go_enter Tryz.func44, Tryz.ntmps44
      go_wp2_with fail
      refine (unhide HE _ ((Q.refl w).alloc _)).mono ?_
      rintro e w1 ⟨rfl, q1⟩
      have c6 := unhide HBX w1 q1
      have c7 := unhide HPC w1 (((Q.refl w).alloc _).trans q1)
      go_wp2_with fail
      refine (unhide HH _ (((Q.refl w).alloc _).trans q1)).mono ?_
      rintro e w2 ⟨rfl, q2⟩
      go_wp2_with fail
      go_ret
      exact ⟨ret_bool HO.out.symm, ((Q.refl w).alloc _).trans (q1.trans q2)⟩

set_option maxHeartbeats 2000000 in
theorem es_ix (xs : List (EdA)) (pr : EdA → Bool) (ao : Option Addr) (cap : Nat) (p : Addr) (w : World) (hr : RowG ev 7 w ao xs) (hs : xs.length ≤ 140737488355328) (hcl : ∀ wr, Q w wr → ∀ b ∈ xs, Calls Tryz.prog 44 #[.agg #[.slice b.2.1.1 b.1.1.length b.2.1.2, .slice b.2.2.1.1 b.1.2.1.length b.2.2.1.2, .slice b.2.2.2.1.1 b.1.2.2.1.length b.2.2.2.1.2, .slice b.2.2.2.2.1 b.1.2.2.2.1.length b.2.2.2.2.2, .string ⟨b.1.2.2.2.2.1.toArray⟩, .bool b.1.2.2.2.2.2.1, .string ⟨b.1.2.2.2.2.2.2.toArray⟩], .pointer (some p)] wr fun e w' => e = .returned (.bool (pr b)) ∧ Q wr w') :
    Calls Tryz.prog 59 #[.slice ao xs.length cap, .func (.func 44) #[] #[.pointer (some p)]] w fun e w' => e = .returned (.int .i64 (ixB pr xs)) ∧ Q w w' := by
  have HCL := hide hcl
  clear hcl
  go_enter Tryz.func59, Tryz.ntmps59
  go_wp2_with fail
  go_loopw [8] (fun i wr => ∃ k : Nat, k ≤ xs.length ∧ i = .int .i64 k ∧ Hid ((xs.take k).any pr = false) ∧ Q w wr) (fun i _ => xs.length - (intOf i).toNat)
  case atStart => exact ⟨0, Nat.zero_le _, rfl, rfl, Q.refl _⟩
  case round =>
    obtain ⟨k, hk, rfl, HA, hq⟩ := hrel
    by_cases hlt : k < xs.length
    · rcases hr.q hq with he | ⟨g, o, rfl, hg, hcell⟩
      · rw [he] at hlt; simp at hlt
      obtain ⟨b, hb⟩ : ∃ b, xs[k]? = some b := ⟨xs[k], List.getElem?_eq_getElem hlt⟩
      have c0 : wr.cell? ⟨g, o + k * 7, none⟩ = some (.slice b.2.1.1 b.1.1.length b.2.1.2) := hcell k 0 b _ hb (by decide) rfl
      have c1 : wr.cell? ⟨g, o + k * 7 + 1, none⟩ = some (.slice b.2.2.1.1 b.1.2.1.length b.2.2.1.2) := hcell k 1 b _ hb (by decide) rfl
      have c2 : wr.cell? ⟨g, o + k * 7 + 2, none⟩ = some (.slice b.2.2.2.1.1 b.1.2.2.1.length b.2.2.2.1.2) := hcell k 2 b _ hb (by decide) rfl
      have c3 : wr.cell? ⟨g, o + k * 7 + 3, none⟩ = some (.slice b.2.2.2.2.1 b.1.2.2.2.1.length b.2.2.2.2.2) := hcell k 3 b _ hb (by decide) rfl
      have c4 : wr.cell? ⟨g, o + k * 7 + 4, none⟩ = some (.string ⟨b.1.2.2.2.2.1.toArray⟩) := hcell k 4 b _ hb (by decide) rfl
      have c5 : wr.cell? ⟨g, o + k * 7 + 5, none⟩ = some (.bool b.1.2.2.2.2.2.1) := hcell k 5 b _ hb (by decide) rfl
      have c6 : wr.cell? ⟨g, o + k * 7 + 6, none⟩ = some (.string ⟨b.1.2.2.2.2.2.2.toArray⟩) := hcell k 6 b _ hb (by decide) rfl
      have hcon := hide (unhide HCL wr hq b (List.mem_of_getElem? hb))
      have HT := hide (anyt_succ pr hb)
      have HH := hide (fun h => ixB_at (p := pr) hb HA.out h)
      clear hcell hr hb
      cases hok : pr b
      · have HO : Hid ((xs.take (k + 1)).any pr = false) := by
          show _ = false
          rw [unhide HT, HA.out]; simpa using hok
        rw [hok] at hcon
        clear hok HT HH HA
        go_wp2_with (go_at_call 44; refine (unhide hcon).mono ?_; rintro e w2 ⟨rfl, q2⟩)
        go_roundw
        case rel => exact ⟨k + 1, by omega, by go_num, HO, hq.trans q2⟩
        case measure => simp [intOf]; omega
      · have HO : Hid (ixB pr xs = k) := unhide HH hok
        rw [hok] at hcon
        clear hok HT HH HA
        go_wp2_with (go_at_call 44; refine (unhide hcon).mono ?_; rintro e w2 ⟨rfl, q2⟩)
        go_ret
        exact ⟨ret_int HO.out.symm, hq.trans q2⟩
    · have HO : Hid (ixB pr xs = -1) := by
        show _ = _
        have := HA.out
        rw [List.take_of_length_le (by omega)] at this
        exact ixB_no this
      clear HA
      go_wp2_with fail
      go_ret
      exact ⟨ret_int HO.out.symm, hq⟩

set_option maxHeartbeats 1000000 in
theorem es_cx (xs : List (EdA)) (pr : EdA → Bool) (ao : Option Addr) (cap : Nat) (p : Addr) (w : World) (hr : RowG ev 7 w ao xs) (hs : xs.length ≤ 140737488355328) (hcl : ∀ wr, Q w wr → ∀ b ∈ xs, Calls Tryz.prog 44 #[.agg #[.slice b.2.1.1 b.1.1.length b.2.1.2, .slice b.2.2.1.1 b.1.2.1.length b.2.2.1.2, .slice b.2.2.2.1.1 b.1.2.2.1.length b.2.2.2.1.2, .slice b.2.2.2.2.1 b.1.2.2.2.1.length b.2.2.2.2.2, .string ⟨b.1.2.2.2.2.1.toArray⟩, .bool b.1.2.2.2.2.2.1, .string ⟨b.1.2.2.2.2.2.2.toArray⟩], .pointer (some p)] wr fun e w' => e = .returned (.bool (pr b)) ∧ Q wr w') :
    Calls Tryz.prog 43 #[.slice ao xs.length cap, .func (.func 44) #[] #[.pointer (some p)]] w fun e w' => e = .returned (.bool (xs.any pr)) ∧ Q w w' := by
  have hC := hide (es_ix xs pr ao cap p w hr hs hcl)
  have HD : Hid (decide (0 ≤ ixB pr xs) = xs.any pr) := ixB_dec _ _
  generalize ixB pr xs = z at hC HD
  clear hcl
  go_enter Tryz.func43, Tryz.ntmps43
  go_wp2_with fail
  refine (unhide hC).mono ?_
  rintro e w2 ⟨rfl, q⟩
  go_wp2_with fail
  go_ret
  exact ⟨ret_bool (unhide HD), q⟩

set_option maxHeartbeats 2000000 in
theorem mayEs_any (es : List EdA) (ps : List Po) (eo po : Option Addr) (ec pc : Nat) (w : World) (he : RowG ev 7 w eo es) (hq : ∀ x ∈ es, EdRd w x ∧ EdZ x.1) (hl : es.length ≤ 140737488355328) (hr : RowO w po ps) (hs : ps.length ≤ 140737488355328) :
    Calls Tryz.prog 30 #[.slice eo es.length ec, .slice po ps.length pc] w fun e w' => e = .returned (.bool (esB ps (es.map Prod.fst))) ∧ Q w w' := by
  by_cases h16 : 16 < es.length
  · have HO : Hid (esB ps (es.map Prod.fst) = false) := by show _ = false; unfold esB; rw [decide_eq_false (by rw [List.length_map]; omega)]; rfl
    have h16' : (16 : Int) < (es.length : Int) := by omega
    clear hr he hq
    go_enter Tryz.func30, Tryz.ntmps30
    go_wp2_with fail
    go_ret
    exact ⟨ret_bool HO.out.symm, (Q.refl _).alloc _⟩
  have h16' : (es.length : Int) ≤ 16 := by omega
  have HO : Hid (esB ps (es.map Prod.fst) = !es.any (fun x => !edM' ps x.1)) := by
    show _ = _
    unfold esB
    rw [decide_eq_true (by rw [List.length_map]; omega), anyn_all, List.all_map]; simp [Function.comp_def]
  have q0 : Q w (w.alloc (.cells #[.slice po ps.length pc] 23)) := (Q.refl w).alloc _
  have HC := hide (es_cx es (fun x => !edM' ps x.1) eo ec ⟨w.heap.size, 0, none⟩ (w.alloc (.cells #[.slice po ps.length pc] 23)) (he.q q0) hl (fun wr q b hb =>
    me1_any b ps po pc _ wr ((hq b hb).1.q (q0.trans q)) (hq b hb).2 ((q.cell (by simp)).trans (by simp)) (Nat.lt_of_lt_of_le (by simp) q.size) (hr.q (q0.trans q)) hs))
  generalize es.any (fun x => !edM' ps x.1) = b at HC HO
  clear hr he hq
  go_enter Tryz.func30, Tryz.ntmps30
  go_wp2_with fail
  refine (unhide HC).mono ?_
  rintro e w1 ⟨rfl, q⟩
  go_wp2_with fail
  go_ret
  exact ⟨ret_bool HO.out.symm, q0.trans q⟩

theorem aft_boxP (w : World) (x : ByteArray) (y : Int) (t : TypeId) : (∀ u : Aft (w.alloc (.cells #[.string x, .int .i64 y] t)), u.to.cell? ⟨w.heap.size, 0, none⟩ = some (.string x)) ∧ ∀ u : Aft (w.alloc (.cells #[.string x, .int .i64 y] t)), u.to.cell? ⟨w.heap.size, 1, none⟩ = some (.int .i64 y) :=
  ⟨Aft.cell (by simp) (by simp), Aft.cell (by simp) (by simp)⟩

set_option maxRecDepth 20000 in
set_option maxHeartbeats 8000000 in
theorem mayPs_any (ps : List Po) (ao : Option Addr) (cap : Nat) (w : World) (hr : RowO w ao ps) (hz : ∀ x ∈ ps, x.1.length ≤ maxLen) (hc : ps.length ≤ cap) (hcap : cap ≤ maxLen) :
    Calls Tryz.prog 28 #[.slice ao ps.length cap] w fun e w' => e = .returned (.bool (plsB ps)) ∧ Q w w' := by
  by_cases h4 : 4 < ps.length
  · have HO : Hid (plsB ps = false) := by show _ = false; unfold plsB; rw [decide_eq_false (by omega)]; rfl
    have h4' : (4 : Int) < (ps.length : Int) := by omega
    have hm : ps.length ≤ 9223372036854775807 := by unfold maxLen at hcap; omega
    go_enter Tryz.func28, Tryz.ntmps28
    go_wp2_with fail
    go_ret
    exact ⟨ret_bool HO.out.symm, Q.refl _⟩
  have h4' : (ps.length : Int) ≤ 4 := by omega
  have HS : Hid (plsB ps = plsF [] ps) := by show _ = _; unfold plsB; rw [decide_eq_true (by omega)]; rfl
  go_enter Tryz.func28, Tryz.ntmps28
  go_wp2_with fail
  go_loopw [11] (fun i wr => ∃ k : Nat, k ≤ ps.length ∧ i = .int .i64 k ∧ Hid (plsF [] ps = plsF (ps.take k) (ps.drop k)) ∧ Q w wr) (fun i _ => ps.length - (intOf i).toNat)
  case atStart => exact ⟨0, Nat.zero_le _, rfl, by show _ = _; simp, Q.refl _⟩
  case round =>
    obtain ⟨k, hk, rfl, HA, hq⟩ := hrel
    by_cases hlt : k < ps.length
    · rcases hr.q hq with he | ⟨g, o, rfl, hg, hcell⟩
      · rw [he] at hlt; simp at hlt
      · obtain ⟨b, hb⟩ : ∃ b, ps[k]? = some b := ⟨ps[k], List.getElem?_eq_getElem hlt⟩
        have c1 : wr.cell? ⟨g, o + k * 2, none⟩ = some (.string ⟨b.1.toArray⟩) := hcell k 0 b _ hb (by decide) rfl
        have c2 : wr.cell? ⟨g, o + k * 2 + 1, none⟩ = some (.int .i64 b.2) := hcell k 1 b _ hb (by decide) rfl
        have hsz : (⟨b.1.toArray⟩ : ByteArray).size ≤ maxLen := by rw [mk_size']; exact hz b (List.mem_of_getElem? hb)
        have HM := hide (fun w' => may_any ⟨b.1.toArray⟩ w' hsz)
        have HAT := hide (fun w' (h : Q w w') => hp_take ps k hk ⟨b.1.toArray⟩ (some ⟨g, o, none⟩) cap w' (hr.q h) (by omega))
        have HST : Hid (plsB ps = (((mayB ⟨b.1.toArray⟩ && (decide (1 ≤ b.2) && decide (b.2 ≤ 8))) && !pooB (ps.take k) (bl ⟨b.1.toArray⟩)) && plsF (ps.take (k + 1)) (ps.drop (k + 1)))) := by
          show _ = _
          rw [HS.out, HA.out, plsF_at hb, mayB_mayL]; rfl
        have HN : Hid (poOk b = true → pooB (ps.take k) b.1 = false → plsF [] ps = plsF (ps.take (k + 1)) (ps.drop (k + 1))) := by
          show _ → _ → _
          intro h1 h2
          rw [HA.out, plsF_at hb, h1, h2]; rfl
        have HPO : Hid (poOk b = (mayB ⟨b.1.toArray⟩ && (decide (1 ≤ b.2) && decide (b.2 ≤ 8)))) := by show _ = _; unfold poOk; rw [mayB_mayL]
        have k0 : (0 : Int) ≤ (k : Int) := Int.natCast_nonneg _
        have k1 : (k : Int) < (ps.length : Int) := by omega
        have k2 : (k : Int) ≤ (cap : Int) := by omega
        clear hcell hr hb hz hsz
        have HPB : Hid (pooB (ps.take k) b.1 = pooB (ps.take k) (bl ⟨b.1.toArray⟩)) := rfl
        generalize (⟨b.1.toArray⟩ : ByteArray) = nm at *
        generalize hpb : pooB (ps.take k) (bl nm) = pb at *
        clear hpb
        obtain ⟨b1, d⟩ := b
        dsimp only at *
        obtain ⟨a1, a2⟩ := aft_boxP wr nm d 59
        have hne := Aft.ne (wr.alloc (.cells #[.string nm, .int .i64 d] 59))
        have HQ := hide (hq.alloc (.cells #[.string nm, .int .i64 d] 59))
        by_cases hd1' : d < 1
        · have HO : Hid (plsB ps = false) := by show _ = _; rw [HST.out, decide_eq_false (show ¬ 1 ≤ d by omega)]; simp
          clear HA HST HN HPO HPB
          go_wp2_with fail
          refine wp_region_aft (by kernel_rfl) (by kernel_rfl) ?_
          repeat (go_big_quiet_step (first | (go_at_call 39; exact Calls.aft (unhide HM _)) | (go_at_call 40; exact Calls.aft (unhide HAT _ ((unhide HQ).trans (Aft.q _))))))
          refine wpQuiet_nil ?_
          intro _ hw'
          obtain ⟨u, hw''⟩ := hw'
          subst hw''
          have qu := u.q
          generalize u.to = w1 at qu ⊢
          clear a1 a2 hne
          go_wp2_with fail
          go_ret
          exact ⟨ret_bool HO.out.symm, (unhide HQ).trans qu⟩
        have hd1 : 1 ≤ d := by omega
        clear hd1'
        by_cases hd8' : 8 < d
        · have HO : Hid (plsB ps = false) := by show _ = _; rw [HST.out, decide_eq_false (show ¬ d ≤ 8 by omega)]; simp
          have hd8x : decide (d ≤ 8) = false := decide_eq_false (by omega)
          clear HA HST HN HPO HPB
          go_wp2_with fail
          refine wp_region_aft (by kernel_rfl) (by kernel_rfl) ?_
          repeat (go_big_quiet_step (first | (go_at_call 39; exact Calls.aft (unhide HM _)) | (go_at_call 40; exact Calls.aft (unhide HAT _ ((unhide HQ).trans (Aft.q _))))))
          refine wpQuiet_nil ?_
          intro _ hw'
          obtain ⟨u, hw''⟩ := hw'
          subst hw''
          have qu := u.q
          generalize u.to = w1 at qu ⊢
          clear a1 a2 hne
          go_wp2_with fail
          go_ret
          exact ⟨ret_bool HO.out.symm, (unhide HQ).trans qu⟩
        have hd8 : d ≤ 8 := by omega
        clear hd8'
        cases hmb : mayB nm
        · have HO : Hid (plsB ps = false) := by show _ = _; rw [HST.out, hmb]; simp
          rw [hmb] at HM
          clear HA HST HN HPO HPB hmb
          go_wp2_with fail
          refine wp_region_aft (by kernel_rfl) (by kernel_rfl) ?_
          repeat (go_big_quiet_step (first | (go_at_call 39; exact Calls.aft (unhide HM _)) | (go_at_call 40; exact Calls.aft (unhide HAT _ ((unhide HQ).trans (Aft.q _))))))
          refine wpQuiet_nil ?_
          intro _ hw'
          obtain ⟨u, hw''⟩ := hw'
          subst hw''
          have qu := u.q
          generalize u.to = w1 at qu ⊢
          clear a1 a2 hne
          go_wp2_with fail
          go_ret
          exact ⟨ret_bool HO.out.symm, (unhide HQ).trans qu⟩
        by_cases hpp : pb = true
        · subst hpp
          have HO : Hid (plsB ps = false) := by show _ = _; rw [HST.out]; simp
          rw [hmb] at HM
          clear HA HST HN HPO HPB hmb
          go_wp2_with fail
          refine wp_region_aft (by kernel_rfl) (by kernel_rfl) ?_
          repeat (go_big_quiet_step (first | (go_at_call 39; exact Calls.aft (unhide HM _)) | (go_at_call 40; exact Calls.aft (unhide HAT _ ((unhide HQ).trans (Aft.q _))))))
          refine wpQuiet_nil ?_
          intro _ hw'
          obtain ⟨u, hw''⟩ := hw'
          subst hw''
          have qu := u.q
          generalize u.to = w1 at qu ⊢
          clear a1 a2 hne
          go_wp2_with fail
          go_ret
          exact ⟨ret_bool HO.out.symm, (unhide HQ).trans qu⟩
        · obtain rfl : pb = false := by simpa using hpp
          have HO : Hid (plsF [] ps = plsF (ps.take (k + 1)) (ps.drop (k + 1))) := unhide HN (by rw [HPO.out, hmb, decide_eq_true hd1, decide_eq_true hd8]; rfl) HPB.out
          rw [hmb] at HM
          clear HA HST HN HPO HPB hmb hpp
          go_wp2_with fail
          refine wp_region_aft (by kernel_rfl) (by kernel_rfl) ?_
          repeat (go_big_quiet_step (first | (go_at_call 39; exact Calls.aft (unhide HM _)) | (go_at_call 40; exact Calls.aft (unhide HAT _ ((unhide HQ).trans (Aft.q _))))))
          refine wpQuiet_nil ?_
          intro _ hw'
          obtain ⟨u, hw''⟩ := hw'
          subst hw''
          have qu := u.q
          generalize u.to = w1 at qu ⊢
          clear a1 a2 hne
          go_wp2_with fail
          go_roundw
          case rel => exact ⟨k + 1, by omega, by go_num, HO, (unhide HQ).trans qu⟩
          case measure => simp [intOf]; omega
    · have HO : Hid (plsB ps = true) := by
        show _ = _
        rw [HS.out, HA.out, plsF_end (by omega)]
      clear HA HS
      go_wp2_with fail
      go_ret
      exact ⟨ret_bool HO.out.symm, hq⟩

set_option maxHeartbeats 2000000 in
theorem gMay_any (g : Gh) (es : List EdA) (eo po dd : Option Addr) (ec pc dc : Nat) (w : World) (hg : GfR w g es eo po dd) (hc : g.2.1.length ≤ pc) (hcap : pc ≤ maxLen) :
    Calls Tryz.prog 22 #[.agg #[.slice eo es.length ec, .slice po g.2.1.length pc, .slice dd g.2.2.length dc]] w fun e w' => e = .returned (.bool (gmB g)) ∧ Q w w' := by
  have S1 := hide (fun w2 (q : Q w w2) => mayPs_any g.2.1 po pc w2 (hg.p.q q) hg.z.p hc hcap)
  have S2 := hide (fun w2 (q : Q w w2) => list_any g.2.2 dd dc w2 (hg.d.q q) hg.z.d)
  have S3 := hide (fun w2 (q : Q w w2) => mayEs_any es g.2.1 eo po ec pc w2 (hg.e.q q) (fun x hx => ⟨(hg.q x hx).q q, hg.ez hx⟩) (by rw [hg.len]; exact hg.z.le) (hg.p.q q) hg.z.lp)
  rw [hg.em] at S3
  have HO : Hid (gmB g = (plsB g.2.1 && (ptsB g.2.2 && esB g.2.1 g.1))) := rfl
  have qb : Q w (w.alloc (.cells #[.slice eo es.length ec, .slice po g.2.1.length pc, .slice dd g.2.2.length dc] 26)) := (Q.refl w).alloc _
  have b1 : Blk (w.alloc (.cells #[.slice eo es.length ec, .slice po g.2.1.length pc, .slice dd g.2.2.length dc] 26)) w.heap.size #[.slice eo es.length ec, .slice po g.2.1.length pc, .slice dd g.2.2.length dc] 26 := Blk.new w _ _
  have HB1 := hide b1
  clear hg hc hcap b1
  go_enter Tryz.func22, Tryz.ntmps22
  go_wp2_with fail
  generalize w.alloc (.cells #[.slice eo es.length ec, .slice po g.2.1.length pc, .slice dd g.2.2.length dc] 26) = wb at *
  generalize hX : w.heap.size = X at HB1 ⊢
  clear hX
  generalize plsB g.2.1 = r1 at *
  generalize ptsB g.2.2 = r2 at *
  generalize esB g.2.1 g.1 = r3 at *
  refine (unhide S1 _ qb).mono ?_
  rintro e w1 ⟨rfl, q1⟩
  cases r1
  · go_wp2_with fail
    go_ret
    exact ⟨ret_bool HO.out.symm, qb.trans q1⟩
  have c1 : w1.cell? ⟨X, 2, none⟩ = some (.slice dd g.2.2.length dc) := ((unhide HB1).q q1).cell 2 rfl
  go_wp2_with fail
  refine (unhide S2 _ (qb.trans q1)).mono ?_
  rintro e w2 ⟨rfl, q2⟩
  clear c1
  cases r2
  · go_wp2_with fail
    go_ret
    exact ⟨ret_bool HO.out.symm, qb.trans (q1.trans q2)⟩
  have c2 : w2.cell? ⟨X, 0, none⟩ = some (.slice eo es.length ec) := ((unhide HB1).q (q1.trans q2)).cell 0 rfl
  have c3 : w2.cell? ⟨X, 1, none⟩ = some (.slice po g.2.1.length pc) := ((unhide HB1).q (q1.trans q2)).cell 1 rfl
  go_wp2_with fail
  refine (unhide S3 _ (qb.trans (q1.trans q2))).mono ?_
  rintro e w3 ⟨rfl, q3⟩
  go_wp2_with fail
  go_ret
  exact ⟨ret_bool (by rw [HO.out]; cases r3 <;> rfl), qb.trans (q1.trans (q2.trans q3))⟩

end Go.Proofs.YtfadjppokbolhaaGreatDoor
