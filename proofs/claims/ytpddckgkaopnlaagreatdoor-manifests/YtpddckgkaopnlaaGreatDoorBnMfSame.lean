/- Several texts of mine in one: MfSame, MfSpoilG. -/
import Derived.Test.YtpddckgkaopnlaaGreatDoorMfParse
import Derived.Test.YtpddckgkaopnlaaGreatDoorPk1
import Derived.Test.YtpddckgkaopnlaaGreatDoorWk1
import Derived.Test.YtpddckgkaopnlaaGreatDoorBnMfSpoil
/- What the statements' own SamePools, SameEdge and SameGraph answer; the conditions: what they are asked of lies in memory. -/
namespace Go.Proofs.YtpddckgkaopnlaaGreatDoor
open Go.RowKit

theorem eqPl (x y : ByteArray) (a b : Int) (w : World) : (Op.equalIn 10000 73 (.agg #[.string x, .int .i64 a]) (.agg #[.string y, .int .i64 b])).run Tryz.prog w = .ok (x.toList == y.toList && a == b) w := by
  have u3 := Tryz.underlying3
  have u4 := Tryz.underlying9
  have hS : Tryz.prog.underlying 73 = some (.struct (Tryz.prog.fieldsOf 73)) := by kernel_rfl
  have hp : Tryz.prog.stoodInHeld 73 = false := by kernel_rfl
  rw [show (10000 : Nat) = 9999 + 1 from rfl, run_equalIn_agg w 9999 73 _ _ hS hp]
  simp only [Program.fieldsOf, Tryz.underlying73]
  go_simp
  cases hxy : (x.toList == y.toList) <;> cases hab : (a == b) <;> simp_all
theorem Tryz.guardPl : Tryz.prog.eqGuardType Tryz.prog.depth 73 = false := by kernel_rfl

theorem take_twoP {ps qs : List Pl} {k : Nat} {p r   : Pl} (ht : ps.take k = qs.take k) (hp : ps[k]? = some p) (hr : qs[k]? = some r) : (p = r → ps.take (k + 1) = qs.take (k + 1)) ∧ (p ≠ r → ps ≠ qs) := by
  refine ⟨?_, ?_⟩
  · intro h; rw [List.take_add_one, List.take_add_one, ht, hp, hr, h]
  · intro h e; subst e; rw [hp] at hr; exact h (Option.some.inj hr)

set_option maxHeartbeats 4000000 in
theorem samePl_any (ao bo : Option Addr) (cap bcap : Nat) (ps qs : List Pl) (w : World) (ha : RowP w ao ps) (hb : RowP w bo qs) (hn : ps.length ≤ 4096) :
    Calls Tryz.prog 18 #[.slice ao ps.length cap, .slice bo qs.length bcap] w fun e w' => e = .returned (.bool (decide (ps = qs))) ∧ Q w w' := by
  have heq := eqPl
  have hgd := Tryz.guardPl
  by_cases hl : ps.length = qs.length
  · have hl' : ((ps.length : Int) == (qs.length : Int)) = true := by simp [hl]
    have hl2 : ((ps.length : Int) != (qs.length : Int)) = false := by simp [hl]
    have HL := hide hl
    clear hl
    go_enter Tryz.func18, Tryz.ntmps18
    go_wp2_with fail
    go_loopw [5] (fun i wr => ∃ k : Nat, k ≤ ps.length ∧ i = .int .i64 k ∧ Hid (ps.take k = qs.take k) ∧ Q w wr) (fun i _ => ps.length - (intOf i).toNat)
    case atStart => exact ⟨0, Nat.zero_le _, rfl, by show _ = _; simp, Q.refl _⟩
    case round =>
      obtain ⟨k, hk, rfl, HT, hq⟩ := hrel
      by_cases hlt : k < ps.length
      · have hlq : k < qs.length := by have := unhide HL; omega
        rcases ha.q hq with he | ⟨g, o, rfl, hg, hc⟩
        · rw [he] at hlt; simp at hlt
        rcases hb.q hq with he | ⟨g2, o2, rfl, hg2, hc2⟩
        · rw [he] at hlq; simp at hlq
        obtain ⟨p, hp⟩ : ∃ p, ps[k]? = some p := ⟨ps[k], List.getElem?_eq_getElem hlt⟩
        obtain ⟨r, hr⟩ : ∃ r, qs[k]? = some r := ⟨qs[k], List.getElem?_eq_getElem hlq⟩
        have c1 : wr.cell? ⟨g, o + k * 2, none⟩ = some (.string ⟨p.1.toArray⟩) := hc k 0 p _ hp (by decide) rfl
        have c2 : wr.cell? ⟨g, o + k * 2 + 1, none⟩ = some (.int .i64 p.2) := hc k 1 p _ hp (by decide) rfl
        have d1 : wr.cell? ⟨g2, o2 + k * 2, none⟩ = some (.string ⟨r.1.toArray⟩) := hc2 k 0 r _ hr (by decide) rfl
        have d2 : wr.cell? ⟨g2, o2 + k * 2 + 1, none⟩ = some (.int .i64 r.2) := hc2 k 1 r _ hr (by decide) rfl
        have hlq' : (k : Int) < (qs.length : Int) := by omega
        clear hc hc2
        have HTK := hide (take_twoP HT.out hp hr)
        have hqq : ∀ n, Q w (wr.drewN n) := fun n => hq.drewN n
        clear ha hb HT hp hr
        obtain ⟨b1, l1⟩ := p
        obtain ⟨b2, l2⟩ := r
        simp only at c1 c2 d1 d2
        by_cases hpr : b1 = b2 ∧ l1 = l2
        · obtain ⟨rfl, rfl⟩ := hpr
          have HN := hide ((unhide HTK).1 rfl)
          have e1 : (b1 == b1) = true := by simp
          have e2 : ((l1 : Int) == (l1 : Int)) = true := by simp
          clear HTK
          go_wp2_with fail
          go_quiet (fail)
          go_wp2_with fail
          go_roundw
          case rel => exact ⟨k + 1, by omega, by go_num, HN, hqq _⟩
          case measure => simp [intOf]; omega
        · have HF : Hid (decide (ps = qs) = false) := decide_eq_false ((unhide HTK).2 (by simpa using hpr))
          rcases (by by_cases h : b1 = b2; exact Or.inr ⟨h, fun h2 => hpr ⟨h, h2⟩⟩; exact Or.inl h : b1 ≠ b2 ∨ (b1 = b2 ∧ l1 ≠ l2)) with h | ⟨h, h2⟩
          · have e1 : (b1 == b2) = false := beq_eq_false_iff_ne.2 h
            clear HTK hpr h
            go_wp2_with fail
            go_quiet (fail)
            go_wp2_with fail
            go_ret
            exact ⟨ret_bool HF.out.symm, hqq _⟩
          · have e1 : (b1 == b2) = true := beq_iff_eq.2 h
            have e2 : ((l1 : Int) == (l2 : Int)) = false := beq_eq_false_iff_ne.2 (by omega)
            clear HTK hpr h h2
            go_wp2_with fail
            go_quiet (fail)
            go_wp2_with fail
            go_ret
            exact ⟨ret_bool HF.out.symm, hqq _⟩
      · have HF : Hid (decide (ps = qs) = true) := by
          have h1 := HT.out
          rw [List.take_of_length_le (by omega), List.take_of_length_le (by have := unhide HL; omega)] at h1
          exact decide_eq_true h1
        clear HT
        go_wp2_with fail
        go_ret
        exact ⟨ret_bool HF.out.symm, hq⟩
  · have HF : Hid (decide (ps = qs) = false) := decide_eq_false (fun h => hl (by rw [h]))
    have hl' : ((ps.length : Int) == (qs.length : Int)) = false := beq_eq_false_iff_ne.2 (by omega)
    have hl2 : ((ps.length : Int) != (qs.length : Int)) = true := by unfold bne; rw [hl']; rfl
    clear hl
    go_enter Tryz.func18, Tryz.ntmps18
    go_wp2_with fail
    go_ret
    exact ⟨ret_bool HF.out.symm, Q.refl _⟩


end Go.Proofs.YtpddckgkaopnlaaGreatDoor

/- What the statements' own SpoilGraph leaves alone; the conditions: the graph lies in memory of its own, its texts are short. -/
namespace Go.Proofs.YtpddckgkaopnlaaGreatDoor
open Go.RowKit

theorem nd_fm {α : Type} {f : α → List Nat} : ∀ (es : List α), (es.flatMap f).Nodup → (∀ x ∈ es, (f x).Nodup) ∧ ∀ (j k : Nat) x y, j < k → es[j]? = some x → es[k]? = some y → ∀ b ∈ f y, b ∉ f x
  | [], _ => ⟨(fun x hx => by cases hx), (fun j k x y _ h => by simp at h)⟩
  | a :: r, h => by
    rw [List.flatMap_cons, List.nodup_append] at h
    obtain ⟨h1, h2, h3⟩ := h
    obtain ⟨i1, i2⟩ := nd_fm r h2
    refine ⟨fun x hx => ?_, fun j k x y hjk hj hk b hb hbx => ?_⟩
    · rcases List.mem_cons.1 hx with rfl | hx
      · exact h1
      · exact i1 x hx
    · cases k with
      | zero => omega
      | succ k =>
        cases j with
        | zero =>
          simp at hj hk
          subst hj
          exact h3 b hbx b (List.mem_flatMap.2 ⟨y, List.mem_of_getElem? hk, hb⟩) rfl
        | succ j =>
          simp at hj hk
          exact i2 j k x y (by omega) hj hk b hb hbx

/-- What stands behind the edges that were written over. -/
structure Sg (B : Nat) (w0 wr : World) (X ge k : Nat) (g : Gr) (es : List EdA) (po dd : Option Addr) (ec pc dc : Nat) : Prop where
  c : ∃ cs, Blk wr ge cs 65 ∧ ∀ (j : Nat) x (i : Nat) v, k ≤ j → es[j]? = some x → i < 7 → (ev x)[i]? = some v → cs[j * 7 + i]? = some v
  r : ∀ (j : Nat) x, k ≤ j → es[j]? = some x → EdR wr B x
  p : OwnPl wr B po pc g.2.1
  d : OwnT wr B dd dc g.2.2
  x : Blk wr X #[.slice (some ⟨ge, 0, none⟩) es.length ec, .slice po g.2.1.length pc, .slice dd g.2.2.length dc] 26
  b : Below B w0 wr

theorem Sg.drew {B : Nat} {w0 wr : World} {X ge k : Nat} {g : Gr} {es : List EdA} {po dd : Option Addr} {ec pc dc : Nat} (h : Sg B w0 wr X ge k g es po dd ec pc dc) : Sg B w0 wr.drew X ge k g es po dd ec pc dc :=
  ⟨h.c, fun j x hj hx => (h.r j x hj hx).fr (P := fun _ => False) (Fr.of_q (Q.refl wr).drew) (fun _ _ h => h), own_q h.p (Q.refl wr).drew, own_q h.d (Q.refl wr).drew, h.x, h.b.drew⟩
/-- An edge's texts are written over. -/
theorem Sg.ed {B : Nat} {w0 wr w1 : World} {X ge k : Nat} {g : Gr} {es : List EdA} {po dd : Option Addr} {ec pc dc : Nat} {x : EdA} (h : Sg B w0 wr X ge k g es po dd ec pc dc) (hB : B ≤ wr.heap.size) (hx : es[k]? = some x) (hf : Fr (fun b => b ∈ edB x) wr w1)
    (nd : ((Value.slice dd g.2.2.length dc).ownBlock.toList ++ es.flatMap edB).Nodup) :
    (∃ cs, Blk w1 ge cs 65 ∧ ∀ (j : Nat) y (i : Nat) v, k ≤ j → es[j]? = some y → i < 7 → (ev y)[i]? = some v → cs[j * 7 + i]? = some v) ∧ (∀ (j : Nat) y, k + 1 ≤ j → es[j]? = some y → EdR w1 B y) ∧ OwnPl w1 B po pc g.2.1 ∧ OwnT w1 B dd dc g.2.2 ∧ Blk w1 X #[.slice (some ⟨ge, 0, none⟩) es.length ec, .slice po g.2.1.length pc, .slice dd g.2.2.length dc] 26 ∧ Below B w0 w1 := by
  have hr := h.r k x (Nat.le_refl _) hx
  rw [List.nodup_append] at nd
  obtain ⟨_, n2, n3⟩ := nd
  obtain ⟨_, n4⟩ := nd_fm es n2
  have hmem := List.mem_of_getElem? hx
  obtain ⟨cs, hb, hc⟩ := h.c
  refine ⟨⟨cs, hb.fr hf (fun e => hr.blk hb (by decide) ge e rfl), hc⟩, fun j y hj hy => ?_, own_fr h.p hf (fun b hb1 hb2 => hr.row h.p (by decide) b hb2 hb1), own_fr h.d hf (fun b hb1 hb2 => ?_), h.x.fr hf (fun e => hr.blk h.x (by decide) X e rfl), Below.trans h.b (hf.below hB (fun b hb1 => (hr.lt b hb1).1))⟩
  · exact (h.r j y (by omega) hy).fr hf (fun b hb1 hb2 => n4 k j x y (by omega) hx hy b hb1 hb2)
  · exact n3 b (Option.mem_toList.2 hb1) b (List.mem_flatMap.2 ⟨x, hmem, hb2⟩) rfl
/-- An edge's command is written over. -/
theorem sg_cmd {B : Nat} {w0 w1 : World} {X ge k : Nat} {g : Gr} {es : List EdA} {po dd : Option Addr} {ec pc dc : Nat} {u : Value} (hge : B ≤ ge) (hB : B ≤ w1.heap.size)
    (h1 : ∃ cs, Blk w1 ge cs 65 ∧ ∀ (j : Nat) y (i : Nat) v, k ≤ j → es[j]? = some y → i < 7 → (ev y)[i]? = some v → cs[j * 7 + i]? = some v) (h2 : ∀ (j : Nat) y, k + 1 ≤ j → es[j]? = some y → EdR w1 B y) (h3 : OwnPl w1 B po pc g.2.1) (h4 : OwnT w1 B dd dc g.2.2) (h5 : Blk w1 X #[.slice (some ⟨ge, 0, none⟩) es.length ec, .slice po g.2.1.length pc, .slice dd g.2.2.length dc] 26) (h6 : Below B w0 w1) :
    Sg B w0 (w1.setCell ⟨ge, k * 7 + 4, none⟩ u) X ge (k + 1) g es po dd ec pc dc := by
  obtain ⟨cs, hb, hc⟩ := h1
  have hf := Fr.set w1 ge (k * 7 + 4) u
  have hP : ∀ b, b = ge → ∃ cs, Blk w1 b cs 65 := fun b e => by subst e; exact ⟨cs, hb⟩
  refine ⟨⟨_, hb.set _ _, fun j y i v hj hy hi hv => ?_⟩, fun j y hj hy => (h2 j y hj hy).ty hf hP (by decide), own_ty h3 hf hP (by decide), own_ty h4 hf hP (by decide), h5.other (Blk.ne h5 hb (by decide)) _ _, Below.trans h6 (hf.below hB (fun b e => by rw [e]; exact hge))⟩
  rw [Array.getElem?_setIfInBounds_ne (by omega)]
  exact hc j y i v (by omega) hy hi hv

set_option maxRecDepth 20000 in
set_option maxHeartbeats 8000000 in
theorem spoilG_some (B : Nat) (g : Gr) (es : List EdA) (ge : Nat) (po dd : Option Addr) (ec pc dc : Nat) (w : World) (h : GrM B w g es (some ⟨ge, 0, none⟩) po dd ec pc dc) (h0 : es ≠ []) (hl : es.length ≤ 16) (ht : ∀ x ∈ es, EdT x.1) (hp : g.2.1.length ≤ 4096) (hd : g.2.2.length ≤ 4096 ∧ ∀ p ∈ g.2.2, p.length ≤ 4096) (hB : B ≤ w.heap.size) :
    Calls Tryz.prog 8 #[.agg #[.slice (some ⟨ge, 0, none⟩) es.length ec, .slice po g.2.1.length pc, .slice dd g.2.2.length dc]] w fun e w' => e = .returned (.tuple #[]) ∧ Below B w w' := by
  have hln : 0 < es.length := List.length_pos_iff.2 h0
  obtain ⟨g', hg', hgB, hgl, hfz, hcell⟩ := own_some ev_len (by decide) hln h.e
  cases hg'
  obtain ⟨cs0, hb0⟩ := own_blk h.e ge rfl
  have qb : Q w (w.alloc (.cells #[.slice (some ⟨ge, 0, none⟩) es.length ec, .slice po g.2.1.length pc, .slice dd g.2.2.length dc] 26)) := (Q.refl w).alloc _
  have HS0 : Hid (Sg B w (w.alloc (.cells #[.slice (some ⟨ge, 0, none⟩) es.length ec, .slice po g.2.1.length pc, .slice dd g.2.2.length dc] 26)) w.heap.size ge 0 g es po dd ec pc dc) := by
    refine ⟨⟨cs0, hb0.q qb, fun j x i v _ hx hi hv => ?_⟩, fun j x _ hx => (h.q x (List.mem_of_getElem? hx)).fr (P := fun _ => False) (Fr.of_q qb) (fun _ _ h => h), own_q h.p qb, own_q h.d qb, Blk.new w _ _, qb.mono hB⟩
    have h1 := hcell j i x v hx hi hv
    rw [cell_of_row w ge (j * 7 + i) cs0 _ _ hb0] at h1
    exact h1
  have HND := hide h.nd
  have HT := hide ht
  have HD := hide hd
  have hB4 : B ≤ (w.alloc (.cells #[.slice (some ⟨ge, 0, none⟩) es.length ec, .slice po g.2.1.length pc, .slice dd g.2.2.length dc] 26)).heap.size := Nat.le_trans hB qb.size
  clear h hcell hfz hb0 qb ht hd h0 hgl
  go_enter Tryz.func8, Tryz.ntmps8
  go_wp2_with fail
  change Code.wp _ _ _ _ (w.alloc (.cells #[.slice (some ⟨ge, 0, none⟩) es.length ec, .slice po g.2.1.length pc, .slice dd g.2.2.length dc] 26))
  generalize w.alloc (.cells #[.slice (some ⟨ge, 0, none⟩) es.length ec, .slice po g.2.1.length pc, .slice dd g.2.2.length dc] 26) = w4 at *
  generalize w.heap.size = X at HS0 ⊢
  go_loopw [2] (fun i wr => ∃ k : Nat, k ≤ es.length ∧ i = .int .i64 k ∧ Hid (Sg B w wr X ge k g es po dd ec pc dc)) (fun i _ => es.length - (intOf i).toNat)
  case atStart => exact ⟨0, Nat.zero_le _, rfl, HS0⟩
  case round =>
    obtain ⟨k, hk, rfl, HS⟩ := hrel
    have hbr : B ≤ wr.heap.size := Nat.le_trans hB HS.out.b.size
    have x0 : wr.cell? ⟨X, 0, none⟩ = some (.slice (some ⟨ge, 0, none⟩) es.length ec) := HS.out.x.cell 0 rfl
    have x1 : wr.cell? ⟨X, 1, none⟩ = some (.slice po g.2.1.length pc) := HS.out.x.cell 1 rfl
    by_cases hlt : k < es.length
    · obtain ⟨x, hx⟩ : ∃ x, es[k]? = some x := ⟨_, List.getElem?_eq_getElem hlt⟩
      obtain ⟨cs, hb, hc⟩ := HS.out.c
      have c0 : wr.cell? ⟨ge, k * 7, none⟩ = some (.slice x.2.1.1 x.1.1.length x.2.1.2) := hb.cell _ (hc k x 0 _ (Nat.le_refl _) hx (by decide) rfl)
      have c1 : wr.cell? ⟨ge, k * 7 + 1, none⟩ = some (.slice x.2.2.1.1 x.1.2.1.length x.2.2.1.2) := hb.cell _ (hc k x 1 _ (Nat.le_refl _) hx (by decide) rfl)
      have c2 : wr.cell? ⟨ge, k * 7 + 2, none⟩ = some (.slice x.2.2.2.1.1 x.1.2.2.1.length x.2.2.2.1.2) := hb.cell _ (hc k x 2 _ (Nat.le_refl _) hx (by decide) rfl)
      have c3 : wr.cell? ⟨ge, k * 7 + 3, none⟩ = some (.slice x.2.2.2.2.1 x.1.2.2.2.1.length x.2.2.2.2.2) := hb.cell _ (hc k x 3 _ (Nat.le_refl _) hx (by decide) rfl)
      have c4 : wr.cell? ⟨ge, k * 7 + 4, none⟩ = some (.string ⟨x.1.2.2.2.2.1.toArray⟩) := hb.cell _ (hc k x 4 _ (Nat.le_refl _) hx (by decide) rfl)
      have c5 : wr.cell? ⟨ge, k * 7 + 5, none⟩ = some (.bool x.1.2.2.2.2.2.1) := hb.cell _ (hc k x 5 _ (Nat.le_refl _) hx (by decide) rfl)
      have c6 : wr.cell? ⟨ge, k * 7 + 6, none⟩ = some (.string ⟨x.1.2.2.2.2.2.2.toArray⟩) := hb.cell _ (hc k x 6 _ (Nat.le_refl _) hx (by decide) rfl)
      have hxt := HT.out x (List.mem_of_getElem? hx)
      have HC := hide (spoilE_any x B wr (HS.out.r k x (Nat.le_refl _) hx) ((nd_fm es (List.nodup_append.1 HND.out).2.1).1 x (List.mem_of_getElem? hx)) hxt)
      have HE := hide (fun w1 hf => HS.out.ed hbr hx (w1 := w1) hf HND.out)
      have hkz : (⟨x.1.2.2.2.2.1.toArray⟩ : ByteArray).size ≤ 4096 := by rw [← bl_size]; exact hxt.k
      have HX := hide hx
      clear hb hc hx hxt x1
      go_upto_region 5 with (go_at_call 20; refine (unhide HC).mono ?_; rintro e w1 ⟨rfl, hf⟩)
      obtain ⟨s1, s2, s3, s4, s5, s6⟩ := unhide HE w1 hf
      have d0 : w1.cell? ⟨X, 0, none⟩ = some (.slice (some ⟨ge, 0, none⟩) es.length ec) := s5.cell 0 rfl
      obtain ⟨cs, hb, hc⟩ := s1
      have d4 : w1.cell? ⟨ge, k * 7 + 4, none⟩ = some (.string ⟨x.1.2.2.2.2.1.toArray⟩) := hb.cell _ (hc k x 4 _ (Nat.le_refl _) (unhide HX) (by decide) rfl)
      have f4 := hb.frz (k * 7 + 4)
      have HSN := hide (fun u => sg_cmd (u := u) hgB (Nat.le_trans hB s6.size) ⟨cs, hb, hc⟩ s2 s3 s4 s5 s6)
      clear s2 s3 s4 s5 s6 hb hc HE HC hf c0 c1 c2 c3 c4 c5 c6 x0 HS
      generalize (⟨x.1.2.2.2.2.1.toArray⟩ : ByteArray) = km at *
      go_region
      go_wp2_with fail
      go_roundw
      case rel =>
        refine ⟨k + 1, by omega, by go_num, ?_⟩
        first
          | exact (unhide HSN _).drew
          | exact (unhide HSN _)
      case measure => simp [intOf]; omega
    · have HP := hide (spoilP_any g.2.1 B po pc wr HS.out.p hp)
      have HF1 := hide (fun w1 (hf : Fr (fun b => (Value.slice po g.2.1.length pc).ownBlock = some b) wr w1) => (⟨HS.out.x.fr hf (fun e => HS.out.x.row HS.out.p (by decide) X e rfl), own_fr HS.out.d hf (fun b hb1 hb2 => own_ne HS.out.d HS.out.p (by decide) b hb1 hb2), Below.trans HS.out.b (hf.below hbr (fun b hb1 => (HS.out.p.lt b hb1).1))⟩ : Blk w1 X #[.slice (some ⟨ge, 0, none⟩) es.length ec, .slice po g.2.1.length pc, .slice dd g.2.2.length dc] 26 ∧ OwnT w1 B dd dc g.2.2 ∧ Below B w w1))
      clear HS
      go_wp2_with fail
      refine (unhide HP).mono ?_
      rintro e w1 ⟨rfl, hf⟩
      obtain ⟨h1, h2, h3⟩ := unhide HF1 w1 hf
      have x2 : w1.cell? ⟨X, 2, none⟩ = some (.slice dd g.2.2.length dc) := h1.cell 2 rfl
      have HST := hide (spoilT_any dd dc B g.2.2 w1 h2 HD.out.1 HD.out.2)
      have HF2 := hide (fun w2 (ho : Own1 (.slice dd g.2.2.length dc) w1 w2) => (Below.trans h3 ((Own1.fr ho).below (Nat.le_trans hB h3.size) (fun b hb1 => (h2.lt b hb1).1)) : Below B w w2))
      clear HP HF1 hf h1 h2 h3 x0 x1
      go_wp2_with fail
      refine (unhide HST).mono ?_
      rintro e w2 ⟨rfl, ho⟩
      go_wp2_with fail
      go_end0
      exact ⟨rfl, unhide HF2 w2 ho⟩

set_option maxRecDepth 20000 in
set_option maxHeartbeats 4000000 in
theorem spoilG_none (B : Nat) (g : Gr) (eo po dd : Option Addr) (ec pc dc : Nat) (w : World) (hpo : OwnPl w B po pc g.2.1) (hdo : OwnT w B dd dc g.2.2) (hp : g.2.1.length ≤ 4096) (hd : g.2.2.length ≤ 4096 ∧ ∀ p ∈ g.2.2, p.length ≤ 4096) (hB : B ≤ w.heap.size) :
    Calls Tryz.prog 8 #[.agg #[.slice eo 0 ec, .slice po g.2.1.length pc, .slice dd g.2.2.length dc]] w fun e w' => e = .returned (.tuple #[]) ∧ Below B w w' := by
  have qb : Q w (w.alloc (.cells #[.slice eo 0 ec, .slice po g.2.1.length pc, .slice dd g.2.2.length dc] 26)) := (Q.refl w).alloc _
  have hx0 : Blk (w.alloc (.cells #[.slice eo 0 ec, .slice po g.2.1.length pc, .slice dd g.2.2.length dc] 26)) w.heap.size #[.slice eo 0 ec, .slice po g.2.1.length pc, .slice dd g.2.2.length dc] 26 := Blk.new w _ _
  have hp4 := own_q hpo qb
  have hd4 := own_q hdo qb
  have HP := hide (spoilP_any g.2.1 B po pc _ hp4 hp)
  have hb4 : Below B w (w.alloc (.cells #[.slice eo 0 ec, .slice po g.2.1.length pc, .slice dd g.2.2.length dc] 26)) := qb.mono hB
  clear hpo hdo qb
  go_enter Tryz.func8, Tryz.ntmps8
  go_wp2_with fail
  change Code.wp _ _ _ _ (w.alloc (.cells #[.slice eo 0 ec, .slice po g.2.1.length pc, .slice dd g.2.2.length dc] 26))
  generalize w.alloc (.cells #[.slice eo 0 ec, .slice po g.2.1.length pc, .slice dd g.2.2.length dc] 26) = w4 at *
  generalize w.heap.size = X at hx0 ⊢
  have x0 : w4.cell? ⟨X, 0, none⟩ = some (.slice eo 0 ec) := hx0.cell 0 rfl
  have x1 : w4.cell? ⟨X, 1, none⟩ = some (.slice po g.2.1.length pc) := hx0.cell 1 rfl
  have HF1 := hide (fun w1 (hf : Fr (fun b => (Value.slice po g.2.1.length pc).ownBlock = some b) w4 w1) => (⟨hx0.fr hf (fun e => hx0.row hp4 (by decide) X e rfl), own_fr hd4 hf (fun b hb1 hb2 => own_ne hd4 hp4 (by decide) b hb1 hb2), Below.trans hb4 (hf.below (Nat.le_trans hB hb4.size) (fun b hb1 => (hp4.lt b hb1).1))⟩ : Blk w1 X #[.slice eo 0 ec, .slice po g.2.1.length pc, .slice dd g.2.2.length dc] 26 ∧ OwnT w1 B dd dc g.2.2 ∧ Below B w w1))
  clear hx0 hp4 hd4 hb4
  refine wp_loop_rounds 1 ?_
  rw [rounds_succ]
  go_wp2_with fail
  refine (unhide HP).mono ?_
  rintro e w1 ⟨rfl, hf⟩
  obtain ⟨h1, h2, h3⟩ := unhide HF1 w1 hf
  have x2 : w1.cell? ⟨X, 2, none⟩ = some (.slice dd g.2.2.length dc) := h1.cell 2 rfl
  have HST := hide (spoilT_any dd dc B g.2.2 w1 h2 hd.1 hd.2)
  have HF2 := hide (fun w2 (ho : Own1 (.slice dd g.2.2.length dc) w1 w2) => (Below.trans h3 ((Own1.fr ho).below (Nat.le_trans hB h3.size) (fun b hb1 => (h2.lt b hb1).1)) : Below B w w2))
  clear HP HF1 hf h1 h2 h3 x0 x1
  go_wp2_with fail
  refine (unhide HST).mono ?_
  rintro e w2 ⟨rfl, ho⟩
  go_wp2_with fail
  go_end0
  exact ⟨rfl, unhide HF2 w2 ho⟩
theorem spoilG_any (B : Nat) (g : Gr) (es : List EdA) (eo po dd : Option Addr) (ec pc dc : Nat) (w : World) (h : GrM B w g es eo po dd ec pc dc) (hl : es.length ≤ 16) (ht : ∀ x ∈ es, EdT x.1) (hp : g.2.1.length ≤ 4096) (hd : g.2.2.length ≤ 4096 ∧ ∀ p ∈ g.2.2, p.length ≤ 4096) (hB : B ≤ w.heap.size) :
    Calls Tryz.prog 8 #[.agg #[.slice eo es.length ec, .slice po g.2.1.length pc, .slice dd g.2.2.length dc]] w fun e w' => e = .returned (.tuple #[]) ∧ Below B w w' := by
  by_cases h0 : es = []
  · subst h0
    exact spoilG_none B g eo po dd ec pc dc w h.p h.d hp hd hB
  · obtain ⟨ge, rfl, _⟩ := own_some ev_len (by decide) (List.length_pos_iff.2 h0) h.e
    exact spoilG_some B g es ge po dd ec pc dc w h h0 hl ht hp hd hB

end Go.Proofs.YtpddckgkaopnlaaGreatDoor
