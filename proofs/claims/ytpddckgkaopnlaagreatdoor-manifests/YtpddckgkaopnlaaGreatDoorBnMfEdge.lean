/- Several texts of mine in one: MfCmd, WdAwake, MfEdge. -/
import Derived.Test.YtpddckgkaopnlaaGreatDoorBnEvOf
import Derived.Test.YtpddckgkaopnlaaGreatDoorBnMfBind
/- What package manifest's commandOf answers; the conditions: the edge, the rule and the scopes lie in memory, the names are few and short. -/
namespace Go.Proofs.YtpddckgkaopnlaaGreatDoor
open Go.RowKit

theorem joinL_cons2 (p q : Tx) (r : Ws) (d : UInt8) : Lib.join (p :: q :: r) [d] = p ++ d :: Lib.join (q :: r) [d] := by
  rw [Lib.join_cons, Lib.join_cons]; simp [Lib.joinTail]
theorem joinL_len (d : UInt8) : ∀ (ps : Ws), (Lib.join ps [d]).length ≤ tot ps
  | [] => by rw [Lib.join_nil]; simp
  | [p] => by rw [Lib.join_one, tot_one]; omega
  | p :: q :: r => by
    have := joinL_len d (q :: r)
    rw [joinL_cons2, tot_cons]; simp; omega
theorem tot_le {n : Nat} : ∀ (ps : Ws), (∀ p ∈ ps, p.length ≤ n) → tot ps ≤ ps.length * (n + 1)
  | [], _ => by simp [tot]
  | p :: r, h => by
    have h1 := tot_le r (fun x hx => h x (List.mem_cons_of_mem _ hx))
    have h2 := h p (by simp)
    rw [tot_cons, List.length_cons, Nat.add_mul]; omega

/-- Few names, short ones. -/
def Few (xs : Ws) : Prop := xs.length ≤ 8 ∧ ∀ p ∈ xs, p.length ≤ 16
theorem Few.join {xs : Ws} (h : Few xs) (d : UInt8) : (Lib.join xs [d]).length ≤ 136 := by
  have h1 := joinL_len d xs
  have h2 := tot_le xs h.2
  have h3 := h.1
  have : xs.length * (16 + 1) ≤ 8 * 17 := Nat.mul_le_mul_right _ h3
  omega

theorem joinb_any (B : Nat) (ao : Option Addr) (cap : Nat) (xs : Ws) (w : World) (h : OwnT w B ao cap xs) (hf : Few xs) :
    Calls Tryz.prog 117 #[.slice ao xs.length cap, .string ⟨#[32]⟩] w fun e w' => e = .returned (.string ⟨(Lib.join xs [32]).toArray⟩) ∧ Q w w' := by
  have hj := hf.join 32
  have hl := hf.1
  have hle := own_le h
  by_cases h0 : xs = []
  · subst h0
    exact (Any.strings_Join_none Tryz.lays156 Tryz.Builder_Extra_156 ao cap ⟨#[32]⟩ w).mono fun e w' ⟨h1, h2⟩ => ⟨h1, by rw [h2]; exact Q.refl w⟩
  · obtain ⟨g, rfl, hB, hg, hfz, hc⟩ := own_some tv_len (by decide) (by cases xs with | nil => exact absurd rfl h0 | cons a b => simp) h
    have hm : (xs.map fun l => (⟨l.toArray⟩ : ByteArray)).map (·.data.toList) = xs := by
      rw [List.map_map]; conv => rhs; rw [← List.map_id xs]
      rfl
    have hx := Any.strings_Join Tryz.lays156 Tryz.Builder_Extra_156 g 0 cap (xs.map fun l => (⟨l.toArray⟩ : ByteArray)) ⟨#[32]⟩ w (by
      intro j x hx
      rw [List.getElem?_map] at hx
      cases hj : xs[j]? with
      | none => rw [hj] at hx; cases hx
      | some y =>
        rw [hj] at hx; cases hx
        have := hc j 0 y _ hj (by decide) rfl
        simpa using this) hg (by rw [List.length_map]; omega) (by rw [List.length_map]; exact hle.1) (by rw [hm]; show (Lib.join xs [32]).length ≤ _; omega)
    rw [List.length_map, hm] at hx
    exact hx

theorem read_own {w : World} {B : Nat} {ao : Option Addr} {cap : Nat} {bs : List Bd} (h : OwnD w B ao cap bs) (hs : scOk bs = true) : Read w ao cap bs := by
  refine ⟨h.row, fun b hb => ?_, (own_le h).1, (own_le h).2.1⟩
  obtain ⟨k, hk, rfl⟩ := List.mem_iff_getElem.1 hb
  have := mayBd_size ((scOk_parts hs).2 k bs[k] (List.getElem?_eq_getElem hk)).1
  unfold maxLen; omega
theorem scOk_nil : scOk [] = true := rfl

def cmS (x : Except Int Tx) : Tx := match x with | .ok c => c | .error _ => []

/-- What commandOf answers. -/
def CmSays (x : Except Int Tx) (w : World) (e : Ending) (w' : World) : Prop :=
  e = .returned (.tuple #[.string ⟨(cmS x).toArray⟩, .int .i64 (exE x)]) ∧ Q w w'

theorem rfE_ne {z : Int} (h : z ≠ 0) : rfE z ≠ 0 := by unfold rfE; rw [if_neg h]; split <;> decide

theorem box_facts (w : World) (cs : Array Value) (t : TypeId) (ds : Array Value) (u : TypeId) (i j : Nat) {x y : Value} (hx : cs[i]? = some x) (hy : ds[j]? = some y) :
    ((w.alloc (.cells cs t)).alloc (.cells ds u)).cell? ⟨w.heap.size, i, none⟩ = some x ∧ ((w.alloc (.cells cs t)).alloc (.cells ds u)).cell? ⟨w.heap.size + 1, j, none⟩ = some y ∧ Q w ((w.alloc (.cells cs t)).alloc (.cells ds u)) := by
  have h1 : Blk (w.alloc (.cells cs t)) w.heap.size cs t := Blk.new w cs t
  have h2 : Blk ((w.alloc (.cells cs t)).alloc (.cells ds u)) (w.heap.size + 1) ds u := by
    have := Blk.new (w.alloc (.cells cs t)) ds u
    rwa [size_alloc] at this
  exact ⟨(h1.q ((Q.refl _).alloc _)).cell i hx, h2.cell j hy, ((Q.refl w).alloc _).alloc _⟩

set_option maxHeartbeats 4000000 in
theorem commandOf_any (B R : Nat) (y : EdA) (r : Rl) (own ou : List Bd) (ao oo : Option Addr) (ac oc : Nat) (w : World) (hR : R < w.heap.size) (hc : w.cell? ⟨R, 4, none⟩ = some (.slice oo ou.length oc)) (ho : Read w oo oc ou) (hb : Read w ao ac own)
    (hy : EdR w B y) (f1 : Few y.1.1) (f2 : Few y.1.2.1) (hr : r.2.1.length ≤ 4096) :
    Calls Tryz.prog 83 #[.pointer (some ⟨R, 0, none⟩), .agg #[.slice y.2.1.1 y.1.1.length y.2.1.2, .slice y.2.2.1.1 y.1.2.1.length y.2.2.1.2, y.v3, y.v4, .string ⟨y.1.2.2.2.2.1.toArray⟩, .bool y.1.2.2.2.2.2.1, .string ⟨y.1.2.2.2.2.2.2.toArray⟩], .agg #[.string ⟨r.1.toArray⟩, .string ⟨r.2.1.toArray⟩, .bool r.2.2.1, .string ⟨r.2.2.2.toArray⟩], .slice ao own.length ac] w (CmSays (cmL y.1 r own ou) w) := by
  have HJ1 := hide (fun w2 (q : Q w w2) => joinb_any B _ _ _ w2 (own_q hy.b q) f2)
  have HJ2 := hide (fun w2 (q : Q w w2) => joinb_any B _ _ _ w2 (own_q hy.a q) f1)
  have hj1 := f2.join 32
  have hj2 := f1.join 32
  have z1 : (mkB (Lib.join y.1.2.1 [32])).size ≤ maxLen := by rw [← bl_size]; show (Lib.join y.1.2.1 [32]).length ≤ maxLen; unfold maxLen; omega
  have z2 : (mkB (Lib.join y.1.1 [32])).size ≤ maxLen := by rw [← bl_size]; show (Lib.join y.1.1 [32]).length ≤ maxLen; unfold maxLen; omega
  have HS1 := hide (fun w2 (q : Q w w2) => scSet_any own (mkB kIn) (mkB (Lib.join y.1.2.1 [32])) ao ac w2 (hb.q q).1 hb.2.1 hb.2.2.1 hb.2.2.2 (by show 2 ≤ maxLen; unfold maxLen; omega) z1)
  have HS2 := hide (fun w2 B2 ao2 ac2 (h : OwnD w2 B2 ao2 ac2 (inS y.1 own)) (h2 : scOk (inS y.1 own) = true) => scSet_any (inS y.1 own) (mkB kOut) (mkB (Lib.join y.1.1 [32])) ao2 ac2 w2 (read_own h h2).1 (read_own h h2).2.1 (read_own h h2).2.2.1 (read_own h h2).2.2.2 (by show 3 ≤ maxLen; unfold maxLen; omega) z2)
  have HEV := hide (fun w2 (q : Q w w2) B2 ao2 ac2 (h : OwnD w2 B2 ao2 ac2 (ouS y.1 own)) (h2 : scOk (ouS y.1 own) = true) => of_any ⟨r.2.1.toArray⟩ (ouS y.1 own) ou ao2 oo ac2 oc w2 (by rw [← bl_size]; show r.2.1.length ≤ maxLen; unfold maxLen; omega) (read_own h h2) (ho.q q))
  have HOK1 := hide (fun h => set_ok (bs := own) (n := mkB kIn) (t := mkB (Lib.join y.1.2.1 [32])) h)
  have HOK2 := hide (fun h => set_ok (bs := inS y.1 own) (n := mkB kOut) (t := mkB (Lib.join y.1.1 [32])) h)
  have HCM : Hid (cmL y.1 r own ou = cmL y.1 r own ou) := rfl
  generalize hxx : cmL y.1 r own ou = xx at HCM
  rw [← hxx] at HCM
  have HXX := hide hxx
  clear hxx
  unfold SetSays at HS1 HS2
  change Hid (∀ w2 (_ : Q w w2), Calls Tryz.prog 115 #[.slice ao own.length ac, .string ⟨#[105, 110]⟩, .string ⟨(Lib.join y.1.2.1 [32]).toArray⟩] w2 fun e w' => ∃ ao2 cap2, e = .returned (.tuple #[.slice ao2 (inS y.1 own).length cap2, .int .i64 (inE y.1 own)]) ∧ OwnD w' w2.heap.size ao2 cap2 (inS y.1 own) ∧ Q w2 w') at HS1
  change Hid (∀ w2 B2 ao2 ac2 (_ : OwnD w2 B2 ao2 ac2 (inS y.1 own)) (_ : scOk (inS y.1 own) = true), Calls Tryz.prog 115 #[.slice ao2 (inS y.1 own).length ac2, .string ⟨#[111, 117, 116]⟩, .string ⟨(Lib.join y.1.1 [32]).toArray⟩] w2 fun e w' => ∃ ao3 cap3, e = .returned (.tuple #[.slice ao3 (ouS y.1 own).length cap3, .int .i64 (ouE y.1 own)]) ∧ OwnD w' w2.heap.size ao3 cap3 (ouS y.1 own) ∧ Q w2 w') at HS2
  change Hid (inE y.1 own = 0 → scOk (inS y.1 own) = true) at HOK1
  change Hid (ouE y.1 own = 0 → scOk (ouS y.1 own) = true) at HOK2
  have hcQ : ∀ w2, Q w w2 → w2.cell? ⟨R, 4, none⟩ = some (.slice oo ou.length oc) := fun w2 q => (q.cell (p := ⟨R, 4, none⟩) hR).trans hc
  have HCQ := hide hcQ
  clear ho hb hy hj1 hj2 z1 z2 hc hcQ HCM
  generalize (⟨(Lib.join y.1.2.1 [32]).toArray⟩ : ByteArray) = j1 at *
  generalize (⟨(Lib.join y.1.1 [32]).toArray⟩ : ByteArray) = j2 at *
  have HRZ : Hid (bl (⟨r.2.1.toArray⟩ : ByteArray) = r.2.1) := rfl
  generalize (⟨r.2.1.toArray⟩ : ByteArray) = rc at *
  generalize (⟨r.1.toArray⟩ : ByteArray) = ra at *
  generalize (⟨r.2.2.2.toArray⟩ : ByteArray) = rp at *
  generalize (⟨y.1.2.2.2.2.1.toArray⟩ : ByteArray) = ya at *
  generalize (⟨y.1.2.2.2.2.2.2.toArray⟩ : ByteArray) = yb at *
  generalize y.v3 = v3
  generalize y.v4 = v4
  generalize y.1.2.2.2.2.2.1 = yd
  generalize r.2.2.1 = rd
  go_enter Tryz.func83, Tryz.ntmps83
  go_wp2_with fail
  obtain ⟨b0, b1, qb⟩ := box_facts w #[.slice y.2.1.1 y.1.1.length y.2.1.2, .slice y.2.2.1.1 y.1.2.1.length y.2.2.1.2, v3, v4, .string ya, .bool yd, .string yb] 65 #[.string ra, .string rc, .bool rd, .string rp] 109 0 1 rfl rfl
  have hzb : ((w.alloc (.cells #[.slice y.2.1.1 y.1.1.length y.2.1.2, .slice y.2.2.1.1 y.1.2.1.length y.2.2.1.2, v3, v4, .string ya, .bool yd, .string yb] 65)).alloc (.cells #[.string ra, .string rc, .bool rd, .string rp] 109)).heap.size = w.heap.size + 2 := by simp
  generalize hwb : (w.alloc (.cells #[.slice y.2.1.1 y.1.1.length y.2.1.2, .slice y.2.2.1.1 y.1.2.1.length y.2.2.1.2, v3, v4, .string ya, .bool yd, .string yb] 65)).alloc (.cells #[.string ra, .string rc, .bool rd, .string rp] 109) = wb at *
  clear hwb
  have HB0 := hide (fun w2 (q : Q wb w2) => (q.cell (p := ⟨w.heap.size, 0, none⟩) (by show w.heap.size < _; omega)).trans b0)
  have HB1 := hide (fun w2 (q : Q wb w2) => (q.cell (p := ⟨w.heap.size + 1, 1, none⟩) (by show w.heap.size + 1 < _; omega)).trans b1)
  clear hzb b0 b1
  refine (unhide HJ1 _ qb).mono ?_
  rintro e w1 ⟨rfl, q1⟩
  go_wp2_with fail
  refine (unhide HS1 _ (qb.trans q1)).mono ?_
  rintro e w2 ⟨ao2, ac2, rfl, o2, q2⟩
  have qb2 := q1.trans q2
  have HO2 := hide o2
  clear o2 q1 q2
  have b0 := unhide HB0 w2 qb2
  by_cases h1 : inE y.1 own = 0
  · have g1 : (inE y.1 own == 0) = true := by simpa using h1
    have g2 : (inE y.1 own != 0) = false := by simpa using h1
    have HK1 := hide (unhide HOK1 h1)
    have H1 := hide h1
    clear h1
    go_wp2_with fail
    refine (unhide HJ2 _ (qb.trans qb2)).mono ?_
    rintro e w3 ⟨rfl, q3⟩
    go_wp2_with fail
    refine (unhide HS2 _ _ ao2 ac2 (own_q (unhide HO2) q3) (unhide HK1)).mono ?_
    rintro e w4 ⟨ao3, ac3, rfl, o4, q4⟩
    have qb4 := (qb2.trans q3).trans q4
    have HO4 := hide o4
    clear o4 q3 q4 qb2 b0
    by_cases h2 : ouE y.1 own = 0
    · have g3 : (ouE y.1 own == 0) = true := by simpa using h2
      have g4 : (ouE y.1 own != 0) = false := by simpa using h2
      have HK2 := hide (unhide HOK2 h2)
      have H2 := hide h2
      clear h2
      have hne := Aft.ne w4
      have ha1 : ∀ u : Aft w4, u.to.cell? ⟨R, 4, none⟩ = some (.slice oo ou.length oc) := fun u => unhide HCQ _ ((qb.trans qb4).trans u.q)
      have ha2 : ∀ u : Aft w4, u.to.cell? ⟨w.heap.size + 1, 1, none⟩ = some (.string rc) := fun u => unhide HB1 _ (qb4.trans u.q)
      have HEV2 := hide (fun u : Aft w4 => unhide HEV u.to ((qb.trans qb4).trans u.q) _ ao3 ac3 (own_q (unhide HO4) u.q) (unhide HK2))
      unfold EvSays at HEV2
      have HXE : Hid (xx = if evE r.2.1 (ouS y.1 own) ou ≠ 0 ∨ evS r.2.1 (ouS y.1 own) ou = [] then .error 800 else .ok (evS r.2.1 (ouS y.1 own) ou)) := by
        show _ = _
        rw [← unhide HXX]; unfold cmL
        rw [if_neg (by simpa using unhide H1), if_neg (by simpa using unhide H2)]
      rw [HRZ.out] at HEV2
      generalize hes : evS r.2.1 (ouS y.1 own) ou = es at HXE HEV2
      generalize hee : evE r.2.1 (ouS y.1 own) ou = ee at HXE HEV2
      clear hes hee
      have HEB : Hid (bl (⟨es.toArray⟩ : ByteArray) = es) := rfl
      by_cases h3 : ee = 0
      · have g5 : (ee == 0) = true := by simpa using h3
        have g6 : (ee != 0) = false := by simpa using h3
        by_cases h4 : es = []
        · have g7 : (⟨es.toArray⟩ : ByteArray).toList.isEmpty = true := is_emp h4
          have HX2 : Hid (xx = .error 800) := by show _ = _; rw [HXE.out, if_pos (Or.inr h4)]
          generalize (⟨es.toArray⟩ : ByteArray) = et at *
          clear h3 h4
          go_wp2_with fail
          refine wp_region_aft (by kernel_rfl) (by kernel_rfl) ?_
          repeat (go_big_quiet_step ((go_at_call 114; exact Calls.aft (unhide HEV2 _))))
          refine wpQuiet_nil ?_
          intro _ hw'
          obtain ⟨u, hw''⟩ := hw'
          subst hw''
          have qu := u.q
          generalize u.to = w5 at qu ⊢
          clear ha1 ha2 hne
          go_wp2_with fail
          go_ret2
          rw [HX2.out]
          exact ⟨rfl, (qb.trans qb4).trans qu⟩
        · have g7 : (⟨es.toArray⟩ : ByteArray).toList.isEmpty = false := no_emp h4
          have HX2 : Hid (xx = .ok es) := by show _ = _; rw [HXE.out, if_neg (by intro h; rcases h with h | h; exact h h3; exact h4 h)]
          generalize het : (⟨es.toArray⟩ : ByteArray) = et at *
          have HET := hide het
          clear h3 h4 het
          go_wp2_with fail
          refine wp_region_aft (by kernel_rfl) (by kernel_rfl) ?_
          repeat (go_big_quiet_step ((go_at_call 114; exact Calls.aft (unhide HEV2 _))))
          refine wpQuiet_nil ?_
          intro _ hw'
          obtain ⟨u, hw''⟩ := hw'
          subst hw''
          have qu := u.q
          generalize u.to = w5 at qu ⊢
          clear ha1 ha2 hne
          go_wp2_with fail
          go_ret2
          rw [HX2.out, ← unhide HET]
          exact ⟨rfl, (qb.trans qb4).trans qu⟩
      · have g5 : (ee == 0) = false := by simpa using h3
        have g6 : (ee != 0) = true := by simpa using h3
        have HX2 : Hid (xx = .error 800) := by show _ = _; rw [HXE.out, if_pos (Or.inl h3)]
        generalize (⟨es.toArray⟩ : ByteArray) = et at *
        clear h3
        go_wp2_with fail
        refine wp_region_aft (by kernel_rfl) (by kernel_rfl) ?_
        repeat (go_big_quiet_step ((go_at_call 114; exact Calls.aft (unhide HEV2 _))))
        refine wpQuiet_nil ?_
        intro _ hw'
        obtain ⟨u, hw''⟩ := hw'
        subst hw''
        have qu := u.q
        generalize u.to = w5 at qu ⊢
        clear ha1 ha2 hne
        go_wp2_with fail
        go_ret2
        rw [HX2.out]
        exact ⟨rfl, (qb.trans qb4).trans qu⟩
    · have g3 : (ouE y.1 own == 0) = false := by simpa using h2
      have g4 : (ouE y.1 own != 0) = true := by simpa using h2
      have HX2 : Hid (xx = .error (rfE (ouE y.1 own))) := by
        show _ = _
        rw [← unhide HXX]; unfold cmL
        rw [if_neg (by simpa using unhide H1), if_pos h2]
      generalize ouE y.1 own = z at *
      clear h2
      go_wp2_with fail
      refine (refusal_any z _).mono ?_
      rintro e w5 ⟨rfl, rfl⟩
      go_wp2_with fail
      go_ret2
      rw [HX2.out]
      exact ⟨rfl, qb.trans qb4⟩
  · have g1 : (inE y.1 own == 0) = false := by simpa using h1
    have g2 : (inE y.1 own != 0) = true := by simpa using h1
    have HX2 : Hid (xx = .error (rfE (inE y.1 own))) := by
      show _ = _
      rw [← unhide HXX]; unfold cmL
      rw [if_pos h1]
    generalize inE y.1 own = z at *
    clear h1
    go_wp2_with fail
    refine (refusal_any z _).mono ?_
    rintro e w3 ⟨rfl, rfl⟩
    go_wp2_with fail
    go_ret2
    rw [HX2.out]
    exact ⟨rfl, qb.trans qb2⟩

end Go.Proofs.YtpddckgkaopnlaaGreatDoor

/- Build where the answer is known; the fixed lines that every statement on words asks of first; the conditions: the lengths. -/
namespace Go.Proofs.YtpddckgkaopnlaaGreatDoor
open Go.RowKit

theorem build_some {a b c d : Ws} {r : List UInt8} (s : ByteArray) (w : World) (hs : s.size ≤ 1152921504606846976) (h : bdR (bl s) = some (a, r, b, c, d)) :
    Calls Tryz.prog 112 #[.string s] w fun e w' => ∃ (ao bo co eo : Option Addr) (ac bc cc ec k1 k2 k3 : Nat),
      e = .returned (.tuple #[.slice ao a.length ac, .string ⟨r.toArray⟩, .slice bo b.length bc, .slice co c.length cc, .slice eo d.length ec, .int .i64 0]) ∧ Four w' w.heap.size k1 k2 k3 (a, r, b, c, d) ao bo co eo ac bc cc ec ∧ Q w w' := by
  have := build_any s w hs
  unfold BSays at this
  rw [h] at this
  exact this

theorem build_none (s : ByteArray) (w : World) (hs : s.size ≤ 1152921504606846976) (h : bdR (bl s) = none) :
    Calls Tryz.prog 112 #[.string s] w fun e w' => ∃ (ao bo co eo : Option Addr) (ac bc cc ec : Nat),
      e = .returned (.tuple #[.slice ao 0 ac, .string ⟨#[]⟩, .slice bo 0 bc, .slice co 0 cc, .slice eo 0 ec, .int .i64 700]) ∧ Q w w' := by
  have := build_any s w hs
  unfold BSays at this
  rw [h] at this
  refine this.mono ?_
  rintro e w' ⟨ao, bo, co, eo, ac, bc, cc, ec, k1, k2, k3, h1, h2, h3⟩
  exact ⟨ao, bo, co, eo, ac, bc, cc, ec, h1, h3⟩

structure Four.Rows (w : World) (x : Bt) (ao bo co eo : Option Addr) : Prop where
  a : RowT w ao x.1
  b : RowT w bo x.2.2.1
  c : RowT w co x.2.2.2.1
  d : RowT w eo x.2.2.2.2
theorem Four.rows {w : World} {B k1 k2 k3 : Nat} {x : Bt} {ao bo co eo : Option Addr} {ac bc cc ec : Nat} (h : Four w B k1 k2 k3 x ao bo co eo ac bc cc ec) : Four.Rows w x ao bo co eo :=
  ⟨h.a.row, h.b.row, h.c.row, h.d.row⟩
theorem Four.Rows.q {w w' : World} {x : Bt} {ao bo co eo : Option Addr} (h : Four.Rows w x ao bo co eo) (hq : Q w w') : Four.Rows w' x ao bo co eo :=
  ⟨h.a.q hq, h.b.q hq, h.c.q hq, h.d.q hq⟩

theorem build_rv {a b c d : Ws} {rv : ByteArray} (s : ByteArray) (w : World) (hs : s.size ≤ 1152921504606846976) (h : bdR (bl s) = some (a, bl rv, b, c, d)) :
    Calls Tryz.prog 112 #[.string s] w fun e w' => ∃ (ao bo co eo : Option Addr) (ac bc cc ec : Nat),
      e = .returned (.tuple #[.slice ao a.length ac, .string rv, .slice bo b.length bc, .slice co c.length cc, .slice eo d.length ec, .int .i64 0]) ∧ Four.Rows w' (a, bl rv, b, c, d) ao bo co eo ∧ Q w w' := by
  refine (build_some s w hs h).mono ?_
  rintro e w' ⟨ao, bo, co, eo, ac, bc, cc, ec, k1, k2, k3, h1, h2, h3⟩
  rw [mk_blW] at h1
  exact ⟨ao, bo, co, eo, ac, bc, cc, ec, h1, h2.rows, h3⟩

def aw1 : Ws := [[120, 46, 111], [121]]
def aw2 : Ws := [[120, 46, 99]]
def aw3 : Ws := [[97, 46, 104]]
def aw4 : Ws := [[103, 101, 110]]
theorem wdlit1 : bdR (bl { data := #[120, 46, 111, 32, 32, 121, 32, 58, 32, 99, 99, 32, 120, 46, 99, 32, 124, 32, 97, 46, 104, 32, 124, 124, 32, 103, 101, 110] }) = some (aw1, [99, 99], aw2, aw3, aw4) := by kernel_rfl
theorem wdlit2 : bdR (bl { data := #[120, 32, 58, 32, 99, 99, 32, 124, 124, 32, 103, 101, 110] }) = some ([[120]], [99, 99], [], [], aw4) := by kernel_rfl
theorem wdlit3 : bdR (bl { data := #[120, 58, 32, 99, 99] }) = none := by kernel_rfl
theorem wdlit4 : bdR (bl { data := #[120, 32, 58, 32, 99, 99, 32, 124] }) = none := by kernel_rfl

end Go.Proofs.YtpddckgkaopnlaaGreatDoor

/- What package manifest's edgeOf answers; the conditions: the rules lie in memory. -/
namespace Go.Proofs.YtpddckgkaopnlaaGreatDoor
open Go.RowKit

/-- A row of texts and where it lies. -/
abbrev Rw := Option Addr × Nat × Ws
def rwv (x : Rw) : Value := .slice x.1 x.2.2.length x.2.1
def rwV (x : Rw) : List Value := [rwv x]

/-- The rows of an edge while they are cleaned: k of them are. -/
structure CS (B : Nat) (rows : List Rw) (k : Nat) (w : World) (zs : List Rw) : Prop where
  len : zs.length = rows.length
  lo : ∀ (j : Nat) x, j < k → rows[j]? = some x → ∃ y, clL x.2.2 = some y ∧ zs[j]? = some (x.1, x.2.1, y)
  hi : ∀ j : Nat, k ≤ j → zs[j]? = rows[j]?
  own : ∀ x ∈ zs, OwnT w B x.1 x.2.1 x.2.2
  pw : ∀ (i j : Nat) x y, zs[i]? = some x → zs[j]? = some y → i ≠ j → ∀ b, (rwv x).ownBlock = some b → (rwv y).ownBlock ≠ some b

theorem CS.next {B : Nat} {rows zs : List Rw} {k : Nat} {w w' : World} (h : CS B rows k w zs) {x : Rw} {y : Ws} (hx : rows[k]? = some x) (hy : clL x.2.2 = some y) (ho : OwnT w' B x.1 x.2.1 y) (hw : Own2 (rwv x) w w') : CS B rows (k + 1) w' (zs.set k (x.1, x.2.1, y)) := by
  have hk : k < rows.length := (List.getElem?_eq_some_iff.1 hx).1
  have hzk : zs[k]? = some x := (h.hi k (Nat.le_refl _)).trans hx
  have hg : ∀ (i : Nat) a, (zs.set k (x.1, x.2.1, y))[i]? = some a → (i = k ∧ a = (x.1, x.2.1, y)) ∨ (i ≠ k ∧ zs[i]? = some a) := by
    intro i a ha
    by_cases e : i = k
    · subst e
      rw [List.getElem?_set_self (by rw [h.len]; exact hk)] at ha
      exact Or.inl ⟨rfl, (Option.some.inj ha).symm⟩
    · rw [List.getElem?_set_ne (fun e2 => e e2.symm)] at ha
      exact Or.inr ⟨e, ha⟩
  have hbl : (rwv (x.1, x.2.1, y)).ownBlock = (rwv x).ownBlock := by unfold rwv; cases x.1 <;> rfl
  refine ⟨by rw [List.length_set]; exact h.len, ?_, ?_, ?_, ?_⟩
  · intro j a hj ha
    by_cases e : j = k
    · subst e
      rw [hx] at ha; cases ha
      exact ⟨y, hy, List.getElem?_set_self (by rw [h.len]; exact hk)⟩
    · obtain ⟨z, h1, h2⟩ := h.lo j a (by omega) ha
      exact ⟨z, h1, by rw [List.getElem?_set_ne (fun e2 => e e2.symm)]; exact h2⟩
  · intro j hj
    rw [List.getElem?_set_ne (by omega)]; exact h.hi j (by omega)
  · intro a ha
    obtain ⟨i, hi⟩ := List.getElem?_of_mem ha
    rcases hg i a hi with ⟨_, rfl⟩ | ⟨hne, hza⟩
    · exact ho
    · refine hw.own (h.own a (List.mem_of_getElem? hza)) ?_
      cases hb : (rwv a).ownBlock with
      | none => exact Or.inl hb
      | some b =>
        right
        intro e
        exact h.pw i k a x hza hzk hne b hb (e.symm.trans hb)
  · intro i j a c ha hc hij b hb
    rcases hg i a ha with ⟨ei, ea⟩ | ⟨hi, ha2⟩
    · rcases hg j c hc with ⟨ej, ec⟩ | ⟨hj, hc2⟩
      · exact absurd (ei.trans ej.symm) hij
      · rw [ea, hbl] at hb
        exact h.pw k j x c hzk hc2 (fun e => hij (ei.trans e)) b hb
    · rcases hg j c hc with ⟨ej, ec⟩ | ⟨hj, hc2⟩
      · rw [ec, hbl]
        exact h.pw i k a x ha2 hzk (fun e => hij (e.trans ej.symm)) b hb
      · exact h.pw i j a c ha2 hc2 hij b hb
theorem CS.q {B : Nat} {rows zs : List Rw} {k : Nat} {w w' : World} (h : CS B rows k w zs) (hq : Q w w') : CS B rows k w' zs := ⟨h.len, h.lo, h.hi, fun x hx => own_q (h.own x hx) hq, h.pw⟩

/-- The four rows of a build line. -/
theorem CS.start {w : World} {B k1 k2 k3 : Nat} {x : Bt} {ao bo co eo : Option Addr} {ac bc cc ec : Nat} (h : Four w B k1 k2 k3 x ao bo co eo ac bc cc ec) : CS B [(ao, ac, x.1), (bo, bc, x.2.2.1), (co, cc, x.2.2.2.1), (eo, ec, x.2.2.2.2)] 0 w [(ao, ac, x.1), (bo, bc, x.2.2.1), (co, cc, x.2.2.2.1), (eo, ec, x.2.2.2.2)] := by
  have ha := h.a.lt
  have hb := h.b.lt
  have hc := h.c.lt
  have hd := h.d.lt
  have l1 := h.la
  have l2 := h.lb
  have l3 := h.lc
  refine ⟨rfl, fun j x hj => absurd hj (by omega), fun _ _ => rfl, ?_, ?_⟩
  · intro y hy
    simp only [List.mem_cons, List.not_mem_nil, or_false] at hy
    rcases hy with rfl | rfl | rfl | rfl
    · exact h.a
    · exact own_low h.b l1
    · exact own_low h.c (by omega)
    · exact own_low h.d (by omega)
  · intro i j p q hp hq hij b hb1 hb2
    match i, j, hp, hq, hij with
    | 0, 0, _, _, hij => exact hij rfl
    | 1, 1, _, _, hij => exact hij rfl
    | 2, 2, _, _, hij => exact hij rfl
    | 3, 3, _, _, hij => exact hij rfl
    | 0, 1, hp, hq, _ => cases hp; cases hq; have := h.ta b hb1; have := (hb b hb2).1; omega
    | 0, 2, hp, hq, _ => cases hp; cases hq; have := h.ta b hb1; have := (hc b hb2).1; omega
    | 0, 3, hp, hq, _ => cases hp; cases hq; have := h.ta b hb1; have := (hd b hb2).1; omega
    | 1, 2, hp, hq, _ => cases hp; cases hq; have := h.tb b hb1; have := (hc b hb2).1; omega
    | 1, 3, hp, hq, _ => cases hp; cases hq; have := h.tb b hb1; have := (hd b hb2).1; omega
    | 2, 3, hp, hq, _ => cases hp; cases hq; have := h.tc b hb1; have := (hd b hb2).1; omega
    | 1, 0, hp, hq, _ => cases hp; cases hq; have := h.ta b hb2; have := (hb b hb1).1; omega
    | 2, 0, hp, hq, _ => cases hp; cases hq; have := h.ta b hb2; have := (hc b hb1).1; omega
    | 3, 0, hp, hq, _ => cases hp; cases hq; have := h.ta b hb2; have := (hd b hb1).1; omega
    | 2, 1, hp, hq, _ => cases hp; cases hq; have := h.tb b hb2; have := (hc b hb1).1; omega
    | 3, 1, hp, hq, _ => cases hp; cases hq; have := h.tb b hb2; have := (hd b hb1).1; omega
    | 3, 2, hp, hq, _ => cases hp; cases hq; have := h.tc b hb2; have := (hd b hb1).1; omega

/-- The words of a build line are few and short. -/
theorem tkW_few (ws : Ws) : Few (tkW ws) := by
  refine ⟨by unfold tkW; rw [List.length_take]; omega, fun p hp => ?_⟩
  unfold tkW at hp
  have h1 := List.mem_of_mem_take hp
  have h2 : okN p = true := by
    have := List.all_takeWhile (p := okN) (l := ws)
    exact List.all_eq_true.1 this p h1
  unfold okN at h2
  simp only [Bool.and_eq_true, decide_eq_true_eq] at h2
  exact h2.1.2
theorem Few.nil : Few [] := ⟨by simp, fun p hp => by cases hp⟩
theorem prW_few (x : Tx) (ws : Ws) : Few (prW x ws).1 := by
  unfold prW; split
  · exact tkW_few _
  · exact Few.nil
theorem bdR_few {l : Tx} {b : Bt} (h : bdR l = some b) : Few b.1 ∧ Few b.2.2.1 ∧ Few b.2.2.2.1 ∧ Few b.2.2.2.2 ∧ okN b.2.1 = true ∧ b.1 ≠ [] := by
  unfold bdR bdW at h
  simp only at h
  split at h
  · cases h
  · rename_i h0
    split at h
    · cases h
    · rename_i h1
      split at h
      · cases h
        refine ⟨tkW_few _, tkW_few _, prW_few _ _, prW_few _ _, by simpa using h1, fun e => h0 ?_⟩
        rw [show tkW (wdL l) = [] from e]; rfl
      · cases h

/-- What edgeOf answers. -/
def EgSays (x : Option (Ed × Rl)) (w : World) (e : Ending) (w' : World) : Prop := Q w w' ∧ match x with
  | none => e = .returned (.tuple #[.agg #[.slice none 0 0, .slice none 0 0, .slice none 0 0, .slice none 0 0, .string ⟨#[]⟩, .bool false, .string ⟨#[]⟩], .agg #[.string ⟨#[]⟩, .string ⟨#[]⟩, .bool false, .string ⟨#[]⟩], .bool false])
  | some z => ∃ y : EdA, y.1 = z.1 ∧ e = .returned (.tuple #[.agg (ev y).toArray, .agg (rv z.2).toArray, .bool true]) ∧ EdR w' w.heap.size y ∧ (edB y).Nodup

end Go.Proofs.YtpddckgkaopnlaaGreatDoor
