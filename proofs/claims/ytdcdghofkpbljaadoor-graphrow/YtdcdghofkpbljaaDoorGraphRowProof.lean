/- GraphRow, whole: a graph whose edges stand in another row may be, is twice, is made as before, whatever the graph, the number and the name; no conditions. -/
import Derived.Test.YtdcdghofkpbljaaDoorRows
import Derived.Test.YtdcdghofkpbljaaDoorCards
import Derived.Test.YtdcdghofkpbljaaDoorTie
import Derived.LaidMore
import Derived.Lay
import Derived.SevenTiedAt
import Derived.Stop.Joined
import Derived.ProofKit
import Derived.OpenShut
import Derived.ShutString
import Derived.ChangeOld
import Derived.Below
import Derived.SizedLaws
import Derived.Test.YtdcdghofkpbljaaDoorGfOpen
import Derived.Test.YtdcdghofkpbljaaDoorGfRowPlain
import Derived.Test.YtdcdghofkpbljaaDoorGfRCheck
import Derived.Test.YtdcdghofkpbljaaDoorGfAwake
import Derived.Test.YtdcdghofkpbljaaDoorGfStep
namespace Go.Proofs.YtdcdghofkpbljaaDoor
open Go.ChangeShapes Go.WideShapes Go.ChangeAt Go.RowKit
open Go.ChangeMaps (open_string shut_string)

theorem RowG.drop {α : Type} {f : α → List Value} {sz : Nat} {w : World} {g o : Nat} {xs : List α} (h : RowG f sz w (some ⟨g, o, none⟩) xs) (t : Nat) : RowG f sz w (some ⟨g, o + t * sz, none⟩) (xs.drop t) := by
  rcases h with h | ⟨g', o', e, hg, hc⟩
  · left; rw [h]; simp
  · cases e
    refine Or.inr ⟨g, o + t * sz, rfl, hg, fun j i x v hx hi hv => ?_⟩
    rw [List.getElem?_drop] at hx
    have := hc (t + j) i x v hx hi hv
    rwa [show o + t * sz + (j * sz + i) = o + ((t + j) * sz + i) by rw [Nat.add_mul]; omega]

set_option maxRecDepth 20000 in
set_option maxHeartbeats 16000000 in
theorem graphRow_any (w : World) (g : Gh) (es : List EdA) (eo po dd : Option Addr) (ec pc dc : Nat) (hg0 : IsGr w g es eo po dd ec pc dc) (a : Int) (_ : (Lit.int .i64 a).wf = true) (n : ByteArray) (_ : n.size ≤ maxLen) :
    Calls Tryd.prog 6 #[.agg #[.slice eo es.length ec, .slice po g.2.1.length pc, .slice dd g.2.2.length dc], .int .i64 a, .string n] w fun e w' => e = .returned (.bool true) ∧ Q w w' := by
  obtain ⟨i0, hi, hz0, hz1, hz2⟩ : ∃ i0, Tryd.prog.info? 31 = some i0 ∧ i0.zero = some (.agg #[.slice none 0 0, .slice none 0 0, .slice none 0 0, .slice none 0 0, .string ByteArray.empty, .bool false, .string ByteArray.empty]) ∧ i0.size = 7 ∧ i0.bytes = 136 := ⟨_, rfl, rfl, rfl, rfl⟩
  have hpm : pc ≤ maxLen := by have := hg0.pc2; unfold reachBytes at this; unfold maxLen; omega
  have hel : es.length * 136 ≤ 140737488355328 := by have h1 := hg0.ec1; have h2 := hg0.ec2; unfold reachBytes at h2; omega
  have hec1 := hg0.ec1
  have hec2 : ec ≤ 9223372036854775807 := by have h2 := hg0.ec2; unfold reachBytes at h2; omega
  have HS := hide (hg0.r.says ec pc dc hg0.pc1 hpm)
  have HR := hide (fun w2 (q : Q w w2) => rCk_any g es eo po dd ec pc dc w2 (hg0.r.q' q))
  have HG := hide hg0.r
  have HPC : Hid (g.2.1.length ≤ pc ∧ pc ≤ maxLen) := ⟨hg0.pc1, hpm⟩
  have qb := grB_q w es g eo po dd ec pc dc
  have HB1 := hide (grB_blk w es g eo po dd ec pc dc)
  clear hg0 hpm
  go_enter Tryd.func6, Tryd.ntmps6
  go_wp2_with fail
  change Calls _ _ _ (grB w es g eo po dd ec pc dc) _
  generalize grB w es g eo po dd ec pc dc = wb at *
  generalize hX : w.heap.size = X at HB1 ⊢
  clear hX
  refine (gawake_any wb).mono ?_
  rintro e w1 ⟨rfl, q1⟩
  have qw1 := qb.trans q1
  have HX : Hid (∀ w2, Q w1 w2 → w2.cell? ⟨X, 0, none⟩ = some (.slice eo es.length ec) ∧ w2.cell? ⟨X, 1, none⟩ = some (.slice po g.2.1.length pc) ∧ w2.cell? ⟨X, 2, none⟩ = some (.slice dd g.2.2.length dc) ∧ X < w2.heap.size) :=
    fun w2 q => ⟨(((unhide HB1).q (q1.trans q))).cell 0 rfl, (((unhide HB1).q (q1.trans q))).cell 1 rfl, (((unhide HB1).q (q1.trans q))).cell 2 rfl, ((unhide HB1).q (q1.trans q)).hi⟩
  clear HB1 qb q1
  obtain ⟨x0, x1, x2, hXs⟩ := unhide HX w1 (Q.refl _)
  by_cases hk0 : es.length = 0
  · have hk0' : ((es.length : Int) == 0) = true := by rw [hk0]; rfl
    have hA0 : ∀ u : Aft w1, u.to.cell? ⟨X, 0, none⟩ = some (.slice eo es.length ec) := Aft.cell x0 hXs
    have hA1 : ∀ u : Aft w1, u.to.cell? ⟨X, 1, none⟩ = some (.slice po g.2.1.length pc) := Aft.cell x1 hXs
    have hA2 : ∀ u : Aft w1, u.to.cell? ⟨X, 2, none⟩ = some (.slice dd g.2.2.length dc) := Aft.cell x2 hXs
    have HC1 : Hid (∀ u : Aft w1, _) := fun u : Aft w1 => (unhide HS).ck u.to (qw1.trans u.q)
    have HC2 : Hid (∀ u : Aft w1, _) := fun u : Aft w1 => unhide HR u.to (qw1.trans u.q)
    have hne := Aft.ne w1
    have hself : (ckE g == ckE g) = true := by simp
    clear hk0
    generalize ckE g = ck at *
    go_wp2_with fail
    refine wp_region_aft (by kernel_rfl) (by kernel_rfl) ?_
    repeat (go_big_quiet_step (first | (go_at_call 12; exact Calls.aft (unhide HC1 _)) | (go_at_call 14; exact Calls.aft (unhide HC2 _)) | (go_at_call 11; exact Calls.aft ((num_any _ _).mono (fun e w' ⟨h1, h2⟩ => ⟨h1, h2 ▸ Q.refl _⟩)))))
    refine wpQuiet_nil ?_
    intro _ hw'
    obtain ⟨u, hw''⟩ := hw'
    subst hw''
    have qu := u.q
    generalize u.to = w4 at qu ⊢
    clear hA0 hA1 hA2 hne
    go_wp2_with fail
    go_ret
    exact ⟨rfl, qw1.trans qu⟩
  · have hk0' : ((es.length : Int) == 0) = false := beq_eq_false_iff_ne.2 (by omega)
    obtain ⟨t, htk, hmod0⟩ := umodB a es.length (by omega) (by omega)
    have hwk : IntKind.u64.wrap (es.length : Int) = (es.length : Int) := by
      show (es.length : Int) % 18446744073709551616 = _
      omega
    have htI : (t : Int) < (es.length : Int) := by omega
    rcases (unhide HG).e with he | ⟨gg, o, rfl, hgg, hcell⟩
    · rw [he] at hk0; simp at hk0
    have HRE : Hid (RowG ev 7 w (some ⟨gg, o, none⟩) es) := Or.inr ⟨gg, o, rfl, hgg, hcell⟩
    clear hk0 hcell hgg
    have qa := ((Q.refl w1).alloc (.cells #[.slice (some ⟨gg, o, none⟩) es.length ec, .slice po g.2.1.length pc, .slice dd g.2.2.length dc] 27)).alloc (.cells #[] 31)
    have HBH := hide ((Blk.new w1 #[.slice (some ⟨gg, o, none⟩) es.length ec, .slice po g.2.1.length pc, .slice dd g.2.2.length dc] 27).q ((Q.refl _).alloc (.cells #[] 31)))
    have HOW : Hid (((w1.alloc (.cells #[.slice (some ⟨gg, o, none⟩) es.length ec, .slice po g.2.1.length pc, .slice dd g.2.2.length dc] 27)).alloc (.cells #[] 31)).ownsRow w1.heap.size 31 7 (.slice (some ⟨w1.heap.size + 1, 0, none⟩) 0 0) 0 []) := by
      have h := own_new0 (w := w1.alloc (.cells #[.slice (some ⟨gg, o, none⟩) es.length ec, .slice po g.2.1.length pc, .slice dd g.2.2.length dc] 27)) (B := w1.heap.size) (e := 31) (size := 7) (by rw [size_alloc]; omega)
      rwa [size_alloc] at h
    have HS1 := hide (SrcRow.row ev_len (by decide) (((unhide HRE).drop t).q (qw1.trans qa)))
    rw [List.length_drop] at HS1
    go_wp2_with (at_builtin; refine wpList_append_row rfl _ _ 23 rfl w1.heap.size 31 i0 (.agg #[.slice none 0 0, .slice none 0 0, .slice none 0 0, .slice none 0 0, .string ByteArray.empty, .bool false, .string ByteArray.empty]) 7 136 Tryd.underlying23 hi hz0 hz1 hz2 rfl (by decide) (some ⟨w1.heap.size + 1, 0, none⟩) 0 0 [] rfl (unhide HOW) (some ⟨gg, o + t * 7, none⟩) (es.length - t) (ec - t) (lay ev (es.drop t)) rfl (unhide HS1) (one_layE _) (by unfold maxLen; omega) (by omega) qa.size ?_)
    intro ao3 cap3 w3 own3 grow3
    have own3' : w3.ownsRow w1.heap.size 31 7 (.slice ao3 (es.length - t) cap3) (es.length - t) (lay ev (es.drop t)) := by simpa using own3
    have q3 : Q w1 w3 := Below.grown qa grow3 qa.size (fun r hr => by have hr' : w1.heap.size + 1 = r := Option.some.inj hr; omega)
    have bH3 : Blk w3 w1.heap.size #[.slice (some ⟨gg, o, none⟩) es.length ec, .slice po g.2.1.length pc, .slice dd g.2.2.length dc] 27 := (unhide HBH).fr (Fr.grown grow3) (fun hx => by have hx' : w1.heap.size + 1 = w1.heap.size := Option.some.inj hx; omega)
    have frz3 := bH3.frz 0
    have cH3 := bH3.cell 0 rfl
    try rw [Nat.zero_add]
    clear own3 grow3 HOW HS1 HBH qa
    have HO4 := hide (own_fr own3' (Fr.set w3 w1.heap.size 0 (.slice ao3 (es.length - t) cap3)) (fun k hk => bH3.row own3' (by decide) k hk))
    have q4 : Q w1 (w3.setCell ⟨w1.heap.size, 0, none⟩ (.slice ao3 (es.length - t) cap3)) := q3.setHi (Nat.le_refl _) 0 _
    have HBH4 := hide (bH3.set 0 (.slice ao3 (es.length - t) cap3))
    have y0 : (w3.setCell ⟨w1.heap.size, 0, none⟩ (.slice ao3 (es.length - t) cap3)).cell? ⟨w1.heap.size, 0, none⟩ = some (.slice ao3 (es.length - t) cap3) := (unhide HBH4).cell 0 rfl
    obtain ⟨z0, z1, z2, _⟩ := unhide HX _ q4
    go_wp2_with fail
    generalize w3.setCell ⟨w1.heap.size, 0, none⟩ (.slice ao3 (es.length - t) cap3) = w4 at *
    have HS2 := hide (SrcRow.row ev_len (by decide) (((unhide HRE).take t).q (qw1.trans q4.drew)))
    rw [List.length_take, show min t es.length = t by omega] at HS2
    have qs4 := q4.size
    have bH4 : Hid (Blk w4 w1.heap.size #[.slice ao3 (es.length - t) cap3, .slice po g.2.1.length pc, .slice dd g.2.2.length dc] 27) := unhide HBH4
    have t0 : (0 : Int) ≤ (t : Int) := by omega
    have t2 : (t : Int) ≤ (ec : Int) := by omega
    clear own3' bH3 q3 HBH4 frz3 cH3
    go_region_law (refine step_row rfl (.tmp 44) (.tmp 48) 23 rfl w1.heap.size 31 i0 _ 7 136 Tryd.underlying23 hi hz0 hz1 hz2 rfl (by decide) ao3 (es.length - t) cap3 (lay ev (es.drop t)) (by rfl) (own_q (unhide HO4) ((Q.refl w4).drew)) (some ⟨gg, o, none⟩) t ec (lay ev (es.take t)) (by rfl) (unhide HS2) (one_layE _) (by unfold maxLen; omega) (by omega) qs4 ?_; intro ao5 cap5 w5 own5 grow5; have bH5 := hide ((unhide bH4).grown ((Q.refl w4).drew) grow5 (own_new_ne (unhide HO4) (unhide bH4))); have frz5 := (unhide bH5).frz 0; have cH5 : w5.cell? ⟨w1.heap.size, 0, none⟩ = some (.slice ao3 (es.length - t) cap3) := (unhide bH5).cell 0 rfl)
    all_goals
      have hkk : es.length - t + t = es.length := by omega
      have own5' : w5.ownsRow w1.heap.size 31 7 (.slice ao5 es.length cap5) es.length (lay ev (rot t es)) := by
        unfold rot
        rw [lay_app]
        rw [hkk] at own5
        exact own5
      have q5 : Q w1 w5 := Below.grown q4.drew grow5 qs4 (fun r hr => ((unhide HO4).lt r hr).1)
      try rw [hkk]
      clear own5 grow5 HO4 HS2 bH4 y0 z0 z1 z2 qs4 q4 hkk
      have HBH6 := hide ((unhide bH5).set 0 (.slice ao5 es.length cap5))
      have HO6 := hide (own_fr own5' (Fr.set w5 w1.heap.size 0 (.slice ao5 es.length cap5)) (fun k hk => (unhide bH5).row own5' (by decide) k hk))
      have q6 : Q w1 (w5.setCell ⟨w1.heap.size, 0, none⟩ (.slice ao5 es.length cap5)) := q5.setHi (Nat.le_refl _) 0 _
      clear own5' bH5 q5
      obtain ⟨z0, z1, z2, _⟩ := unhide HX _ q6
      go_wp2_with fail
      generalize w5.setCell ⟨w1.heap.size, 0, none⟩ (.slice ao5 es.length cap5) = w6 at *
      have HSH : Hid (Says w6 (.agg #[.slice ao5 es.length cap5, .slice po g.2.1.length pc, .slice dd g.2.2.length dc]) (rot t g.1, g.2)) := by
        have hr : GfR w6 (rot t g.1, g.2) (rot t es) ao5 po dd := by
          have h6 := (unhide HG).q' (qw1.trans q6)
          refine ⟨RowG.own ev_len (by decide) (unhide HO6), ?_, h6.p, h6.d, fun x hx => h6.q x ((rot_perm t es).mem_iff.1 hx), ⟨fun x hx => h6.z.e x ((rot_perm t g.1).mem_iff.1 hx), by show (rot t g.1).length ≤ _; rw [rot_len]; exact h6.z.le, h6.z.lp, h6.z.p, h6.z.d⟩⟩
          rw [rot_map, h6.em]
        have := hr.says cap5 pc dc (unhide HPC).1 (unhide HPC).2
        rwa [rot_len] at this
      have HBX : Hid (∀ w2, Q w6 w2 → w2.cell? ⟨w1.heap.size, 0, none⟩ = some (.slice ao5 es.length cap5) ∧ w2.cell? ⟨w1.heap.size, 1, none⟩ = some (.slice po g.2.1.length pc) ∧ w2.cell? ⟨w1.heap.size, 2, none⟩ = some (.slice dd g.2.2.length dc) ∧ w1.heap.size < w2.heap.size) :=
        fun w2 q => ⟨((unhide HBH6).q q).cell 0 rfl, ((unhide HBH6).q q).cell 1 rfl, ((unhide HBH6).q q).cell 2 rfl, ((unhide HBH6).q q).hi⟩
      have HX6 : Hid (∀ w2, Q w6 w2 → _) := fun w2 (q : Q w6 w2) => unhide HX w2 (q6.trans q)
      have qw6 := qw1.trans q6
      generalize w1.heap.size = H at *
      clear HX HBH6 HO6 q6 qw1
      have HM1 := hide ((unhide HS).make w6 n qw6)
      refine (unhide HM1).mono ?_
      rintro e w7 ⟨rfl, q7⟩
      obtain ⟨b0, b1, b2, _⟩ := unhide HBX w7 q7
      have HM2 := hide ((unhide HSH).make w7 n q7)
      rw [ck_rot] at HM2
      clear HM1 z0 z1 z2
      go_wp2_with fail
      refine (unhide HM2).mono ?_
      rintro e w8 ⟨rfl, q8⟩
      have q68 := q7.trans q8
      clear HM2 b0 b1 b2
      obtain ⟨b0, b1, b2, b3⟩ := unhide HBX w8 q68
      obtain ⟨z0, z1, z2, z3⟩ := unhide HX6 w8 q68
      have hA0 : ∀ u : Aft w8, u.to.cell? ⟨X, 0, none⟩ = some (.slice (some ⟨gg, o, none⟩) es.length ec) := Aft.cell z0 z3
      have hA1 : ∀ u : Aft w8, u.to.cell? ⟨X, 1, none⟩ = some (.slice po g.2.1.length pc) := Aft.cell z1 z3
      have hA2 : ∀ u : Aft w8, u.to.cell? ⟨X, 2, none⟩ = some (.slice dd g.2.2.length dc) := Aft.cell z2 z3
      have hB0 : ∀ u : Aft w8, u.to.cell? ⟨H, 0, none⟩ = some (.slice ao5 es.length cap5) := Aft.cell b0 b3
      have hB1 : ∀ u : Aft w8, u.to.cell? ⟨H, 1, none⟩ = some (.slice po g.2.1.length pc) := Aft.cell b1 b3
      have hB2 : ∀ u : Aft w8, u.to.cell? ⟨H, 2, none⟩ = some (.slice dd g.2.2.length dc) := Aft.cell b2 b3
      have HCK : Hid (∀ u : Aft w8, Calls Tryd.prog 12 #[.agg #[.slice (some ⟨gg, o, none⟩) es.length ec, .slice po g.2.1.length pc, .slice dd g.2.2.length dc]] u.to fun e w' => e = .returned (.int .i64 (ckE g)) ∧ Q u.to w') := fun u => (unhide HS).ck u.to ((qw6.trans q68).trans u.q)
      have HMY : Hid (∀ u : Aft w8, Calls Tryd.prog 10 #[.agg #[.slice (some ⟨gg, o, none⟩) es.length ec, .slice po g.2.1.length pc, .slice dd g.2.2.length dc]] u.to fun e w' => e = .returned (.bool (gmB g)) ∧ Q u.to w') := fun u => (unhide HS).may u.to ((qw6.trans q68).trans u.q)
      have HCK2 : Hid (∀ u : Aft w8, Calls Tryd.prog 12 #[.agg #[.slice ao5 es.length cap5, .slice po g.2.1.length pc, .slice dd g.2.2.length dc]] u.to fun e w' => e = .returned (.int .i64 (ckE g)) ∧ Q u.to w') := by
        show ∀ u : Aft w8, _
        intro u
        have := (unhide HSH).ck u.to (q68.trans u.q)
        rwa [ck_rot] at this
      have HMY2 : Hid (∀ u : Aft w8, Calls Tryd.prog 10 #[.agg #[.slice ao5 es.length cap5, .slice po g.2.1.length pc, .slice dd g.2.2.length dc]] u.to fun e w' => e = .returned (.bool (gmB g)) ∧ Q u.to w') := by
        show ∀ u : Aft w8, _
        intro u
        have := (unhide HSH).may u.to (q68.trans u.q)
        rwa [gm_rot] at this
      have HCKB : Hid (∀ (u : Aft w8) (v : Value), (v = .agg #[.slice (some ⟨gg, o, none⟩) es.length ec, .slice po g.2.1.length pc, .slice dd g.2.2.length dc] ∨ v = .agg #[.slice ao5 es.length cap5, .slice po g.2.1.length pc, .slice dd g.2.2.length dc]) → Calls Tryd.prog 12 #[v] u.to fun e w' => e = .returned (.int .i64 (ckE g)) ∧ Q u.to w') := by
        show ∀ (u : Aft w8) (v : Value), _
        rintro u v (rfl | rfl)
        · exact unhide HCK u
        · exact unhide HCK2 u
      have HMYB : Hid (∀ (u : Aft w8) (v : Value), (v = .agg #[.slice (some ⟨gg, o, none⟩) es.length ec, .slice po g.2.1.length pc, .slice dd g.2.2.length dc] ∨ v = .agg #[.slice ao5 es.length cap5, .slice po g.2.1.length pc, .slice dd g.2.2.length dc]) → Calls Tryd.prog 10 #[v] u.to fun e w' => e = .returned (.bool (gmB g)) ∧ Q u.to w') := by
        show ∀ (u : Aft w8) (v : Value), _
        rintro u v (rfl | rfl)
        · exact unhide HMY u
        · exact unhide HMY2 u
      clear HCK HCK2 HMY HMY2
      have hne := Aft.ne w8
      have hs1 : (ckE g == ckE g) = true := by simp
      have hs2 : (gmB g == gmB g) = true := by simp
      have hcase : (mkIs g (bl n) = false ∧ mkIs (rot t g.1, g.2) (bl n) = false) ∨ ∃ a b : Nat, mkI g (bl n) = a ∧ mkI (rot t g.1, g.2) (bl n) = b ∧ mkIs g (bl n) = true ∧ mkIs (rot t g.1, g.2) (bl n) = true ∧ b < es.length ∧ (b + t) % es.length = a := by
        unfold mkI mkIs
        rw [ck_rot]
        by_cases h0 : ckE g = 0
        · rw [h0]
          have hl := (unhide HG).len
          rcases mk_rot (es := g.1) (t := t) (x := bl n) (by omega) (ck_nodup h0).2 with ⟨h1, h2⟩ | ⟨x, y, h1, h2, h3, h4⟩
          · left
            exact ⟨by simp; omega, by show ((0 : Int) == 0 && decide (0 ≤ mkA (rot t g.1) (bl n))) = false; simp; omega⟩
          · right
            refine ⟨x, y, ?_, ?_, ?_, ?_, by omega, by rw [hl]; exact h4⟩
            · rw [if_pos rfl, h1]; omega
            · rw [if_pos rfl, show (rot t g.1, g.2).1 = rot t g.1 from rfl, h2]; omega
            · rw [h1]; simp
            · rw [show (rot t g.1, g.2).1 = rot t g.1 from rfl, h2]; simp
        · left
          have h1 : (ckE g == 0) = false := by simpa using h0
          rw [h1]; exact ⟨rfl, rfl⟩
      generalize mkI g (bl n) = m1 at *
      generalize mkI (rot t g.1, g.2) (bl n) = m2 at *
      generalize mkIs g (bl n) = s1 at *
      generalize mkIs (rot t g.1, g.2) (bl n) = s2 at *
      generalize ckE g = ck at *
      generalize gmB g = gm at *
      clear HS HSH HR HG HPC HBX HX6 HRE hi hz0 hz1 hz2 hmod0 hwk hs1 hs2 b3 z3 hXs
      rcases hcase with ⟨rfl, rfl⟩ | ⟨x, y, rfl, rfl, rfl, rfl, h3, h4⟩
      · clear x0 x1 x2 b0 b1 b2 z0 z1 z2
        go_wp2_with fail
        refine wp_region_aft (by kernel_rfl) (by kernel_rfl) ?_
        repeat (go_big_quiet_step (first | (go_at_call 12; refine Calls.aft (unhide HCKB _ _ ?_); first | exact Or.inl rfl | exact Or.inr rfl) | (go_at_call 10; refine Calls.aft (unhide HMYB _ _ ?_); first | exact Or.inl rfl | exact Or.inr rfl) | (go_at_call 11; exact Calls.aft ((num_any _ _).mono (fun e w' ⟨h1, h2⟩ => ⟨h1, h2 ▸ Q.refl _⟩)))))
        refine wpQuiet_nil ?_
        intro _ hw'
        obtain ⟨u, hw''⟩ := hw'
        subst hw''
        have qu := u.q
        generalize u.to = w9 at qu ⊢
        clear hA0 hA1 hA2 hB0 hB1 hB2 hne
        go_wp2_with fail
        go_ret
        exact ⟨rfl, (qw6.trans q68).trans qu⟩
      · have HREM : Hid ((((y : Int) + (t : Int)) % (es.length : Int) == (x : Int)) = true) := by
          show _ = _
          rw [← h4]; simp
        have hb1 : (y : Int) < (es.length : Int) := by omega
        clear x0 x1 x2 b0 b1 b2 z0 z1 z2 h4
        go_wp2_with fail
        refine wp_region_aft (by kernel_rfl) (by kernel_rfl) ?_
        repeat (go_big_quiet_step (first | (go_at_call 12; refine Calls.aft (unhide HCKB _ _ ?_); first | exact Or.inl rfl | exact Or.inr rfl) | (go_at_call 10; refine Calls.aft (unhide HMYB _ _ ?_); first | exact Or.inl rfl | exact Or.inr rfl) | (go_at_call 11; exact Calls.aft ((num_any _ _).mono (fun e w' ⟨h1, h2⟩ => ⟨h1, h2 ▸ Q.refl _⟩)))))
        refine wpQuiet_nil ?_
        intro _ hw'
        obtain ⟨u, hw''⟩ := hw'
        subst hw''
        have qu := u.q
        generalize u.to = w9 at qu ⊢
        clear hA0 hA1 hA2 hB0 hB1 hB2 hne
        go_wp2_with fail
        go_ret
        exact ⟨ret_bool HREM.out, (qw6.trans q68).trans qu⟩

theorem Tryd.laidOut : laidOutB Tryd.prog = true := by kernel_rfl
set_option maxRecDepth 100000 in
theorem graphRow_lifted (os : Os) (started : os.Started) (H : Type) (enc : TypeId × Value → H) :
    ReturnsInHanded {} Tryd.checked os 6 .any (fun w args => (Rows.graphRowSpec.pre enc Tryd.prog Tryd.f6 [] false w args ∧ laidMetH Tryd.prog Rows.graphRowRow.laid w) ∧ sizedMet enc Tryd.prog Tryd.f6 (OpenSpec.ofChange Rows.graphRowSpec) false w args) (Rows.graphRowSpec.post enc Tryd.prog Tryd.f6 false true false false) := by
  refine returnsInHanded_of_change_and (C := Tryd.checked) (X := fun w _ => laidMetH Tryd.prog Rows.graphRowRow.laid w) (fun _ _ _ hh h => h.of_heap hh) Tryd.own started (by kernel_rfl) Tryd.func6
    (ChangeSpec.witness_shaped (enc := enc) (C := Tryd.checked) (os := os) (X := fun w _ => laidMetH Tryd.prog Rows.graphRowRow.laid w) false (World.laidAll Tryd.prog os Rows.graphRowRow.laid) #[.agg #[.slice none 0 0, .slice none 0 0, .slice none 0 0], .int .i64 0, .string ByteArray.empty] 8 (World.laidAll_os _ _ _)
      (World.shaped_of_ZipB (by kernel_rfl) (by kernel_rfl)) (by kernel_rfl) (by kernel_rfl) (by kernel_rfl)
      (by rw [MakeChecks.laidMetH_plain _ _ _ (by kernel_rfl)]; exact laidMet_laidAll _ (by kernel_rfl) (by kernel_rfl))) ?_
  intro W base args ds gs before hval0 hW _ hsz0 hL _
  have hval : ∀ (j : Nat) t v, Tryd.f6.params[j]? = some t → args[j]? = some v → Value.okWide Tryd.prog W .any base t v := hval0
  have hW' := hW
  obtain ⟨p, q, hA0, hV, rfl, hfz, hnd⟩ := hW
  have hA : DataW.TrodAll enc Tryd.prog W 0 (fun _ => true) true Tryd.f6.params.toList args.toList ds p := hA0
  rw [Tryd.params6] at hA hval
  rw [Tryd.params6] at hsz0
  obtain ⟨v0, vs0, d0, ds0, p0, q0, hargs, rfl, rfl, h0, r0⟩ := trodAll_cons hA
  obtain ⟨v1, vs1, d1, ds1, p1, q1, rfl, rfl, rfl, h1, r1⟩ := trodAll_cons r0
  obtain ⟨v2, vs2, d2, ds2, p2, q2, rfl, rfl, rfl, h2, r2⟩ := trodAll_cons r1
  obtain ⟨rfl, rfl, rfl⟩ := trodAll_nil r2
  obtain rfl : args = #[v0, v1, v2] := by cases args; simp_all
  obtain ⟨rfl, rfl⟩ := trodVars_none hV
  have k0 := h0
  have lt0 : ∀ x ∈ p0, x.block < W.heap.size := by obtain ⟨m, hm⟩ := k0; exact DataW.trod_lt m _ _ _ hm
  obtain ⟨g0, es0, eo0, po0, dd0, ec0, pc0, dc0, rfl, w0⟩ := Tryd.is_graph (hval 0 27 v0 rfl rfl) h0 (fun m hm => by simpa using List.all_eq_true.1 hsz0 m (DataW.weights_mem_each (j := 0) (t := 27) rfl rfl m hm))
  obtain ⟨a1, rfl, rfl, rfl, w1⟩ := open_int Tryd.underlying3 (hval 1 3 v1 rfl rfl) h1
  obtain ⟨a2, rfl, rfl, rfl, w2⟩ := open_string Tryd.underlying9 (hval 2 9 v2 rfl rfl) h2
  clear hA0 hval0
  refine (graphRow_any W g0 es0 eo0 po0 dd0 ec0 pc0 dc0 w0 a1 w1 a2 w2).mono fun e W' ⟨he, bel⟩ => ?_
  subst he
  exact ⟨_, rfl, _, _, _, [], _, [], hW', trodAll_mk1 (shut_bool Tryd.underlying4 _), (trodAll_cons_mk (Below.trod Tryd.laidOut (by kernel_rfl) (of_decide_eq_true (by kernel_rfl)) k0 bel lt0) (trodAll_cons_mk (shut_int Tryd.underlying3 w1) (trodAll_cons_mk (shut_string Tryd.underlying9 w2) trodAll_mk0))), rfl, bel.frame _, fun h => by cases h⟩

theorem graphRow_holds : Rows.GraphRowSaid :=
  OpenClaim.holds_of_wide 6 Tryd.f6 rfl rfl rfl rfl rfl rfl rfl ⟨rfl, rfl, rfl, rfl, rfl⟩ rfl rfl rfl rfl rfl (by kernel_rfl) Tryd.func6 (by kernel_rfl)
    (of_decide_eq_true (by kernel_rfl)) (by unfold Func.isWrapper; first | (rw [if_pos (by decide +kernel)]; kernel_rfl) | (rw [if_neg (by decide +kernel)]; exact ⟨rfl, rfl⟩))
    (fun os started H enc _ => graphRow_lifted os started H enc)
theorem graphRow_card : Rows.GraphRowCardSaid :=
  Claim7.holds_tied_plain_at .later [] [.data, .pinned] true (true, "34930c2335a0f5bc5a06bdbfd5f205e646aed1e26a5a50b32a028c5565e280cf") false graphRow_holds (fun _ h => by cases h) (by kernel_rfl) (fun _ h => by cases h) graphRow_row_tie rfl ⟨rfl, rfl⟩ (by kernel_rfl) rfl
    (fun f fn hf hfn => by
      obtain rfl : f = 6 := Option.some.inj ((show Tryd.prog.funcNamed Rows.graphRowRow.func = some 6 by kernel_rfl).symm.trans hf) |>.symm
      obtain rfl : fn = Tryd.f6 := (Option.some.inj (Tryd.func6.symm.trans hfn)).symm
      exact ⟨by kernel_rfl, fun j t ht => by
        rw [Tryd.params6] at ht
        have hm : t ∈ [27, 3, 9] := by simpa using Array.mem_of_getElem? ht
        have hall : ([27, 3, 9].all fun u => !Tryd.prog.wantsStandIn u) = true := by kernel_rfl
        exact (show Tryd.prog.wantsStandIn t = false by simpa using List.all_eq_true.1 hall t hm)⟩)
    (by kernel_rfl)
#print axioms graphRow_card

end Go.Proofs.YtdcdghofkpbljaaDoor
