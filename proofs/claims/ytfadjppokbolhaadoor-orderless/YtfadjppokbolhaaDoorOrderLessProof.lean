/- OrderLess, whole: without an edge that nobody needs the others stand as before, whatever the graph and the number; no conditions. -/
import Derived.Test.YtfadjppokbolhaaDoorRows
import Derived.Test.YtfadjppokbolhaaDoorCards
import Derived.Test.YtfadjppokbolhaaDoorTie
import Derived.LaidMore
import Derived.Lay
import Derived.SevenTiedAt
import Derived.Stop.Joined
import Derived.ProofKit
import Derived.OpenShut
import Derived.ShutString
import Derived.ChangeOld
import Derived.Below
import Derived.SizedLaws
import Derived.Test.YtfadjppokbolhaaDoorGfOpen
import Derived.Test.YtfadjppokbolhaaDoorGfRowPlain
import Derived.Test.YtfadjppokbolhaaDoorGfStep
import Derived.Test.YtfadjppokbolhaaDoorOrLsPlain
import Derived.Test.YtfadjppokbolhaaDoorOrRNeeds
import Derived.Test.YtfadjppokbolhaaDoorOrAwake
namespace Go.Proofs.YtfadjppokbolhaaDoor
open Go.ChangeShapes Go.WideShapes Go.ChangeAt Go.RowKit

theorem RowG.drop' {α : Type} {f : α → List Value} {sz : Nat} {w : World} {g o : Nat} {xs : List α} (h : RowG f sz w (some ⟨g, o, none⟩) xs) (t : Nat) : RowG f sz w (some ⟨g, o + t * sz, none⟩) (xs.drop t) := by
  rcases h with h | ⟨g', o', e, hg, hc⟩
  · left; rw [h]; simp
  · cases e
    refine Or.inr ⟨g, o + t * sz, rfl, hg, fun j i x v hx hi hv => ?_⟩
    rw [List.getElem?_drop] at hx
    have := hc (t + j) i x v hx hi hv
    rwa [show o + t * sz + (j * sz + i) = o + ((t + j) * sz + i) by rw [Nat.add_mul]; omega]
theorem rnd_le {es : List Ed} {e : Ed} (h8 : Ed8 e) : (rnd es e).length ≤ 24 := by
  have h1 : ∀ L : Ws, (L.flatMap (mkN es)).length ≤ L.length := fun L => by
    induction L with
    | nil => simp
    | cons a r ih =>
      rw [List.flatMap_cons, List.length_append, List.length_cons]
      have : (mkN es a).length ≤ 1 := by unfold mkN; cases es.findIdx? (fun e : Ed => e.1.contains a) <;> simp
      omega
  have h2 := h1 (inL e)
  have h3 : (inL e).length = e.2.1.length + e.2.2.1.length + e.2.2.2.1.length := by unfold inL; simp; omega
  obtain ⟨a1, a2, a3⟩ := h8
  unfold rnd; omega
theorem map_erase {α β : Type} (f : α → β) (xs : List α) (k : Nat) : (xs.eraseIdx k).map f = (xs.map f).eraseIdx k := by
  refine List.ext_getElem? (fun i => ?_)
  rw [List.getElem?_map, get_erase, get_erase, List.getElem?_map]
theorem lsW_len (k : Nat) (r : List Nat) : (lsW k r).length ≤ r.length := by
  unfold lsW; rw [List.length_map]; exact List.length_filter_le _ _
theorem lsW_at {k : Nat} {r : List Nat} {j x : Nat} (h : r[j]? = some x) : lsW k (r.take (j + 1)) = lsW k (r.take j) ++ (if x < k then [x] else if k < x then [x - 1] else []) := by
  rw [List.take_add_one, h]; exact lsW_snoc k (r.take j) x
/-- The order without edge k. -/
theorem less_row {g : Gh} {k : Nat} (h : orE g = 0) (hk : k < g.1.length) (hno : ∀ e ∈ g.1, k ∉ rnd g.1 e) : orE (g.1.eraseIdx k, g.2) = 0 ∧ orL (g.1.eraseIdx k, g.2) = lsW k (orL g) := by
  obtain ⟨hc, r, h1, h2, h3⟩ := orL_facts h
  have ht := ck_tw hc
  have hno2 : ∀ e ∈ g.1, k ∉ ndI g.1 e := fun e he hm => hno e he ((mem_rnd ht).2 hm)
  obtain ⟨a, b⟩ := erase_less hno2 hk h2 h3
  rw [h1]
  exact orL_of (ck_erase (ps := g.2.1) (d := g.2.2) k hc) b a

set_option maxRecDepth 20000 in
set_option maxHeartbeats 16000000 in
theorem orderLess_any (w : World) (g : Gh) (es : List EdA) (eo po dd : Option Addr) (ec pc dc : Nat) (hg0 : IsGr w g es eo po dd ec pc dc) (a : Int) (_ : (Lit.int .i64 a).wf = true) :
    Calls Tryd.prog 5 #[.agg #[.slice eo es.length ec, .slice po g.2.1.length pc, .slice dd g.2.2.length dc], .int .i64 a] w fun e w' => e = .returned (.bool true) ∧ Q w w' := by
  obtain ⟨i0, hi, hz0, hz1, hz2⟩ : ∃ i0, Tryd.prog.info? 38 = some i0 ∧ i0.zero = some (.agg #[.slice none 0 0, .slice none 0 0, .slice none 0 0, .slice none 0 0, .string ByteArray.empty, .bool false, .string ByteArray.empty]) ∧ i0.size = 7 ∧ i0.bytes = 136 := ⟨_, rfl, rfl, rfl, rfl⟩
  obtain ⟨j0, ji, jz0, jz1, jz2⟩ : ∃ i0, Tryd.prog.info? 3 = some i0 ∧ i0.zero = some (.int .i64 0) ∧ i0.size = 1 ∧ i0.bytes = 8 := ⟨_, rfl, rfl, rfl, rfl⟩
  have hpm : pc ≤ maxLen := by have := hg0.pc2; unfold reachBytes at this; unfold maxLen; omega
  have hec1 := hg0.ec1
  have hec2 : ec ≤ 9223372036854775807 := by have h2 := hg0.ec2; unfold reachBytes at h2; omega
  have hle : es.length ≤ 140737488355328 := by rw [hg0.r.len]; exact hg0.r.z.le
  have HS := hide (hg0.r.osays ec pc dc hg0.pc1 hpm)
  have HPC : Hid (g.2.1.length ≤ pc ∧ pc ≤ maxLen) := ⟨hg0.pc1, hpm⟩
  have HG := hide hg0.r
  have HLN := hide hg0.r.len
  have qb := grB_q w es g eo po dd ec pc dc
  have HB1 := hide (grB_blk w es g eo po dd ec pc dc)
  clear hg0 hpm
  go_enter Tryd.func5, Tryd.ntmps5
  go_wp2_with fail
  change Calls _ _ _ (grB w es g eo po dd ec pc dc) _
  generalize grB w es g eo po dd ec pc dc = wb at *
  generalize hX : w.heap.size = X at HB1 ⊢
  clear hX
  refine (oawake_any wb).mono ?_
  rintro e w1 ⟨rfl, q1⟩
  have qw1 := qb.trans q1
  have HX : Hid (∀ w2, Q w1 w2 → w2.cell? ⟨X, 0, none⟩ = some (.slice eo es.length ec) ∧ w2.cell? ⟨X, 1, none⟩ = some (.slice po g.2.1.length pc) ∧ w2.cell? ⟨X, 2, none⟩ = some (.slice dd g.2.2.length dc) ∧ X < w2.heap.size) :=
    fun w2 q => ⟨(((unhide HB1).q (q1.trans q))).cell 0 rfl, (((unhide HB1).q (q1.trans q))).cell 1 rfl, (((unhide HB1).q (q1.trans q))).cell 2 rfl, ((unhide HB1).q (q1.trans q)).hi⟩
  clear HB1 qb q1
  obtain ⟨x0, x1, x2, _⟩ := unhide HX w1 (Q.refl _)
  go_wp2_with fail
  refine (unhide HS _ qw1).mono ?_
  rintro e w2 ⟨ao, cap, rfl, hown, q2⟩
  have qw2 := qw1.trans q2
  have HR := hide (OwnI.row hown)
  obtain ⟨y0, _, _, _⟩ := unhide HX w2 q2
  clear x0 x1 x2 hown
  by_cases h0 : orE g = 0
  case neg =>
    have h1 : (orE g != 0) = true := by simpa using h0
    clear h0
    generalize (orL g).length = n at *
    generalize orE g = ck at *
    go_wp2_with (go_at_call 9; refine (num_any _ _).mono ?_; rintro e w3 ⟨rfl, rfl⟩)
    go_ret
    exact ⟨rfl, qw2⟩
  case pos =>
    obtain ⟨hc0, r0, hr1, hr2, hr3⟩ := orL_facts h0
    have hln : (orL g).length = es.length := by rw [hr1, hr2, unhide HLN]
    have h8 := ck_ed8 hc0
    have h16 : es.length ≤ 16 := by
      have hm : gmB g = true := by
        cases hm : gmB g with
        | true => rfl
        | false => rw [ck_form hm] at hc0; cases hc0
      rw [unhide HLN]; exact (gm_facts hm).1
    rw [h0, hln]
    by_cases hz : es.length = 0
    case pos =>
      have hz1 : ((es.length : Int) == 0) = true := by rw [hz]; rfl
      have hz2 : ((es.length : Int) != (es.length : Int)) = false := by simp
      clear hz hln h8 h16 hr1 hr2 hr3 h0
      generalize es.length = n at *
      go_wp2_with (go_at_call 9; refine (num_any _ _).mono ?_; rintro e w3 ⟨rfl, rfl⟩)
      go_ret
      exact ⟨rfl, qw2⟩
    case neg =>
      have hzb : ((es.length : Int) == 0) = false := beq_eq_false_iff_ne.2 (by omega)
      obtain ⟨t, htk, hmod0⟩ := umodB a es.length (by omega) (by omega)
      have hwk : IntKind.u64.wrap (es.length : Int) = (es.length : Int) := by
        show (es.length : Int) % 18446744073709551616 = _
        omega
      have HND : Hid (∀ (i : Nat) (ed : Ed) (w5 : World), g.1[i]? = some ed → Q w w5 → Calls Tryd.prog 12 #[.agg #[.slice eo es.length ec, .slice po g.2.1.length pc, .slice dd g.2.2.length dc], .int .i64 i] w5 fun e w' => ∃ ao cap, e = .returned (.slice ao (rnd g.1 ed).length cap) ∧ OwnI w' w5.heap.size ao cap (rnd g.1 ed) ∧ Q w5 w') := by
        show ∀ (i : Nat) (ed : Ed) (w5 : World), _
        intro i ed w5 hed q
        rw [← (unhide HG).em, List.getElem?_map] at hed
        obtain ⟨x, hx, rfl⟩ := Option.map_eq_some_iff.1 hed
        exact rNd_any g es eo po dd ec pc dc i x w5 ((unhide HG).q' q) hx (h8 _ (by rw [← (unhide HG).em]; exact List.mem_map_of_mem (List.mem_of_getElem? hx)))
      have HLR := hide hln
      have H8 := hide h8
      have HOR := hide h0
      have HXB : Hid (∀ x ∈ orL g, x < es.length) := by
        show ∀ x ∈ orL g, _
        intro x hx
        rw [hr1] at hx
        have := ((steps_nodup (by simp [fls]) hr3).2 x hx).1
        rw [unhide HLN]; exact this
      clear hln h8 hr1 hr2 hr3 h0 hz hc0
      obtain ⟨r, hrg⟩ : ∃ r, orL g = r := ⟨_, rfl⟩
      have HRG := hide hrg
      rw [hrg] at HLR HR HXB
      clear hrg
      go_upto_region 7 with (go_at_call 9; refine (num_any _ _).mono ?_; rintro e w3 ⟨rfl, rfl⟩)
      have htn : t < es.length := htk
      have q13 : Q w1 w3 := q2
      rw [hmod0]
      clear y0 hmod0 hwk hzb
      go_wp2_with fail
      go_loopw [8] (fun i wr => ∃ m : Nat, m ≤ es.length ∧ i = .int .i64 m ∧ Q w3 wr ∧ Hid (∀ i' ed, i' < m → g.1[i']? = some ed → t ∉ rnd g.1 ed)) (fun i _ => es.length - (intOf i).toNat)
      case atStart => exact ⟨0, Nat.zero_le _, rfl, Q.refl _, fun i' ed h => by omega⟩
      case round =>
        obtain ⟨m, hm, rfl, hq3, HNO⟩ := hrel
        have hq : Q w1 wr := q13.trans hq3
        obtain ⟨x0, x1, x2, _⟩ := unhide HX wr hq
        by_cases hlt : m < es.length
        · obtain ⟨ed, hed⟩ : ∃ ed, g.1[m]? = some ed := ⟨_, List.getElem?_eq_getElem (by have := unhide HLN; omega)⟩
          have HC := hide (unhide HND m ed wr hed (qw1.trans hq))
          have hx24 : (rnd g.1 ed).length ≤ 24 := rnd_le ((unhide H8) ed (List.mem_of_getElem? hed))
          have HED := hide hed
          clear hed
          generalize hxs : rnd g.1 ed = xs at *
          have HXS := hide hxs
          clear hxs
          go_wp2_with fail
          refine (unhide HC).mono ?_
          rintro e w5 ⟨a5, c5, rfl, own5, q5⟩
          have hq5 := hq.trans q5
          have hq35 := hq3.trans q5
          have HR5 := hide (OwnI.row own5)
          clear own5 q5 hq x0 x1 x2 HC
          go_wp2_with fail
          go_loop [10] (fun i => ∃ j : Nat, j ≤ xs.length ∧ i = .int .i64 j ∧ Hid (t ∉ xs.take j)) (fun i => xs.length - (intOf i).toNat)
          case atStart => exact ⟨0, Nat.zero_le _, rfl, by show _ ∉ _; simp⟩
          case round =>
            obtain ⟨j, hj, rfl, HA⟩ := hrel
            by_cases hltj : j < xs.length
            · rcases unhide HR5 with he | ⟨g2, o2, rfl, hg2, hcell2⟩
              · rw [he] at hltj; simp at hltj
              obtain ⟨x, hx⟩ : ∃ x, xs[j]? = some x := ⟨_, List.getElem?_eq_getElem hltj⟩
              have cx : w5.cell? ⟨g2, o2 + j, none⟩ = some (.int .i64 (x : Int)) := by have := hcell2 j 0 x _ hx (by decide) rfl; simpa using this
              have HT : Hid (¬ x = t → t ∉ xs.take (j + 1)) := fun hne hmem => by
                rw [List.take_add_one, hx, List.mem_append] at hmem
                rcases hmem with h | h
                · exact HA.out h
                · exact hne (by have h2 := h; simp at h2; exact h2.symm)
              clear hcell2 hx HA
              by_cases hxt : x = t
              · have e1 : ((x : Int) == (t : Int)) = true := by rw [hxt]; simp
                clear hxt HT
                go_wp2_with fail
                go_ret
                exact ⟨rfl, qw1.trans hq5⟩
              · have e1 : ((x : Int) == (t : Int)) = false := beq_eq_false_iff_ne.2 (by omega)
                have HA2 : Hid (t ∉ xs.take (j + 1)) := unhide HT hxt
                clear hxt HT
                go_wp2_with fail
                go_round
                case rel => exact ⟨j + 1, by omega, by go_num, HA2⟩
                case measure => simp [intOf]; omega
            · have HNO2 : Hid (∀ i' ed, i' < m + 1 → g.1[i']? = some ed → t ∉ rnd g.1 ed) := by
                show ∀ i' ed, _
                intro i' ed' hi' hed'
                rcases Nat.lt_or_ge i' m with h | h
                · exact HNO.out i' ed' h hed'
                · obtain rfl : i' = m := by omega
                  rw [unhide HED] at hed'
                  cases hed'
                  rw [unhide HXS]
                  have := HA.out
                  rwa [List.take_of_length_le (by omega)] at this
              clear HA HNO
              go_wp2_with fail
              go_roundw
              case rel => exact ⟨m + 1, by omega, by go_num, hq35, HNO2⟩
              case measure => simp [intOf]; omega
        · have HNA : Hid (∀ ed ∈ g.1, t ∉ rnd g.1 ed) := by
            show ∀ ed ∈ g.1, _
            intro ed hed
            obtain ⟨i', hi', rfl⟩ := List.getElem_of_mem hed
            exact HNO.out i' _ (by have := unhide HLN; omega) (List.getElem?_eq_getElem hi')
          clear HNO HND
          rcases (unhide HG).e with he | ⟨gg, o, rfl, hgg, hcell⟩
          · rw [he] at htn; simp at htn
          have HRE : Hid (RowG ev 7 w (some ⟨gg, o, none⟩) es) := Or.inr ⟨gg, o, rfl, hgg, hcell⟩
          clear hcell hgg
          rename World => w4
          obtain ⟨x0, x1, x2, hXs⟩ := unhide HX w4 hq
          have qa := ((Q.refl w4).alloc (.cells #[.slice (some ⟨gg, o, none⟩) es.length ec, .slice po g.2.1.length pc, .slice dd g.2.2.length dc] 26)).alloc (.cells #[] 38)
          have HBH := hide ((Blk.new w4 #[.slice (some ⟨gg, o, none⟩) es.length ec, .slice po g.2.1.length pc, .slice dd g.2.2.length dc] 26).q ((Q.refl _).alloc (.cells #[] 38)))
          have HOW : Hid (((w4.alloc (.cells #[.slice (some ⟨gg, o, none⟩) es.length ec, .slice po g.2.1.length pc, .slice dd g.2.2.length dc] 26)).alloc (.cells #[] 38)).ownsRow w4.heap.size 38 7 (.slice (some ⟨w4.heap.size + 1, 0, none⟩) 0 0) 0 []) := by
            have h := own_new0 (w := w4.alloc (.cells #[.slice (some ⟨gg, o, none⟩) es.length ec, .slice po g.2.1.length pc, .slice dd g.2.2.length dc] 26)) (B := w4.heap.size) (e := 38) (size := 7) (by rw [size_alloc]; omega)
            rwa [size_alloc] at h
          have HS1 := hide (SrcRow.row ev_len (by decide) (((unhide HRE).take t).q (qw1.trans (hq.trans qa))))
          rw [List.length_take, show min t es.length = t by omega] at HS1
          have t0 : (0 : Int) ≤ (t : Int) := by omega
          have t1 : (t : Int) ≤ (es.length : Int) := by omega
          have t2 : (t : Int) ≤ (ec : Int) := by omega
          go_wp2_with (at_builtin; refine wpList_append_row rfl _ _ 22 rfl w4.heap.size 38 i0 (.agg #[.slice none 0 0, .slice none 0 0, .slice none 0 0, .slice none 0 0, .string ByteArray.empty, .bool false, .string ByteArray.empty]) 7 136 Tryd.underlying22 hi hz0 hz1 hz2 rfl (by decide) (some ⟨w4.heap.size + 1, 0, none⟩) 0 0 [] rfl (unhide HOW) (some ⟨gg, o, none⟩) t ec (lay ev (es.take t)) rfl (unhide HS1) (one_layE _) (by unfold maxLen; omega) (by omega) qa.size ?_)
          intro ao3 cap3 w5 own3 grow3
          have own3' : w5.ownsRow w4.heap.size 38 7 (.slice ao3 t cap3) t (lay ev (es.take t)) := by simpa using own3
          have q3 : Q w4 w5 := Below.grown qa grow3 qa.size (fun r hr => by have hr' : w4.heap.size + 1 = r := Option.some.inj hr; omega)
          have bH3 : Blk w5 w4.heap.size #[.slice (some ⟨gg, o, none⟩) es.length ec, .slice po g.2.1.length pc, .slice dd g.2.2.length dc] 26 := (unhide HBH).fr (Fr.grown grow3) (fun hx => by have hx' : w4.heap.size + 1 = w4.heap.size := Option.some.inj hx; omega)
          have frz3 := bH3.frz 0
          have cH3 := bH3.cell 0 rfl
          try rw [Nat.zero_add]
          clear own3 grow3 HOW HS1 HBH qa
          have HO4 := hide (own_fr own3' (Fr.set w5 w4.heap.size 0 (.slice ao3 t cap3)) (fun k hk => bH3.row own3' (by decide) k hk))
          have q4 : Q w4 (w5.setCell ⟨w4.heap.size, 0, none⟩ (.slice ao3 t cap3)) := q3.setHi (Nat.le_refl _) 0 _
          have HBH4 := hide (bH3.set 0 (.slice ao3 t cap3))
          have y0 : (w5.setCell ⟨w4.heap.size, 0, none⟩ (.slice ao3 t cap3)).cell? ⟨w4.heap.size, 0, none⟩ = some (.slice ao3 t cap3) := (unhide HBH4).cell 0 rfl
          obtain ⟨z0, z1, z2, _⟩ := unhide HX _ (hq.trans q4)
          clear x0 x1 x2 hXs
          go_wp2_with fail
          generalize w5.setCell ⟨w4.heap.size, 0, none⟩ (.slice ao3 t cap3) = w6 at *
          have qs4 := q4.size
          have bH4 : Hid (Blk w6 w4.heap.size #[.slice ao3 t cap3, .slice po g.2.1.length pc, .slice dd g.2.2.length dc] 26) := unhide HBH4
          have t3 : (t : Int) + 1 ≤ (es.length : Int) := by omega
          have t4 : (t : Int) + 1 ≤ (ec : Int) := by omega
          have t5 : (0 : Int) ≤ (t : Int) + 1 := by omega
          have t6 : ((t : Int) + 1).toNat = t + 1 := by omega
          have t7 : IntKind.i64.wrap ((t : Int) + 1) = (t : Int) + 1 := by
            rw [IntKind.wrap_i64]; omega
          have HQ := hide hq
          have HR4 := hide ((unhide HR).q hq3)
          clear own3' bH3 q3 HBH4 frz3 cH3 hq hq3
          by_cases hcap : ec = t + 1
          · subst hcap
            have HS2 : Hid (SrcRow w6.drew 7 (some ⟨gg, o, none⟩) 0 []) := ⟨rfl, Or.inl ⟨rfl, rfl⟩⟩
            go_region_law (refine step_row rfl (.tmp 86) (.tmp 91) 22 rfl w4.heap.size 38 i0 _ 7 136 Tryd.underlying22 hi hz0 hz1 hz2 rfl (by decide) ao3 t cap3 (lay ev (es.take t)) (by rfl) (own_q (unhide HO4) ((Q.refl w6).drew)) (some ⟨gg, o, none⟩) 0 0 [] (by rfl) (unhide HS2) (fun u hu => by cases hu) (by unfold maxLen; omega) (by omega) qs4 ?_; intro ao5 cap5 w7 own5 grow5; have bH5 := hide ((unhide bH4).grown ((Q.refl w6).drew) grow5 (own_new_ne (unhide HO4) (unhide bH4))); have frz5 := (unhide bH5).frz 0; have cH5 : w7.cell? ⟨w4.heap.size, 0, none⟩ = some (.slice ao3 t cap3) := (unhide bH5).cell 0 rfl)
            all_goals (
              have hkk : True := trivial
              have HLE : Hid ((es.eraseIdx t).length = t) := by show _ = _; rw [List.length_eraseIdx, if_pos htn]; omega
              have own5' : w7.ownsRow w4.heap.size 38 7 (.slice ao5 t cap5) t (lay ev (es.eraseIdx t)) := by
                rw [List.eraseIdx_eq_take_drop_succ, List.drop_eq_nil_of_le (by omega), List.append_nil]
                simpa using own5
              try rw [Nat.add_zero]
              have q5 : Q w4 w7 := Below.grown q4.drew grow5 qs4 (fun r hr => ((unhide HO4).lt r hr).1)
              clear own5 grow5 HO4 HS2 bH4 y0 z0 z1 z2 qs4 q4 hkk
              have HBH6 := hide ((unhide bH5).set 0 (.slice ao5 t cap5))
              have HO6 := hide (own_fr own5' (Fr.set w7 w4.heap.size 0 (.slice ao5 t cap5)) (fun k hk => (unhide bH5).row own5' (by decide) k hk))
              have q6 : Q w4 (w7.setCell ⟨w4.heap.size, 0, none⟩ (.slice ao5 t cap5)) := q5.setHi (Nat.le_refl _) 0 _
              clear own5' bH5 q5
              have b0 := (unhide HBH6).cell 0 rfl
              have b1 := (unhide HBH6).cell 1 rfl
              have b2 := (unhide HBH6).cell 2 rfl
              go_wp2_with fail
              generalize w7.setCell ⟨w4.heap.size, 0, none⟩ (.slice ao5 t cap5) = w8 at *
              have HSL : Hid (OSays w8 (.agg #[.slice ao5 t cap5, .slice po g.2.1.length pc, .slice dd g.2.2.length dc]) (g.1.eraseIdx t, g.2)) := by
                have hr : GfR w8 (g.1.eraseIdx t, g.2) (es.eraseIdx t) ao5 po dd := by
                  have h6 := (unhide HG).q' (qw1.trans ((unhide HQ).trans q6))
                  refine ⟨RowG.own ev_len (by decide) (unhide HO6), by rw [map_erase, h6.em], h6.p, h6.d, fun x hx => h6.q x ((List.eraseIdx_sublist _ _).mem hx), ⟨fun x hx => h6.z.e x ((List.eraseIdx_sublist _ _).mem hx), ?_, h6.z.lp, h6.z.p, h6.z.d⟩⟩
                  exact Nat.le_trans (List.eraseIdx_sublist _ _).length_le h6.z.le
                have h := hr.osays cap5 pc dc (unhide HPC).1 (unhide HPC).2
                rw [HLE.out] at h
                exact h
              have hnew := less_row (k := t) (unhide HOR) (by rw [← unhide HLN]; exact htn) (unhide HNA)
              rw [unhide HRG] at hnew
              have H9 := hide ((unhide HSL).at hnew.1 hnew.2 w8 (Q.refl _))
              have HR8 := hide ((unhide HR4).q q6)
              clear hnew HSL HBH6 HO6 b0 b1 b2 frz5 cH5
              refine (unhide H9).mono ?_
              rintro e w9 ⟨ao9, cap9, rfl, own9, q9⟩
              have HR9 := hide ((unhide HR8).q q9)
              have HLS := hide (OwnI.row own9)
              have hll : (lsW t r).length ≤ 4096 := by have h1 := lsW_len t r; have h2 := unhide HLR; omega
              have HQ9 : Hid (Q w w9) := qw1.trans ((unhide HQ).trans (q6.trans q9))
              clear H9 HR8 own9 q9 q6 HQ
              go_wp2_with fail
              go_loopw [14, 15] (fun s i wr => ∃ (j : Nat) (L : List Nat) (bo : Option Addr) (bc : Nat), j ≤ es.length ∧ i = .int .i64 j ∧ s = .slice bo L.length bc ∧ L.length ≤ j ∧ OwnI wr w9.heap.size bo bc L ∧ Q w9 wr ∧ Hid (L = lsW t (r.take j))) (fun _ i _ => es.length - (intOf i).toNat)
              case atStart => exact ⟨0, [], none, 0, Nat.zero_le _, rfl, rfl, Nat.le_refl _, World.ownsRow_nil _ _ _ _, Q.refl _, rfl⟩
              case round =>
                obtain ⟨j, L, bo, bc, hj, rfl, rfl, hLj, hoL, hq9, HL⟩ := hrel
                by_cases hltj : j < es.length
                · obtain ⟨x, hx⟩ : ∃ x, r[j]? = some x := ⟨_, List.getElem?_eq_getElem (by rw [unhide HLR]; exact hltj)⟩
                  rcases (unhide HR9).q hq9 with he | ⟨g2, o2, rfl, hg2, hcell2⟩
                  · rw [he] at hx; simp at hx
                  have cx : wr.cell? ⟨g2, o2 + j, none⟩ = some (.int .i64 (x : Int)) := by have := hcell2 j 0 x _ hx (by decide) rfl; simpa using this
                  have HSN := hide (lsW_at (k := t) hx)
                  have hjI : (j : Int) < (es.length : Int) := by omega
                  have HOL := hide hoL
                  have HXJ := hide hx
                  have hbs := hq9.size
                  clear hcell2 hx hoL
                  rcases Nat.lt_trichotomy x t with hc | hc | hc
                  · have p1 : decide ((x : Int) < (t : Int)) = true := decide_eq_true (by omega)
                    have p2 : decide ((t : Int) < (x : Int)) = false := decide_eq_false (by omega)
                    have HL2 : Hid (L ++ [x] = lsW t (r.take (j + 1))) := by
                      show _ = _
                      rw [unhide HSN, if_pos hc, ← HL.out]
                    have hcI : (x : Int) < (t : Int) := by omega
                    clear HSN HL hc
                    go_wp2_with (at_builtin; refine wpList_append_lies _ rfl _ _ 28 rfl w9.heap.size 3 j0 (.int .i64 0) 1 8 Tryd.underlying28 ji jz0 jz1 jz2 rfl (by decide) _ _ _ rfl ((unhide HOL).alloc _) ⟨wr.heap.size, 0, none⟩ 1 1 [.int .i64 x] rfl rfl (news_at (by simp) #[.int .i64 x] _) (one_int _ _) (by decide) (by unfold maxLen; omega) (by omega) (le_alloc hbs _) (wr.heap.size + 1) (by simp) ?_)
                    intro g7 cp7 w10 own7 grow7 or7 lt7
                    have q7 : Q w9 w10 := Below.grown (hq9.alloc _) grow7 (le_alloc hbs _) (fun r hr => ((unhide HOL).lt r hr).1)
                    have ow7 : OwnI w10 w9.heap.size (some ⟨g7, 0, none⟩) cp7 (L ++ [x]) := OwnI.snoc own7
                    have cx2 : w10.cell? ⟨g2, o2 + j, none⟩ = some (.int .i64 (x : Int)) := by
                      rcases (unhide HR9).q q7 with he | ⟨g2', o2', e2, _, hc2⟩
                      · have h3 := unhide HXJ; rw [he] at h3; simp at h3
                      · cases e2
                        have := hc2 j 0 x _ (unhide HXJ) (by decide) rfl
                        simpa using this
                    clear own7 grow7 or7 lt7 HOL cx
                    go_wp2
                    go_roundw
                    case rel =>
                      refine ⟨j + 1, L ++ [x], some ⟨g7, 0, none⟩, cp7, by omega, by go_num, ?_, ?_, ow7, q7, HL2⟩
                      · simp
                      · simp; omega
                    case measure => simp [intOf]; omega
                  · have p1 : decide ((x : Int) < (t : Int)) = false := decide_eq_false (by omega)
                    have p2 : decide ((t : Int) < (x : Int)) = false := decide_eq_false (by omega)
                    have HL2 : Hid (L = lsW t (r.take (j + 1))) := by
                      show _ = _
                      rw [unhide HSN, if_neg (by omega), if_neg (by omega), List.append_nil]; exact HL.out
                    have hcI : ¬ (x : Int) < (t : Int) := by omega
                    have hcJ : ¬ (t : Int) < (x : Int) := by omega
                    clear HSN HL hc
                    go_wp2_with fail
                    go_roundw
                    case rel => exact ⟨j + 1, L, bo, bc, by omega, by go_num, rfl, by omega, unhide HOL, hq9, HL2⟩
                    case measure => simp [intOf]; omega
                  · have p1 : decide ((x : Int) < (t : Int)) = false := decide_eq_false (by omega)
                    have p2 : decide ((t : Int) < (x : Int)) = true := decide_eq_true (by omega)
                    have HL2 : Hid (L ++ [x - 1] = lsW t (r.take (j + 1))) := by
                      show _ = _
                      rw [unhide HSN, if_neg (by omega), if_pos hc, ← HL.out]
                    have hx1 : (x : Int) - 1 = ((x - 1 : Nat) : Int) := by omega
                    have hcI : ¬ (x : Int) < (t : Int) := by omega
                    have hcJ : (t : Int) < (x : Int) := by omega
                    have hxb : x < es.length := unhide HXB x (List.mem_of_getElem? (unhide HXJ))
                    exfalso; omega
                · have HSM := hide (sameI_any (lsW t r) L ao9 bo cap9 bc wr ((unhide HLS).q hq9) (OwnI.row hoL) hll)
                  have hLe : lsW t r = L := by rw [HL.out, List.take_of_length_le (by rw [unhide HLR]; omega)]
                  rw [decide_eq_true hLe] at HSM
                  clear hLe hoL HL
                  go_wp2_with (first | (go_at_call 9; refine (num_any _ _).mono ?_; rintro e w10 ⟨rfl, rfl⟩) | (go_at_call 13; refine (unhide HSM).mono ?_; rintro e w11 ⟨rfl, q11⟩))
                  go_ret
                  exact ⟨rfl, ((unhide HQ9).trans hq9).trans q11⟩)
          · have HS2 := hide (SrcRow.row ev_len (by decide) (((unhide HRE).drop' (t + 1)).q (qw1.trans ((unhide HQ).trans q4.drew))))
            rw [List.length_drop] at HS2
            go_region_law (refine step_row rfl (.tmp 86) (.tmp 91) 22 rfl w4.heap.size 38 i0 _ 7 136 Tryd.underlying22 hi hz0 hz1 hz2 rfl (by decide) ao3 t cap3 (lay ev (es.take t)) (by rfl) (own_q (unhide HO4) ((Q.refl w6).drew)) (some ⟨gg, o + (t + 1) * 7, none⟩) (es.length - (t + 1)) (ec - (t + 1)) (lay ev (es.drop (t + 1))) (by rfl) (unhide HS2) (one_layE _) (by unfold maxLen; omega) (by omega) qs4 ?_; intro ao5 cap5 w7 own5 grow5; have bH5 := hide ((unhide bH4).grown ((Q.refl w6).drew) grow5 (own_new_ne (unhide HO4) (unhide bH4))); have frz5 := (unhide bH5).frz 0; have cH5 : w7.cell? ⟨w4.heap.size, 0, none⟩ = some (.slice ao3 t cap3) := (unhide bH5).cell 0 rfl)
            all_goals (
              have hkk : t + (es.length - (t + 1)) = es.length - 1 := by omega
              have HLE : Hid ((es.eraseIdx t).length = es.length - 1) := by show _ = _; rw [List.length_eraseIdx, if_pos htn]
              have own5' : w7.ownsRow w4.heap.size 38 7 (.slice ao5 (es.length - 1) cap5) (es.length - 1) (lay ev (es.eraseIdx t)) := by
                rw [List.eraseIdx_eq_take_drop_succ, lay_app]
                rw [hkk] at own5
                exact own5
              try rw [hkk]
              have q5 : Q w4 w7 := Below.grown q4.drew grow5 qs4 (fun r hr => ((unhide HO4).lt r hr).1)
              clear own5 grow5 HO4 HS2 bH4 y0 z0 z1 z2 qs4 q4 hkk
              have HBH6 := hide ((unhide bH5).set 0 (.slice ao5 (es.length - 1) cap5))
              have HO6 := hide (own_fr own5' (Fr.set w7 w4.heap.size 0 (.slice ao5 (es.length - 1) cap5)) (fun k hk => (unhide bH5).row own5' (by decide) k hk))
              have q6 : Q w4 (w7.setCell ⟨w4.heap.size, 0, none⟩ (.slice ao5 (es.length - 1) cap5)) := q5.setHi (Nat.le_refl _) 0 _
              clear own5' bH5 q5
              have b0 := (unhide HBH6).cell 0 rfl
              have b1 := (unhide HBH6).cell 1 rfl
              have b2 := (unhide HBH6).cell 2 rfl
              go_wp2_with fail
              generalize w7.setCell ⟨w4.heap.size, 0, none⟩ (.slice ao5 (es.length - 1) cap5) = w8 at *
              have HSL : Hid (OSays w8 (.agg #[.slice ao5 (es.length - 1) cap5, .slice po g.2.1.length pc, .slice dd g.2.2.length dc]) (g.1.eraseIdx t, g.2)) := by
                have hr : GfR w8 (g.1.eraseIdx t, g.2) (es.eraseIdx t) ao5 po dd := by
                  have h6 := (unhide HG).q' (qw1.trans ((unhide HQ).trans q6))
                  refine ⟨RowG.own ev_len (by decide) (unhide HO6), by rw [map_erase, h6.em], h6.p, h6.d, fun x hx => h6.q x ((List.eraseIdx_sublist _ _).mem hx), ⟨fun x hx => h6.z.e x ((List.eraseIdx_sublist _ _).mem hx), ?_, h6.z.lp, h6.z.p, h6.z.d⟩⟩
                  exact Nat.le_trans (List.eraseIdx_sublist _ _).length_le h6.z.le
                have h := hr.osays cap5 pc dc (unhide HPC).1 (unhide HPC).2
                rw [HLE.out] at h
                exact h
              have hnew := less_row (k := t) (unhide HOR) (by rw [← unhide HLN]; exact htn) (unhide HNA)
              rw [unhide HRG] at hnew
              have H9 := hide ((unhide HSL).at hnew.1 hnew.2 w8 (Q.refl _))
              have HR8 := hide ((unhide HR4).q q6)
              clear hnew HSL HBH6 HO6 b0 b1 b2 frz5 cH5
              refine (unhide H9).mono ?_
              rintro e w9 ⟨ao9, cap9, rfl, own9, q9⟩
              have HR9 := hide ((unhide HR8).q q9)
              have HLS := hide (OwnI.row own9)
              have hll : (lsW t r).length ≤ 4096 := by have h1 := lsW_len t r; have h2 := unhide HLR; omega
              have HQ9 : Hid (Q w w9) := qw1.trans ((unhide HQ).trans (q6.trans q9))
              clear H9 HR8 own9 q9 q6 HQ
              go_wp2_with fail
              go_loopw [14, 15] (fun s i wr => ∃ (j : Nat) (L : List Nat) (bo : Option Addr) (bc : Nat), j ≤ es.length ∧ i = .int .i64 j ∧ s = .slice bo L.length bc ∧ L.length ≤ j ∧ OwnI wr w9.heap.size bo bc L ∧ Q w9 wr ∧ Hid (L = lsW t (r.take j))) (fun _ i _ => es.length - (intOf i).toNat)
              case atStart => exact ⟨0, [], none, 0, Nat.zero_le _, rfl, rfl, Nat.le_refl _, World.ownsRow_nil _ _ _ _, Q.refl _, rfl⟩
              case round =>
                obtain ⟨j, L, bo, bc, hj, rfl, rfl, hLj, hoL, hq9, HL⟩ := hrel
                by_cases hltj : j < es.length
                · obtain ⟨x, hx⟩ : ∃ x, r[j]? = some x := ⟨_, List.getElem?_eq_getElem (by rw [unhide HLR]; exact hltj)⟩
                  rcases (unhide HR9).q hq9 with he | ⟨g2, o2, rfl, hg2, hcell2⟩
                  · rw [he] at hx; simp at hx
                  have cx : wr.cell? ⟨g2, o2 + j, none⟩ = some (.int .i64 (x : Int)) := by have := hcell2 j 0 x _ hx (by decide) rfl; simpa using this
                  have HSN := hide (lsW_at (k := t) hx)
                  have hjI : (j : Int) < (es.length : Int) := by omega
                  have HOL := hide hoL
                  have HXJ := hide hx
                  have hbs := hq9.size
                  clear hcell2 hx hoL
                  rcases Nat.lt_trichotomy x t with hc | hc | hc
                  · have p1 : decide ((x : Int) < (t : Int)) = true := decide_eq_true (by omega)
                    have p2 : decide ((t : Int) < (x : Int)) = false := decide_eq_false (by omega)
                    have HL2 : Hid (L ++ [x] = lsW t (r.take (j + 1))) := by
                      show _ = _
                      rw [unhide HSN, if_pos hc, ← HL.out]
                    have hcI : (x : Int) < (t : Int) := by omega
                    clear HSN HL hc
                    go_wp2_with (at_builtin; refine wpList_append_lies _ rfl _ _ 28 rfl w9.heap.size 3 j0 (.int .i64 0) 1 8 Tryd.underlying28 ji jz0 jz1 jz2 rfl (by decide) _ _ _ rfl ((unhide HOL).alloc _) ⟨wr.heap.size, 0, none⟩ 1 1 [.int .i64 x] rfl rfl (news_at (by simp) #[.int .i64 x] _) (one_int _ _) (by decide) (by unfold maxLen; omega) (by omega) (le_alloc hbs _) (wr.heap.size + 1) (by simp) ?_)
                    intro g7 cp7 w10 own7 grow7 or7 lt7
                    have q7 : Q w9 w10 := Below.grown (hq9.alloc _) grow7 (le_alloc hbs _) (fun r hr => ((unhide HOL).lt r hr).1)
                    have ow7 : OwnI w10 w9.heap.size (some ⟨g7, 0, none⟩) cp7 (L ++ [x]) := OwnI.snoc own7
                    have cx2 : w10.cell? ⟨g2, o2 + j, none⟩ = some (.int .i64 (x : Int)) := by
                      rcases (unhide HR9).q q7 with he | ⟨g2', o2', e2, _, hc2⟩
                      · have h3 := unhide HXJ; rw [he] at h3; simp at h3
                      · cases e2
                        have := hc2 j 0 x _ (unhide HXJ) (by decide) rfl
                        simpa using this
                    clear own7 grow7 or7 lt7 HOL cx
                    go_wp2
                    go_roundw
                    case rel =>
                      refine ⟨j + 1, L ++ [x], some ⟨g7, 0, none⟩, cp7, by omega, by go_num, ?_, ?_, ow7, q7, HL2⟩
                      · simp
                      · simp; omega
                    case measure => simp [intOf]; omega
                  · have p1 : decide ((x : Int) < (t : Int)) = false := decide_eq_false (by omega)
                    have p2 : decide ((t : Int) < (x : Int)) = false := decide_eq_false (by omega)
                    have HL2 : Hid (L = lsW t (r.take (j + 1))) := by
                      show _ = _
                      rw [unhide HSN, if_neg (by omega), if_neg (by omega), List.append_nil]; exact HL.out
                    have hcI : ¬ (x : Int) < (t : Int) := by omega
                    have hcJ : ¬ (t : Int) < (x : Int) := by omega
                    clear HSN HL hc
                    go_wp2_with fail
                    go_roundw
                    case rel => exact ⟨j + 1, L, bo, bc, by omega, by go_num, rfl, by omega, unhide HOL, hq9, HL2⟩
                    case measure => simp [intOf]; omega
                  · have p1 : decide ((x : Int) < (t : Int)) = false := decide_eq_false (by omega)
                    have p2 : decide ((t : Int) < (x : Int)) = true := decide_eq_true (by omega)
                    have HL2 : Hid (L ++ [x - 1] = lsW t (r.take (j + 1))) := by
                      show _ = _
                      rw [unhide HSN, if_neg (by omega), if_pos hc, ← HL.out]
                    have hx1 : (x : Int) - 1 = ((x - 1 : Nat) : Int) := by omega
                    have hcI : ¬ (x : Int) < (t : Int) := by omega
                    have hcJ : (t : Int) < (x : Int) := by omega
                    have hxb : x < es.length := unhide HXB x (List.mem_of_getElem? (unhide HXJ))
                    generalize x - 1 = y at *
                    clear HSN HL hc
                    go_wp2_with (at_builtin; refine wpList_append_lies _ rfl _ _ 28 rfl w9.heap.size 3 j0 (.int .i64 0) 1 8 Tryd.underlying28 ji jz0 jz1 jz2 rfl (by decide) _ _ _ rfl ((unhide HOL).alloc _) ⟨wr.heap.size, 0, none⟩ 1 1 [.int .i64 y] rfl rfl (news_at (by simp) #[.int .i64 y] _) (one_int _ _) (by decide) (by unfold maxLen; omega) (by omega) (le_alloc hbs _) (wr.heap.size + 1) (by simp) ?_)
                    intro g7 cp7 w10 own7 grow7 or7 lt7
                    have q7 : Q w9 w10 := Below.grown (hq9.alloc _) grow7 (le_alloc hbs _) (fun r hr => ((unhide HOL).lt r hr).1)
                    have ow7 : OwnI w10 w9.heap.size (some ⟨g7, 0, none⟩) cp7 (L ++ [y]) := OwnI.snoc own7
                    clear own7 grow7 or7 lt7 HOL cx
                    go_wp2
                    go_roundw
                    case rel =>
                      refine ⟨j + 1, L ++ [y], some ⟨g7, 0, none⟩, cp7, by omega, by go_num, ?_, ?_, ow7, q7, HL2⟩
                      · simp
                      · simp; omega
                    case measure => simp [intOf]; omega
                · have HSM := hide (sameI_any (lsW t r) L ao9 bo cap9 bc wr ((unhide HLS).q hq9) (OwnI.row hoL) hll)
                  have hLe : lsW t r = L := by rw [HL.out, List.take_of_length_le (by rw [unhide HLR]; omega)]
                  rw [decide_eq_true hLe] at HSM
                  clear hLe hoL HL
                  go_wp2_with (first | (go_at_call 9; refine (num_any _ _).mono ?_; rintro e w10 ⟨rfl, rfl⟩) | (go_at_call 13; refine (unhide HSM).mono ?_; rintro e w11 ⟨rfl, q11⟩))
                  go_ret
                  exact ⟨rfl, ((unhide HQ9).trans hq9).trans q11⟩)

theorem Tryd.laidOut : laidOutB Tryd.prog = true := by kernel_rfl
set_option maxRecDepth 100000 in
theorem orderLess_lifted (os : Os) (started : os.Started) (H : Type) (enc : TypeId × Value → H) :
    ReturnsInHanded {} Tryd.checked os 5 .any (fun w args => (Rows.orderLessSpec.pre enc Tryd.prog Tryd.f5 [] false w args ∧ laidMetH Tryd.prog Rows.orderLessRow.laid w) ∧ sizedMet enc Tryd.prog Tryd.f5 (OpenSpec.ofChange Rows.orderLessSpec) false w args) (Rows.orderLessSpec.post enc Tryd.prog Tryd.f5 false true false false) := by
  refine returnsInHanded_of_change_and (C := Tryd.checked) (X := fun w _ => laidMetH Tryd.prog Rows.orderLessRow.laid w) (fun _ _ _ hh h => h.of_heap hh) Tryd.own started (by kernel_rfl) Tryd.func5
    (ChangeSpec.witness_shaped (enc := enc) (C := Tryd.checked) (os := os) (X := fun w _ => laidMetH Tryd.prog Rows.orderLessRow.laid w) false (World.laidAll Tryd.prog os Rows.orderLessRow.laid) #[.agg #[.slice none 0 0, .slice none 0 0, .slice none 0 0], .int .i64 0] 8 (World.laidAll_os _ _ _)
      (World.shaped_of_ZipB (by kernel_rfl) (by kernel_rfl)) (by kernel_rfl) (by kernel_rfl) (by kernel_rfl)
      (by rw [MakeChecks.laidMetH_plain _ _ _ (by kernel_rfl)]; exact laidMet_laidAll _ (by kernel_rfl) (by kernel_rfl))) ?_
  intro W base args ds gs before hval0 hW _ hsz0 hL _
  have hval : ∀ (j : Nat) t v, Tryd.f5.params[j]? = some t → args[j]? = some v → Value.okWide Tryd.prog W .any base t v := hval0
  have hW' := hW
  obtain ⟨p, q, hA0, hV, rfl, hfz, hnd⟩ := hW
  have hA : DataW.TrodAll enc Tryd.prog W 0 (fun _ => true) true Tryd.f5.params.toList args.toList ds p := hA0
  rw [Tryd.params5] at hA hval
  rw [Tryd.params5] at hsz0
  obtain ⟨v0, vs0, d0, ds0, p0, q0, hargs, rfl, rfl, h0, r0⟩ := trodAll_cons hA
  obtain ⟨v1, vs1, d1, ds1, p1, q1, rfl, rfl, rfl, h1, r1⟩ := trodAll_cons r0
  obtain ⟨rfl, rfl, rfl⟩ := trodAll_nil r1
  obtain rfl : args = #[v0, v1] := by cases args; simp_all
  obtain ⟨rfl, rfl⟩ := trodVars_none hV
  have k0 := h0
  have lt0 : ∀ x ∈ p0, x.block < W.heap.size := by obtain ⟨m, hm⟩ := k0; exact DataW.trod_lt m _ _ _ hm
  obtain ⟨g0, es0, eo0, po0, dd0, ec0, pc0, dc0, rfl, w0⟩ := Tryd.is_graph (hval 0 26 v0 rfl rfl) h0 (fun m hm => by simpa using List.all_eq_true.1 hsz0 m (DataW.weights_mem_each (j := 0) (t := 26) rfl rfl m hm))
  obtain ⟨a1, rfl, rfl, rfl, w1⟩ := open_int Tryd.underlying3 (hval 1 3 v1 rfl rfl) h1
  clear hA0 hval0
  refine (orderLess_any W g0 es0 eo0 po0 dd0 ec0 pc0 dc0 w0 a1 w1).mono fun e W' ⟨he, bel⟩ => ?_
  subst he
  exact ⟨_, rfl, _, _, _, [], _, [], hW', trodAll_mk1 (shut_bool Tryd.underlying4 _), (trodAll_cons_mk (Below.trod Tryd.laidOut (by kernel_rfl) (of_decide_eq_true (by kernel_rfl)) k0 bel lt0) (trodAll_cons_mk (shut_int Tryd.underlying3 w1) trodAll_mk0)), rfl, bel.frame _, fun h => by cases h⟩

theorem orderLess_holds : Rows.OrderLessSaid :=
  OpenClaim.holds_of_wide 5 Tryd.f5 rfl rfl rfl rfl rfl rfl rfl ⟨rfl, rfl, rfl, rfl, rfl⟩ rfl rfl rfl rfl rfl (by kernel_rfl) Tryd.func5 (by kernel_rfl)
    (of_decide_eq_true (by kernel_rfl)) (by unfold Func.isWrapper; first | (rw [if_pos (by decide +kernel)]; kernel_rfl) | (rw [if_neg (by decide +kernel)]; exact ⟨rfl, rfl⟩))
    (fun os started H enc _ => orderLess_lifted os started H enc)
theorem orderLess_card : Rows.OrderLessCardSaid :=
  Claim7.holds_tied_plain_at .later [] [.data, .pinned] true (true, "543e068f81d2f4f0877a308eff9da4ecc968e2cc2313aa9e16d82eb0a95efa9c") false orderLess_holds (fun _ h => by cases h) (by kernel_rfl) (fun _ h => by cases h) orderLess_row_tie rfl ⟨rfl, rfl⟩ (by kernel_rfl) rfl
    (fun f fn hf hfn => by
      obtain rfl : f = 5 := Option.some.inj ((show Tryd.prog.funcNamed Rows.orderLessRow.func = some 5 by kernel_rfl).symm.trans hf) |>.symm
      obtain rfl : fn = Tryd.f5 := (Option.some.inj (Tryd.func5.symm.trans hfn)).symm
      exact ⟨by kernel_rfl, fun j t ht => by
        rw [Tryd.params5] at ht
        have hm : t ∈ [26, 3] := by simpa using Array.mem_of_getElem? ht
        have hall : ([26, 3].all fun u => !Tryd.prog.wantsStandIn u) = true := by kernel_rfl
        exact (show Tryd.prog.wantsStandIn t = false by simpa using List.all_eq_true.1 hall t hm)⟩)
    (by kernel_rfl)
#print axioms orderLess_card

end Go.Proofs.YtfadjppokbolhaaDoor
