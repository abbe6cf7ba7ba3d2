/- What package manifest's Parse answers, for every text; the conditions: the table of blanks lies in memory. -/
import Derived.Test.YtpddckgkaopnlaaGreatDoorMfFlat
import Derived.Test.YtpddckgkaopnlaaGreatDoorPk1
import Derived.Test.YtpddckgkaopnlaaGreatDoorBnLnCut
namespace Go.Proofs.YtpddckgkaopnlaaGreatDoor
open Go.RowKit

abbrev RowLm (w : World) (ao : Option Addr) (ps : List Ln) : Prop := RowG lv 2 w ao ps
theorem ownL_row {w : World} {B : Nat} {ao : Option Addr} {cap : Nat} {ps : List Ln} (h : OwnL w B ao cap ps) : RowLm w ao ps := RowG.own lv_len (by decide) h

/-- A graph in memory of its own. -/
structure GrM (B : Nat) (w : World) (g : Gr) (es : List EdA) (eo po dd : Option Addr) (ec pc dc : Nat) : Prop where
  e : w.ownsRow B 65 7 (.slice eo es.length ec) es.length (lay ev es)
  em : es.map Prod.fst = g.1
  p : OwnPl w B po pc g.2.1
  d : OwnT w B dd dc g.2.2
  q : ∀ x ∈ es, EdR w B x
  nd : ((Value.slice dd g.2.2.length dc).ownBlock.toList ++ es.flatMap edB).Nodup

/-- What Parse answers. -/
def PSays (l : Tx) (w : World) (e : Ending) (w' : World) : Prop :=
  ∃ (es : List EdA) (eo po dd : Option Addr) (ec pc dc : Nat), e = .returned (.tuple #[.agg #[.slice eo es.length ec, .slice po (mfG l).2.1.length pc, .slice dd (mfG l).2.2.length dc], .int .i64 (mfE l)]) ∧ GrM w.heap.size w' (mfG l) es eo po dd ec pc dc ∧ Q w w'

theorem PSays.err {l : Tx} {w w' : World} {n : Int} (h : mfG l = gr0 ∧ mfE l = n) (q : Q w w') : PSays l w (.returned (.tuple #[.agg #[.slice none 0 0, .slice none 0 0, .slice none 0 0], .int .i64 n])) w' := by
  refine ⟨[], none, none, none, 0, 0, 0, by rw [h.1, h.2]; rfl, ?_, q⟩
  rw [h.1]
  exact ⟨World.ownsRow_nil _ _ _ _, rfl, World.ownsRow_nil _ _ _ _, World.ownsRow_nil _ _ _ _, (fun x hx => by cases hx), List.nodup_nil⟩

def gS (w : World) (G : Nat) (v0 v1 v2 : Value) : World := ((w.setCell ⟨G, 0, none⟩ v0).setCell ⟨G, 1, none⟩ v1).setCell ⟨G, 2, none⟩ v2
theorem gS_facts {w : World} {G : Nat} {a b c : Value} (h : Blk w G #[a, b, c] 26) (v0 v1 v2 : Value) : (gS w G v0 v1 v2).cell? ⟨G, 0, none⟩ = some v0 ∧ (gS w G v0 v1 v2).cell? ⟨G, 1, none⟩ = some v1 ∧ (gS w G v0 v1 v2).cell? ⟨G, 2, none⟩ = some v2 ∧ Fr (fun k => k = G) w (gS w G v0 v1 v2) := by
  have hb : Blk (gS w G v0 v1 v2) G #[v0, v1, v2] 26 := ((h.set 0 v0).set 1 v1).set 2 v2
  exact ⟨hb.cell 0 rfl, hb.cell 1 rfl, hb.cell 2 rfl, ((Fr.set w G 0 v0).trans (Fr.set _ G 1 v1)).trans (Fr.set _ G 2 v2)⟩

theorem zero_ms {w : World} : MS w.heap.size (w.alloc (.cells #[.slice none 0 0, .slice none 0 0, .slice none 0 0, .slice none 0 0, .slice none 0 0, aT, aV] 49)) w.heap.size sm0 := by
  refine ⟨⟨by decide, by decide, by decide, by decide, rfl, (fun r hr => by cases hr), trivial⟩, ⟨[], none, 0, none, 0, none, 0, none, 0, none, 0⟩, aT, aV, ⟨Blk.new w _ _, ?_, Nat.le_refl _⟩, rfl, rfl⟩
  exact ⟨World.ownsRow_nil _ _ _ _, rfl, World.ownsRow_nil _ _ _ _, World.ownsRow_nil _ _ _ _, World.ownsRow_nil _ _ _ _, World.ownsRow_nil _ _ _ _, (fun x hx => by cases hx), List.nodup_nil⟩

theorem line_any (B R : Nat) (s : Sm) (x : Ln) (w : World) (h : MS B w R s) (hB : B ≤ w.heap.size) (htab : TabB B w) (hx : x.2.length ≤ 2049) (hp : plainL x.2 = true) :
    Calls Tryz.prog 12 #[.pointer (some ⟨R, 0, none⟩), .agg #[.bool x.1, .string ⟨x.2.toArray⟩]] w (LSays B R (liL s x) w) := by
  obtain ⟨d, t⟩ := x
  have hz : (⟨t.toArray⟩ : ByteArray).size ≤ 2049 := by rw [← bl_size]; exact hx
  cases d with
  | true => exact deep_any B R s ⟨t.toArray⟩ w h hB (by omega)
  | false => exact flat_any B R s ⟨t.toArray⟩ w h hB htab (by omega) hp

theorem liL_no {s : Sm} {x : Ln} {n : Int} (h : liL s x = .error n) : n = 801 ∨ n = 800 := by
  unfold liL at h
  split at h
  · unfold dpL at h
    split at h
    · cases h; exact Or.inr rfl
    · unfold tkL at h
      split at h
      · cases h; exact Or.inr rfl
      · split at h
        · cases h; exact Or.inr rfl
        · cases h
      · split at h
        · cases h
        · cases h; exact Or.inr rfl
      · split at h
        · rename_i hs; cases h; exact stL_err hs
        · cases h
  · unfold flL at h
    split at h
    · rename_i ho; cases h; exact ovL_err ho
    · unfold fwL at h
      split at h
      · unfold ruL at h
        split at h
        · cases h; exact Or.inr rfl
        · split at h
          · cases h; exact Or.inl rfl
          · cases h
      · split at h
        · unfold poL at h
          split at h
          · cases h; exact Or.inr rfl
          · split at h
            · cases h; exact Or.inl rfl
            · cases h
        · split at h
          · unfold buL at h
            split at h
            · cases h; exact Or.inr rfl
            · split at h
              · cases h; exact Or.inl rfl
              · cases h
          · split at h
            · unfold deL at h
              split at h
              · cases h; exact Or.inr rfl
              · split at h
                · cases h; exact Or.inr rfl
                · split at h
                  · cases h; exact Or.inl rfl
                  · cases h
            · unfold biL at h
              split at h
              · cases h; exact Or.inr rfl
              · split at h
                · rename_i hs; cases h; exact stL_err hs
                · cases h
theorem liL_err {s : Sm} {x : Ln} {n : Int} (h : liL s x = .error n) : n ≠ 0 := by
  have h8 := liL_no h
  omega

set_option maxRecDepth 20000 in
set_option maxHeartbeats 8000000 in
theorem parse_any (s : ByteArray) (w : World) (htab : TabB w.heap.size w) (hs : s.size ≤ maxLen) :
    Calls Tryz.prog 4 #[.string s] w (PSays (bl s) w) := by
  have HTab := hide htab
  have HCut := hide (fun w => cutl_any s w hs)
  clear htab
  go_enter Tryz.func4, Tryz.ntmps4
  go_wp2_with fail
  have hg0 := Blk.new w #[.slice none 0 0, .slice none 0 0, .slice none 0 0] 26
  have qg0 := (Q.refl w).alloc (.cells #[.slice none 0 0, .slice none 0 0, .slice none 0 0] 26)
  generalize hG0 : w.heap.size = G0 at hg0 ⊢
  have HG0 := hide hG0
  generalize w.alloc (.cells #[.slice none 0 0, .slice none 0 0, .slice none 0 0] 26) = w1 at *
  clear hG0
  refine (unhide HCut w1).mono ?_
  rintro e w2 ⟨ao, cap, rfl, hol, q2⟩
  have hg2 := hg0.q q2
  have q02 := qg0.trans q2
  cases hln : lnC (bl s) with
  | none =>
    have HX := hide (mf_none hln)
    rw [(ln_bad hln).1, (ln_bad hln).2]
    have HG2 := hide hg2
    have e0 : w2.cell? ⟨G0, 0, none⟩ = some (.slice none 0 0) := hg2.cell 0 rfl
    have e1 : w2.cell? ⟨G0, 1, none⟩ = some (.slice none 0 0) := hg2.cell 1 rfl
    have e2 : w2.cell? ⟨G0, 2, none⟩ = some (.slice none 0 0) := hg2.cell 2 rfl
    have f0 := hg2.frz 0
    have f1 := hg2.frz 1
    have f2 := hg2.frz 2
    clear hln hol hg0 hg2 q2 qg0
    go_wp2_with fail
    change bodyPost _ _ _ _ _ (gS w2 G0 (.slice none 0 0) (.slice none 0 0) (.slice none 0 0))
    obtain ⟨g0, g1, g2, gf⟩ := gS_facts (unhide HG2) (.slice none 0 0) (.slice none 0 0) (.slice none 0 0)
    generalize gS w2 G0 (.slice none 0 0) (.slice none 0 0) (.slice none 0 0) = wf at *
    refine bodyPost_ret (v := .tuple #[.agg #[.slice none 0 0, .slice none 0 0, .slice none 0 0], .int .i64 800]) (by simp [results, Tryz.results4, go_sem, g0, g1, g2]) rfl ?_
    exact PSays.err (unhide HX) (Below.trans q02 (gf.below q02.size (fun k hk => by rw [unhide HG0, hk]; exact Nat.le_refl _)))
  | some ls =>
    obtain ⟨hlen, hlf⟩ := lnC_facts hln
    rw [(ln_good hln).1] at hol
    rw [(ln_good hln).1, (ln_good hln).2]
    have HLN := hide hln
    have HOL := hide hol
    have HG2 := hide hg2
    have HLF := hide hlf
    clear hln hol hg0 hg2 q2 qg0 hlf
    go_wp2_with fail
    refine (alone_any _).mono ?_
    rintro e w3 ⟨rfl, q3⟩
    go_wp2_with fail
    have hms := zero_ms (w := w3)
    have qr := (Q.refl w3).alloc (.cells #[.slice none 0 0, .slice none 0 0, .slice none 0 0, .slice none 0 0, .slice none 0 0, aT, aV] 49)
    have hrow := ownL_row (own_q (unhide HOL) q3)
    have hg3 := (unhide HG2).q q3
    have hg3s := hg3.hi
    have q03 := q02.trans q3
    change Code.wp _ (Code.loop _) _ _ (w3.alloc (.cells #[.slice none 0 0, .slice none 0 0, .slice none 0 0, .slice none 0 0, .slice none 0 0, aT, aV] 49)) at *
    have hsz4 : w3.heap.size ≤ (w3.alloc (.cells #[.slice none 0 0, .slice none 0 0, .slice none 0 0, .slice none 0 0, .slice none 0 0, aT, aV] 49)).heap.size := qr.size
    have htab4 : TabB w3.heap.size (w3.alloc (.cells #[.slice none 0 0, .slice none 0 0, .slice none 0 0, .slice none 0 0, .slice none 0 0, aT, aV] 49)) := ((unhide HTab).below (q03.trans qr)).up q03.size
    have HMS := hide hms
    have HRW : Hid (ls = [] ∨ ∃ g o, ao = some ⟨g, o, none⟩ ∧ g < w3.heap.size ∧ ∀ (j i : Nat) x v, ls[j]? = some x → i < 2 → (lv x)[i]? = some v → (w3.alloc (.cells #[.slice none 0 0, .slice none 0 0, .slice none 0 0, .slice none 0 0, .slice none 0 0, aT, aV] 49)).cell? ⟨g, o + (j * 2 + i), none⟩ = some v) := by
      rcases hrow with e | ⟨g, o, e, hg, hc⟩
      · exact Or.inl e
      · exact Or.inr ⟨g, o, e, hg, fun j i x v h1 h2 h3 => (qr.cell (p := ⟨g, o + (j * 2 + i), none⟩) hg).trans (hc j i x v h1 h2 h3)⟩
    have HG4 := hide (hg3.q qr)
    have q04 := q03.trans qr
    have HQ4 := hide q04
    have HTB := hide htab4
    have hR4 := hsz4
    have HWR : Hid (w.heap.size ≤ w3.heap.size) := q03.size
    clear hms hrow hg3 qr q03 htab4 hsz4 q04 HOL HG2 HTab q02 q3
    generalize hRn : w3.heap.size = R at *
    generalize w3.alloc (.cells #[.slice none 0 0, .slice none 0 0, .slice none 0 0, .slice none 0 0, .slice none 0 0, aT, aV] 49) = w4 at *
    clear hRn
    go_loopw [24] (fun i wr => ∃ (k : Nat) (st : Sm), k ≤ ls.length ∧ i = .int .i64 k ∧ Hid (lsL sm0 (ls.take k) = .ok st) ∧ Hid (MS R wr R st) ∧ Hid (Below R w4 wr)) (fun i _ => ls.length - (intOf i).toNat)
    case atStart => exact ⟨0, sm0, Nat.zero_le _, rfl, rfl, HMS, Below.refl _ _⟩
    case round =>
      obtain ⟨k, st, hk, rfl, HLS, HMr, HBr⟩ := hrel
      have hRr : R ≤ wr.heap.size := Nat.le_trans hR4 (unhide HBr).size
      have HGW0 : Hid (Blk wr G0 #[.slice none 0 0, .slice none 0 0, .slice none 0 0] 26) := ((unhide HBr).block G0 hg3s).trans (unhide HG4)
      have HQr : Hid (Q w wr) := Below.trans (unhide HQ4) ((unhide HBr).mono (unhide HWR))
      by_cases hlt : k < ls.length
      · rcases (unhide HRW) with he | ⟨g, o, rfl, hg, hcell⟩
        · rw [he] at hlt; simp at hlt
        obtain ⟨x, hx⟩ : ∃ x, ls[k]? = some x := ⟨ls[k], List.getElem?_eq_getElem hlt⟩
        have c1 : wr.cell? ⟨g, o + k * 2, none⟩ = some (.bool x.1) := ((unhide HBr).cell (p := ⟨g, o + (k * 2 + 0), none⟩) hg).trans (hcell k 0 x _ hx (by decide) rfl)
        have c2 : wr.cell? ⟨g, o + k * 2 + 1, none⟩ = some (.string ⟨x.2.toArray⟩) := ((unhide HBr).cell (p := ⟨g, o + (k * 2 + 1), none⟩) hg).trans (hcell k 1 x _ hx (by decide) rfl)
        obtain ⟨hx1, hx2⟩ := HLF.out x (List.mem_of_getElem? hx)
        have HC := hide (fun w5 (q : Q wr w5) => line_any R R st x w5 ((unhide HMr).q q) (Nat.le_trans hRr q.size) (((unhide HTB).below (unhide HBr)).below (q.mono hRr)) hx1 hx2)
        have HXK := hide hx
        clear hcell hx hx1 hx2
        have HXV : Hid (x = x) := rfl
        generalize (⟨x.2.toArray⟩ : ByteArray) = xt at *
        generalize hxd : x.1 = xd at *
        clear hxd HXV
        go_wp2_with fail
        refine (unhide HC _ ((Q.refl wr).alloc _)).mono ?_
        intro e w6 h6
        have hB6 : Below R w4 w6 := Below.trans (unhide HBr) (Below.trans (((Q.refl wr).alloc (.cells #[.bool xd, .string xt] 51)).mono hRr) h6.1)
        cases hli : liL st x with
        | error n =>
          rw [hli] at h6
          obtain ⟨_, rfl⟩ := h6
          have HX := hide (mf_line (unhide HLN) (lsL_stop HLS.out (unhide HXK) hli))
          have hn := liL_err hli
          have g00 : (n == 0) = false := by simpa using hn
          have g01 : (n != 0) = true := by simpa using hn
          have HGW : Hid (Blk w6 G0 #[.slice none 0 0, .slice none 0 0, .slice none 0 0] 26) := (hB6.block G0 hg3s).trans (unhide HG4)
          have HQW : Hid (Q w w6) := Below.trans (unhide HQ4) (hB6.mono (unhide HWR))
          have e0 : w6.cell? ⟨G0, 0, none⟩ = some (.slice none 0 0) := (unhide HGW).cell 0 rfl
          have e1 : w6.cell? ⟨G0, 1, none⟩ = some (.slice none 0 0) := (unhide HGW).cell 1 rfl
          have e2 : w6.cell? ⟨G0, 2, none⟩ = some (.slice none 0 0) := (unhide HGW).cell 2 rfl
          have f0 := (unhide HGW).frz 0
          have f1 := (unhide HGW).frz 1
          have f2 := (unhide HGW).frz 2
          clear hli hn hB6 HC c1 c2
          go_wp2_with fail
          change bodyPost _ _ _ _ _ (gS w6 G0 (.slice none 0 0) (.slice none 0 0) (.slice none 0 0))
          obtain ⟨g0, g1, g2, gf⟩ := gS_facts (unhide HGW) (.slice none 0 0) (.slice none 0 0) (.slice none 0 0)
          generalize gS w6 G0 (.slice none 0 0) (.slice none 0 0) (.slice none 0 0) = wf at *
          refine bodyPost_ret (v := .tuple #[.agg #[.slice none 0 0, .slice none 0 0, .slice none 0 0], .int .i64 n]) (by simp [results, Tryz.results4, go_sem, g0, g1, g2]) rfl ?_
          exact PSays.err (unhide HX) (Below.trans (unhide HQW) (gf.below (unhide HQW).size (fun k hk => by rw [unhide HG0, hk]; exact Nat.le_refl _)))
        | ok st2 =>
          rw [hli] at h6
          obtain ⟨_, rfl, hm6⟩ := h6
          have HLS2 := hide (lsL_take HLS.out (unhide HXK) hli)
          have HM6 := hide hm6
          have HB6 := hide hB6
          clear hli hm6 hB6 HC c1 c2 HLS HMr HBr
          go_wp2_with fail
          go_roundw
          case rel => exact ⟨k + 1, st2, by omega, by go_num, HLS2, HM6, HB6⟩
          case measure => simp [intOf]; omega
      · have HLE : Hid (lsL sm0 ls = .ok st) := by
          have := HLS.out
          rw [List.take_of_length_le (by omega)] at this
          exact this
        go_upto_region 12 with fail
        obtain ⟨ok, A, vT, vV, hr, hu⟩ := unhide HMr
        have c6 := hr.cells.c6
        have HR := hide hr
        have HOK := hide ok
        have HU := hide hu
        clear hr ok hu HMr HRW HMS
        go_cut [10] from 11 (fun v wc => v = .int .i64 (exE (ovL st)) ∧ Hid (Below R w4 wc) ∧ Hid (∀ s1, ovL st = .ok s1 → SmOk s1 ∧ ∃ A vT vV, Rd R wc R s1 A vT vV))
        case first =>
          unfold UnS at HU
          cases hun : st.un with
          | none =>
            rw [hun] at HU
            obtain ⟨rfl, rfl⟩ := unhide HU
            have HC := hide (over_none R R st A _ _ wr (unhide HR) (unhide HOK) hun)
            clear hun HU
            go_wp2_with fail
            refine (unhide HC).mono ?_
            rintro e w6 ⟨rfl, hb6, ho6, _⟩
            have HB6 := hide (Below.trans (unhide HBr) hb6)
            have HO6 := hide ho6
            clear hb6 ho6
            go_wp2_with fail
            go_meet
            case rel => exact ⟨rfl, HB6, HO6⟩
          | some u =>
            cases u with
            | inl r =>
              rw [hun] at HU
              obtain ⟨M, RB, h1, h2, h3, h4, h5, h6⟩ := unhide HU
              have HC := hide (over_rule R R st A vT vV r M RB wr (unhide HR) hRr (unhide HOK) hun h3 h4)
              subst h2
              clear hun HU h1 h3 h4 h6
              go_wp2_with fail
              refine (unhide HC).mono ?_
              rintro e w6 ⟨rfl, hb6, ho6, _⟩
              have HB6 := hide (Below.trans (unhide HBr) hb6)
              have HO6 := hide ho6
              clear hb6 ho6
              go_wp2_with fail
              go_meet
              case rel => exact ⟨rfl, HB6, HO6⟩
            | inr u =>
              cases u with
              | inl r =>
                rw [hun] at HU
                obtain ⟨M, RB, h1, h2, h3, h4, h5, h6⟩ := unhide HU
                have HC := hide (over_pool R R st A vT vV r M RB wr (unhide HR) hRr (unhide HOK) hun h3 h4)
                subst h2
                clear hun HU h1 h3 h4 h6
                go_wp2_with fail
                refine (unhide HC).mono ?_
                rintro e w6 ⟨rfl, hb6, ho6, _⟩
                have HB6 := hide (Below.trans (unhide HBr) hb6)
                have HO6 := hide ho6
                clear hb6 ho6
                go_wp2_with fail
                go_meet
                case rel => exact ⟨rfl, HB6, HO6⟩
              | inr x =>
                rw [hun] at HU
                obtain ⟨G, BY, O, RB, y, oo, oc, h1, h2, h3, h4, h5, h6, h7, h8, h9, h10, h11, h12, h13⟩ := unhide HU
                have HC := hide (over_build R R st A vT vV x G BY O RB y oo oc wr (unhide HR) hRr (unhide HOK) hun h3 h4 h5 h6 h7 h8 h9 h10 h11 h13)
                subst h2
                clear hun HU h1 h3 h4 h5 h6 h7 h8 h9 h10 h13
                go_wp2_with fail
                refine (unhide HC).mono ?_
                rintro e w6 ⟨rfl, hb6, ho6, _⟩
                have HB6 := hide (Below.trans (unhide HBr) hb6)
                have HO6 := hide ho6
                clear hb6 ho6
                go_wp2_with fail
                go_meet
                case rel => exact ⟨rfl, HB6, HO6⟩
        case rest =>
          obtain ⟨rfl, HB6, HO6⟩ := hcut
          have HGW : Hid (Blk wc G0 #[.slice none 0 0, .slice none 0 0, .slice none 0 0] 26) := (HB6.out.block G0 hg3s).trans (unhide HG4)
          have HQW : Hid (Q w wc) := Below.trans (unhide HQ4) (HB6.out.mono (unhide HWR))
          have e0 : wc.cell? ⟨G0, 0, none⟩ = some (.slice none 0 0) := (unhide HGW).cell 0 rfl
          have e1 : wc.cell? ⟨G0, 1, none⟩ = some (.slice none 0 0) := (unhide HGW).cell 1 rfl
          have e2 : wc.cell? ⟨G0, 2, none⟩ = some (.slice none 0 0) := (unhide HGW).cell 2 rfl
          have f0 := (unhide HGW).frz 0
          have f1 := (unhide HGW).frz 1
          have f2 := (unhide HGW).frz 2
          clear HU HR HOK c6
          cases hx : ovL st with
          | error n =>
            have HX := hide (mf_over (unhide HLN) HLE.out hx)
            have hn : n ≠ 0 := by rcases ovL_err hx with e | e <;> omega
            have g00 : (n == 0) = false := by simpa using hn
            have g01 : (n != 0) = true := by simpa using hn
            have ee : exE (Except.error n : Except Int Sm) = n := rfl
            rw [ee]
            clear hx hn ee
            go_wp2_with fail
            change bodyPost _ _ _ _ _ (gS wc G0 (.slice none 0 0) (.slice none 0 0) (.slice none 0 0))
            obtain ⟨g0, g1, g2, gf⟩ := gS_facts (unhide HGW) (.slice none 0 0) (.slice none 0 0) (.slice none 0 0)
            generalize gS wc G0 (.slice none 0 0) (.slice none 0 0) (.slice none 0 0) = wf at *
            refine bodyPost_ret (v := .tuple #[.agg #[.slice none 0 0, .slice none 0 0, .slice none 0 0], .int .i64 n]) (by simp [results, Tryz.results4, go_sem, g0, g1, g2]) rfl ?_
            exact PSays.err (unhide HX) (Below.trans (unhide HQW) (gf.below (unhide HQW).size (fun k hk => by rw [unhide HG0, hk]; exact Nat.le_refl _)))
          | ok s1 =>
            have HX := hide (mf_ok (unhide HLN) HLE.out hx)
            obtain ⟨ok1, A1, xT, xV, hr1⟩ := HO6.out s1 hx
            obtain ⟨d0, d1, d2, _, _, _, _, _⟩ := hr1.cells
            have ee : exE (Except.ok s1 : Except Int Sm) = 0 := rfl
            rw [ee]
            have HR1 := hide hr1
            clear hx ee hr1 ok1 HO6
            go_wp2_with fail
            change bodyPost _ _ _ _ _ (gS wc G0 (.slice A1.eo A1.es.length A1.ec) (.slice A1.po s1.ps.length A1.pc) (.slice A1.dd s1.ds.length A1.dc))
            obtain ⟨g0, g1, g2, gf⟩ := gS_facts (unhide HGW) (.slice A1.eo A1.es.length A1.ec) (.slice A1.po s1.ps.length A1.pc) (.slice A1.dd s1.ds.length A1.dc)
            generalize gS wc G0 (.slice A1.eo A1.es.length A1.ec) (.slice A1.po s1.ps.length A1.pc) (.slice A1.dd s1.ds.length A1.dc) = wf at *
            refine bodyPost_ret (v := .tuple #[.agg #[.slice A1.eo A1.es.length A1.ec, .slice A1.po s1.ps.length A1.pc, .slice A1.dd s1.ds.length A1.dc], .int .i64 0]) (by simp [results, Tryz.results4, go_sem, g0, g1, g2]) rfl ?_
            have hro := (unhide HR1).ro
            have hnG : ∀ k, R ≤ k → ¬ k = G0 := fun k hk e => by omega
            refine ⟨A1.es, A1.eo, A1.po, A1.dd, A1.ec, A1.pc, A1.dc, by rw [(unhide HX).1, (unhide HX).2]; rfl, ?_, Below.trans (unhide HQW) (gf.below (unhide HQW).size (fun k hk => by rw [unhide HG0, hk]; exact Nat.le_refl _))⟩
            rw [(unhide HX).1]
            exact ⟨own_low (own_fr hro.e gf (fun k hk => hnG k (hro.e.lt k hk).1)) (unhide HWR), hro.em, own_low (own_fr hro.p gf (fun k hk => hnG k (hro.p.lt k hk).1)) (unhide HWR), own_low (own_fr hro.d gf (fun k hk => hnG k (hro.d.lt k hk).1)) (unhide HWR),
              fun x hx => ((hro.q x hx).fr gf (fun k hk => hnG k ((hro.q x hx).lt k hk).1)).low (unhide HWR), hro.nd⟩

end Go.Proofs.YtpddckgkaopnlaaGreatDoor
