/- DiskRow, whole: files written in any row stand by name, each with the time of its last write; no conditions. -/
import Derived.Test.YtghfohhlcfelhaaDoorRows
import Derived.Test.YtghfohhlcfelhaaDoorCards
import Derived.Test.YtghfohhlcfelhaaDoorTie
import Derived.LaidMore
import Derived.Lay
import Derived.SevenTiedAt
import Derived.Stop.Joined
import Derived.ProofKit
import Derived.OpenShut
import Derived.ShutString
import Derived.ChangeOld
import Derived.Below
import Derived.SizedLaws
import Derived.Test.YtghfohhlcfelhaaDoorDkOther
import Derived.Test.YtghfohhlcfelhaaDoorDkRowPlain
import Derived.Test.YtghfohhlcfelhaaDoorRowPlain
import Derived.Test.YtghfohhlcfelhaaDoorBitPlain
import Derived.Test.YtghfohhlcfelhaaDoorStrOne
import Derived.Test.YtghfohhlcfelhaaDoorGfStep
namespace Go.Proofs.YtghfohhlcfelhaaDoor
open Go.ChangeShapes Go.WideShapes Go.ChangeAt Go.RowKit

theorem arr0 : arrI 16 (fun _ => 0) = #[.int .i64 0, .int .i64 0, .int .i64 0, .int .i64 0, .int .i64 0, .int .i64 0, .int .i64 0, .int .i64 0, .int .i64 0, .int .i64 0, .int .i64 0, .int .i64 0, .int .i64 0, .int .i64 0, .int .i64 0, .int .i64 0] := rfl

/-- The state: the disk, two tables. -/
structure RwM (w wr : World) (D0 : Nat) (c : Int) (bo : Option Addr) (bcap : Nat) (fs : List Fl) (l wh : Nat → Int) : Prop where
  d : Blk wr D0 #[.int .i64 c, .slice bo fs.length bcap] 24
  l : Blk wr (D0 + 1) (arrI 16 l) 48
  h : Blk wr (D0 + 1 + 1) (arrI 16 wh) 48
  o : OwnK wr (D0 + 3) bo bcap fs
  q : Q w wr
  lo : w.heap.size ≤ D0
theorem RwM.next {w wr w2 : World} {D0 : Nat} {c : Int} {bo : Option Addr} {bcap : Nat} {fs : List Fl} {l wh : Nat → Int} (h : RwM w wr D0 c bo bcap fs l wh) (q : Q wr w2) : RwM w w2 D0 c bo bcap fs l wh :=
  ⟨h.d.q q, h.l.q q, h.h.q q, own_q h.o q, h.q.trans q, h.lo⟩
/-- Both tables and the disk are written. -/
theorem RwM.put {w wr : World} {D0 : Nat} {c c2 : Int} {bo po : Option Addr} {bcap pcap : Nat} {fs ps : List Fl} {l wh : Nat → Int} {r : Nat} {t x : Int} (h : RwM w wr D0 c bo bcap fs l wh) (hr : r < 16) (hp : OwnK wr (D0 + 3) po pcap ps) :
    RwM w ((((wr.setCell ⟨D0 + 1, r, none⟩ (.int .i64 t)).setCell ⟨D0 + 1 + 1, r, none⟩ (.int .i64 x)).setCell ⟨D0, 0, none⟩ (.int .i64 c2)).setCell ⟨D0, 1, none⟩ (.slice po ps.length pcap)) D0 c2 po pcap ps (updI l r t) (updI wh r x) := by
  have f1 := Fr.set wr (D0 + 1) r (.int .i64 t)
  have f2 := Fr.set (wr.setCell ⟨D0 + 1, r, none⟩ (.int .i64 t)) (D0 + 1 + 1) r (.int .i64 x)
  have f3 := Fr.set ((wr.setCell ⟨D0 + 1, r, none⟩ (.int .i64 t)).setCell ⟨D0 + 1 + 1, r, none⟩ (.int .i64 x)) D0 0 (.int .i64 c2)
  have f4 := Fr.set (((wr.setCell ⟨D0 + 1, r, none⟩ (.int .i64 t)).setCell ⟨D0 + 1 + 1, r, none⟩ (.int .i64 x)).setCell ⟨D0, 0, none⟩ (.int .i64 c2)) D0 1 (.slice po ps.length pcap)
  have fa : Fr (fun k => k = D0 ∨ k = D0 + 1 ∨ k = D0 + 1 + 1) wr ((((wr.setCell ⟨D0 + 1, r, none⟩ (.int .i64 t)).setCell ⟨D0 + 1 + 1, r, none⟩ (.int .i64 x)).setCell ⟨D0, 0, none⟩ (.int .i64 c2)).setCell ⟨D0, 1, none⟩ (.slice po ps.length pcap)) :=
    (f1.mono (fun k hk => Or.inr (Or.inl hk))).trans ((f2.mono (fun k hk => Or.inr (Or.inr hk))).trans ((f3.mono (fun k hk => Or.inl hk)).trans (f4.mono (fun k hk => Or.inl hk))))
  refine ⟨?_, ?_, ?_, own_fr hp fa (fun k hk e => by have := (hp.lt k hk).1; omega), Below.trans h.q (fa.below h.q.size (fun k hk => by have := h.lo; omega)), h.lo⟩
  · have d2 := (h.d.fr f1 (by omega)).fr f2 (by omega)
    exact (d2.set 0 (.int .i64 c2)).set 1 (.slice po ps.length pcap)
  · have l1 := h.l.set r (.int .i64 t)
    rw [arrI_set l hr t] at l1
    exact ((l1.fr f2 (by omega)).fr f3 (by omega)).fr f4 (by omega)
  · have h1 := (h.h.fr f1 (by omega)).set r (.int .i64 x)
    rw [arrI_set wh hr x] at h1
    exact (h1.fr f3 (by omega)).fr f4 (by omega)

set_option maxRecDepth 20000 in
set_option maxHeartbeats 8000000 in
theorem diskRow_any (w : World) (a : Option Addr) (len cap : Nat) (z : List Int) (hr : IsRow .i64 w a len cap z) :
    Calls Tryd.prog 7 #[.slice a len cap] w fun e w' => e = .returned (.bool true) ∧ Q w w' := by
  obtain ⟨hlc, hcm, hzl, hcells, _⟩ := hr
  unfold maxLen at hcm
  obtain ⟨i0, hi, hz0, hz1, hz2⟩ := info_parts Tryd.infoK
  obtain ⟨m, hm⟩ : ∃ m : Nat, m = min len 40 := ⟨_, rfl⟩
  have hm40 : m ≤ 40 := by omega
  have hml : m ≤ len := by omega
  have hmm : m = len ∨ m = 40 := by omega
  have hmI : min (len : Int) 40 = (m : Int) := by omega
  clear hm
  go_enter Tryd.func7, Tryd.ntmps7
  go_wp2_with fail
  refine (dkawake_any _).mono ?_
  rintro e w1 ⟨rfl, q1⟩
  have HST : Hid (RwM w (((w1.alloc (.cells #[.int .i64 0, .slice none 0 0] 24)).alloc (.cells (arrI 16 fun _ => 0) 48)).alloc (.cells (arrI 16 fun _ => 0) 48)) w1.heap.size 0 none 0 [] (fun _ => 0) (fun _ => 0)) := by
    have qa := (Q.refl w1).alloc (.cells #[.int .i64 0, .slice none 0 0] 24)
    have qb := (Q.refl (w1.alloc (.cells #[.int .i64 0, .slice none 0 0] 24))).alloc (.cells (arrI 16 fun _ => 0) 48)
    have qc := (Q.refl ((w1.alloc (.cells #[.int .i64 0, .slice none 0 0] 24)).alloc (.cells (arrI 16 fun _ => 0) 48))).alloc (.cells (arrI 16 fun _ => 0) 48)
    have ba : Blk (w1.alloc (.cells #[.int .i64 0, .slice none 0 0] 24)) w1.heap.size #[.int .i64 0, .slice none 0 0] 24 := Blk.new w1 _ _
    have bb := Blk.new (w1.alloc (.cells #[.int .i64 0, .slice none 0 0] 24)) (arrI 16 fun _ => 0) 48
    have bc := Blk.new ((w1.alloc (.cells #[.int .i64 0, .slice none 0 0] 24)).alloc (.cells (arrI 16 fun _ => 0) 48)) (arrI 16 fun _ => 0) 48
    rw [size_alloc] at bb
    rw [size_alloc, size_alloc] at bc
    exact ⟨(ba.q qb).q qc, bb.q qc, bc, World.ownsRow_nil _ _ _ _, q1.trans (qa.trans (qb.trans qc)), q1.size⟩
  rw [arr0] at HST
  clear q1
  go_wp2_with fail
  generalize ((w1.alloc (.cells #[.int .i64 0, .slice none 0 0] 24)).alloc (.cells #[.int .i64 0, .int .i64 0, .int .i64 0, .int .i64 0, .int .i64 0, .int .i64 0, .int .i64 0, .int .i64 0, .int .i64 0, .int .i64 0, .int .i64 0, .int .i64 0, .int .i64 0, .int .i64 0, .int .i64 0, .int .i64 0] 48)).alloc (.cells #[.int .i64 0, .int .i64 0, .int .i64 0, .int .i64 0, .int .i64 0, .int .i64 0, .int .i64 0, .int .i64 0, .int .i64 0, .int .i64 0, .int .i64 0, .int .i64 0, .int .i64 0, .int .i64 0, .int .i64 0, .int .i64 0] 48) = wb at *
  generalize hD : w1.heap.size = D0 at *
  go_loopw [6] (fun i wr => ∃ (k : Nat) (l wh : Nat → Int) (bo : Option Addr) (bcap : Nat), k ≤ m ∧ i = .int .i64 k ∧ Hid (RwM w wr D0 (k : Int) bo bcap (rowN16 l wh) l wh) ∧ Hid (DkOk (k : Int) (rowN16 l wh))) (fun i _ => m - (intOf i).toNat)
  case atStart =>
    refine ⟨0, fun _ => 0, fun _ => 0, none, 0, Nat.zero_le _, rfl, ?_, ?_⟩
    · exact unhide HST
    · exact ⟨by decide, by decide, by decide, fun f hf => by (cases hf), List.Pairwise.nil, List.Pairwise.nil⟩
  case round =>
    obtain ⟨k, l, wh, bo, bcap, hk, rfl, HM, HDK⟩ := hrel
    have HLE := hide (row_len l wh)
    by_cases hlt : k < m
    · obtain ⟨g, o, rfl, hg, hcell⟩ : ∃ g o, a = some ⟨g, o, none⟩ ∧ g < w.heap.size ∧ ∀ i, i < len → w.cell? ⟨g, o + i, none⟩ = some (.int .i64 (z.getD i 0)) := by
        rcases hcells with h0 | h0
        · omega
        · exact h0
      obtain ⟨zk, hzk⟩ : ∃ zk, zk = z.getD k 0 := ⟨_, rfl⟩
      have hc0 : wr.cell? ⟨g, o + k, none⟩ = some (.int .i64 zk) := by
        rw [hzk, (unhide HM).q.cell (p := ⟨g, o + k, none⟩) hg]; exact hcell k (by omega)
      have h15 := and15 zk
      obtain ⟨r, hr⟩ : ∃ r : Nat, zk % 16 = (r : Int) := ⟨(zk % 16).toNat, by omega⟩
      have hr16 : r < 16 := by omega
      rw [hr] at h15
      clear hzk hcell hcells hr
      obtain ⟨c, hc, hcv⟩ := str_int (97 + (r : Int)) (by omega) (by omega)
      have HV := hide (nmR_eq hc hr16)
      clear hc
      have hrp := row_put (unhide HDK) (by omega) hr16 (x := (k : Int)) (by unfold coOk; rw [decide_eq_true (by omega), decide_eq_true (by omega)]; rfl)
      have HNX := hide hrp.2.2.2
      have HZ : Hid (FlZ (rowN16 l wh)) := fun f hf => by have := fl_len ((unhide HDK).f f hf); unfold maxLen; omega
      have LO := hide (own_le (unhide HM).o)
      have HP := hide (fun w' (q : Q wr w') => put_lit (k : Int) (rowN16 l wh) bo bcap ⟨(nmR r).toArray⟩ (k : Int) w' ⟨hrp.2.1, hrp.2.2.1, hrp.1, rfl⟩ ((OwnK.row (unhide HM).o).q q) (unhide HZ) (unhide LO).1 (unhide LO).2.1 (by rw [mk_size']; show 2 ≤ 4096; decide))
      have HL2 := hide (row_len (updI l r ((k : Int) + 1)) (updI wh r (k : Int)))
      clear hrp
      have r0 : (0 : Int) ≤ (r : Int) := Int.natCast_nonneg _
      have r1 : (r : Int) < 16 := by omega
      have k1 : (k : Int) < (len : Int) := by omega
      have k2 : (k : Int) < 40 := by omega
      have kw : IntKind.i64.wrap ((k : Int) + 1) = (k : Int) + 1 := by rw [IntKind.wrap_i64]; omega
      have b0 := (unhide HM).d.cell 0 rfl
      have b1 := (unhide HM).d.cell 1 rfl
      generalize hfs : rowN16 l wh = fs at *
      generalize hps : rowN16 (updI l r ((k : Int) + 1)) (updI wh r (k : Int)) = ps at *
      have HFS := hide hps
      clear hps hfs
      go_wp2_with fail
      rw [unhide HV]
      refine (unhide HP _ ((Q.refl _).alloc _)).mono ?_
      rintro e w2 ⟨po, pc, rfl, own2, q2⟩
      have q2' := ((Q.refl wr).alloc (.cells #[.int .u8 (97 + (r : Int))] 5)).trans q2
      have qa := (Q.refl w2).alloc (.cells #[.int .i64 ((k : Int) + 1), .slice po ps.length pc] 24)
      have HA : Hid (Blk (w2.alloc (.cells #[.int .i64 ((k : Int) + 1), .slice po ps.length pc] 24)) w2.heap.size #[.int .i64 ((k : Int) + 1), .slice po ps.length pc] 24) := Blk.new w2 _ _
      have HM2 := hide ((unhide HM).next (q2'.trans qa))
      have HO2 := hide (own_low (own_q own2 qa) (B' := D0 + 3) (by have := (unhide HM).h.hi; simp; omega))
      have HNA := hide (show D0 < w2.heap.size from Nat.lt_of_lt_of_le (unhide HM).d.hi q2'.size)
      clear own2 q2 q2' qa b0 b1 hc0 HP
      have t0 := (unhide HM2).l.cell r (arrI_at l hr16)
      have t1 := (unhide HM2).h.cell r (arrI_at wh hr16)
      have t2 := (unhide HM2).l.frz r
      have t3 := (unhide HM2).h.frz r
      have d0 := (unhide HM2).d.cell 0 rfl
      have d1 := (unhide HM2).d.cell 1 rfl
      have d2 := (unhide HM2).d.frz 0
      have d3 := (unhide HM2).d.frz 1
      have a0 := (unhide HA).cell 0 rfl
      have a1 := (unhide HA).cell 1 rfl
      have hn1 : w2.heap.size ≠ D0 := by have := unhide HNA; omega
      have hn2 : w2.heap.size ≠ D0 + 1 := fun e => by have := ((unhide HM2).l).hi; have h2 := unhide HA; rw [e] at h2; exact absurd rfl (Blk.ne h2 (unhide HM2).l (by decide))
      have hn3 : w2.heap.size ≠ D0 + 1 + 1 := fun e => by have h2 := unhide HA; rw [e] at h2; exact absurd rfl (Blk.ne h2 (unhide HM2).h (by decide))
      go_wp2_with (go_at_call 17; refine (num_any _ _).mono ?_; rintro e w' ⟨rfl, hw'⟩; have hw2 := hw'.symm; clear hw'; subst hw2)
      have HE := hide (show ((k + 1 : Nat) : Int) = (k : Int) + 1 by omega)
      have HPT := hide ((unhide HM2).put (c2 := (k : Int) + 1) (t := (k : Int) + 1) (x := (k : Int)) hr16 (unhide HO2))
      go_roundw
      case rel =>
        refine ⟨k + 1, updI l r ((k : Int) + 1), updI wh r (k : Int), po, pc, by omega, by go_num, ?_, ?_⟩
        · show RwM _ _ _ _ _ _ _ _ _; rw [unhide HE, unhide HFS]; exact unhide HPT
        · show DkOk _ _; rw [unhide HE, unhide HFS]; exact unhide HNX
      case measure => simp [intOf]; omega
    · have hkm : k = m := by omega
      subst hkm
      have HCK := hide (show min (len : Int) 40 = (k : Int) from hmI)
      have HZF : Hid (FlZ (rowN16 l wh)) := fun f hf => by have := fl_len ((unhide HDK).f f hf); unfold maxLen; omega
      have HOKD := hide (dk_of (unhide HDK))
      have hw40 : ¬ ((k : Int) < (len : Int)) ∨ ((k : Int) < (len : Int) ∧ ¬ ((k : Int) < 40)) := by omega
      clear hmm hmI hml hm40 hcells hk hlt
      have HFS : Hid (rowP l wh (List.range 16) = rowN16 l wh) := rfl
      clear HDK HLE
      generalize rowN16 l wh = fs at *
      rename World => wz
      rcases hw40 with hx | ⟨hx, hx2⟩
      all_goals
        go_wp2_with fail
        go_loopw [10, 11] (fun v i wr => ∃ (j : Nat) (wo : Option Addr) (wcap : Nat), j ≤ 16 ∧ i = .int .i64 j ∧ v = .slice wo (rowP l wh (List.range j)).length wcap ∧ Hid (OwnK wr wz.heap.size wo wcap (rowP l wh (List.range j))) ∧ Hid (Q wz wr)) (fun _ i _ => 16 - (intOf i).toNat)
        case atStart => exact ⟨0, none, 0, Nat.zero_le _, rfl, rfl, World.ownsRow_nil _ _ _ _, Q.refl _⟩
        case round =>
          obtain ⟨j, wo, wcap, hj, rfl, rfl, HO, HQ⟩ := hrel
          have HN := hide ((unhide HM).next (unhide HQ))
          by_cases hjl : j < 16
          · have t0 := (unhide HN).l.cell j (arrI_at l hjl)
            have j0 : (0 : Int) ≤ (j : Int) := Int.natCast_nonneg _
            have j1 : (j : Int) < 16 := by omega
            have HRS := hide (show rowP l wh (List.range (j + 1)) = rowP l wh (List.range j) ++ rowE l wh j by rw [List.range_succ, rowP_app, rowP_cons, rowP_nil, List.append_nil])
            by_cases hp : 0 < l j
            · have HE : Hid (rowE l wh j = [(nmR j, wh j, l j)]) := by show _ = _; unfold rowE; rw [if_pos hp]
              obtain ⟨c, hc, hcv⟩ := str_int (97 + (j : Int)) (by omega) (by omega)
              have HV := hide (nmR_eq hc hjl)
              clear hc
              have HLN := hide (rowP_le l wh (List.range j))
              rw [List.length_range] at HLN
              generalize hrj : rowP l wh (List.range j) = rj at *
              have kb1 : IntKind.i64.wrap (97 + (j : Int)) = 97 + (j : Int) := by rw [IntKind.wrap_i64]; omega
              have kb2 : IntKind.u8.wrap (97 + (j : Int)) = 97 + (j : Int) := by show (97 + (j : Int)) % 256 = _; omega
              have hcv1 : (convert 46 9 (.slice (some ⟨wr.heap.size, 0, none⟩) 1 1)).run Tryd.prog (wr.alloc (.cells #[.int .u8 (97 + (j : Int))] 5)).drew = .ok (.string ⟨#[c]⟩) (wr.alloc (.cells #[.int .u8 (97 + (j : Int))] 5)).drew := hcv wr.drew
              have HSS : Hid (∀ w', Q wr w' → w'.cell? ⟨D0 + 1, j, none⟩ = some (.int .i64 (l j)) ∧ w'.cell? ⟨D0 + 1 + 1, j, none⟩ = some (.int .i64 (wh j))) := fun w' q => ⟨((unhide HN).next q).l.cell j (arrI_at l hjl), ((unhide HN).next q).h.cell j (arrI_at wh hjl)⟩
              have S0 := unhide HSS _ (Q.refl wr).drew
              have SA : ∀ ob, (fun w' => w'.cell? ⟨D0 + 1, j, none⟩ = some (.int .i64 (l j)) ∧ w'.cell? ⟨D0 + 1 + 1, j, none⟩ = some (.int .i64 (wh j))) (wr.alloc ob).drew := fun ob => unhide HSS _ ((Q.refl wr).alloc ob).drew
              have SB : ∀ ob ob2, (fun w' => w'.cell? ⟨D0 + 1, j, none⟩ = some (.int .i64 (l j)) ∧ w'.cell? ⟨D0 + 1 + 1, j, none⟩ = some (.int .i64 (wh j))) ((wr.alloc ob).drew.alloc ob2) := fun ob ob2 => unhide HSS _ (((Q.refl wr).alloc ob).drew.alloc ob2)
              have SC : ∀ ob ob2, (fun w' => w'.cell? ⟨D0 + 1, j, none⟩ = some (.int .i64 (l j)) ∧ w'.cell? ⟨D0 + 1 + 1, j, none⟩ = some (.int .i64 (wh j))) ((wr.alloc ob).alloc ob2).drew := fun ob ob2 => unhide HSS _ (((Q.refl wr).alloc ob).alloc ob2).drew
              have HH1 : Hid (∀ u ∈ [Value.string (ByteArray.mk #[102] ++ ByteArray.mk #[c]), .int .i64 (wh j), .int .i64 (l j)], u.oneCell' = true) := by intro u hu; simp at hu; rcases hu with rfl | rfl | rfl <;> rfl
              have HNE : Hid ((Value.slice wo rj.length wcap).ownBlock ≠ some (D0 + 1) ∧ (Value.slice wo rj.length wcap).ownBlock ≠ some (D0 + 1 + 1)) := ⟨fun e => by have := (HO.out.lt _ e).1; have := (unhide HM).l.hi; omega, fun e => by have := (HO.out.lt _ e).1; have := (unhide HM).h.hi; omega⟩
              have HBQ := hide (unhide HQ).size
              have t1 := (unhide HN).h.cell j (arrI_at wh hjl)
              have ta0 : ∀ ob, (wr.alloc ob).cell? ⟨D0 + 1, j, none⟩ = some (.int .i64 (l j)) := fun ob => ((unhide HN).next ((Q.refl wr).alloc ob)).l.cell j (arrI_at l hjl)
              have ta1 : ∀ ob, (wr.alloc ob).cell? ⟨D0 + 1 + 1, j, none⟩ = some (.int .i64 (wh j)) := fun ob => ((unhide HN).next ((Q.refl wr).alloc ob)).h.cell j (arrI_at wh hjl)
              clear hcv S0 SA SB SC HSS
              go_wp2_with fail
              go_region_law (refine step_append_lies _ rfl (.tmp 60) (.tmp 74) 22 rfl wz.heap.size 34 i0 _ 3 32 Tryd.underlying22 hi hz0 hz1 hz2 rfl (by decide) (.slice wo rj.length wcap) rj.length (lay fv rj) (by simp [Act.eval]) (own_q HO.out (((Q.refl wr).alloc (.cells #[.int .u8 (97 + (j : Int))] 5)).alloc (.cells #[.string (ByteArray.mk #[102] ++ ByteArray.mk #[c]), .int .i64 (wh j), .int .i64 (l j)] 34)).drew) ⟨wr.heap.size + 1, 0, none⟩ 1 1 [.string (ByteArray.mk #[102] ++ ByteArray.mk #[c]), .int .i64 (wh j), .int .i64 (l j)] (by simp [Act.eval]) rfl (fun jj u hjj => news_at (w := wr.alloc (.cells #[.int .u8 (97 + (j : Int))] 5)) (size_alloc _ _).symm #[.string (ByteArray.mk #[102] ++ ByteArray.mk #[c]), .int .i64 (wh j), .int .i64 (l j)] 34 jj u hjj) (unhide HH1) (by decide) (by have := unhide HLN; unfold maxLen; omega) (by have := unhide HLN; omega) (by have := unhide HBQ; simp; omega) (wr.heap.size + 1 + 1) (by simp) ?_; intro g5 cp5 w5 hown5 hgrow5 hor5 hlt5)
              all_goals
                have HRJ := hide ((unhide HRS).trans (by rw [unhide HE]))
                have HLJ := hide (show (rowP l wh (List.range (j + 1))).length = rj.length + 1 by rw [unhide HRJ, List.length_append]; rfl)
                have HO5 : Hid (OwnK w5 wz.heap.size (some ⟨g5, 0, none⟩) cp5 (rowP l wh (List.range (j + 1)))) := by
                  show OwnK _ _ _ _ _
                  rw [unhide HRJ]
                  refine OwnK.snoc ?_
                  show World.ownsRow _ _ _ _ _ _ (lay fv rj ++ [.string ⟨(nmR j).toArray⟩, .int .i64 (wh j), .int .i64 (l j)])
                  rw [← unhide HV]; exact hown5
                have HQ5 : Hid (Q wz w5) := Below.grown (((unhide HQ).alloc (.cells #[.int .u8 (97 + (j : Int))] 5)).alloc (.cells #[.string (ByteArray.mk #[102] ++ ByteArray.mk #[c]), .int .i64 (wh j), .int .i64 (l j)] 34)).drew hgrow5 (by have := unhide HBQ; simp; omega) (fun r hr => (HO.out.lt r hr).1)
                clear hown5 hgrow5 hor5 hcv1 t0 t1 ta0 ta1
                go_wp2_with fail
                go_roundw
                case rel => exact ⟨j + 1, some ⟨g5, 0, none⟩, cp5, by omega, by go_num, by rw [unhide HLJ], HO5, HQ5⟩
                case measure => simp [intOf]; omega
            · have HE : Hid (rowE l wh j = []) := by show _ = _; unfold rowE; rw [if_neg hp]
              have hpf : ¬ (0 < l j) := hp
              have HRJ := hide ((unhide HRS).trans (by rw [unhide HE, List.append_nil]))
              go_wp2_with fail
              go_roundw
              case rel =>
                refine ⟨j + 1, wo, wcap, by omega, by go_num, by rw [unhide HRJ], ?_, HQ⟩
                show OwnK _ _ _ _ _
                rw [unhide HRJ]; exact unhide HO
              case measure => simp [intOf]; omega
          · obtain rfl : j = 16 := by omega
            rw [unhide HFS] at HO ⊢
            have b0 := (unhide HN).d.cell 0 rfl
            have b1 := (unhide HN).d.cell 1 rfl
            have LO := hide (own_le (unhide HM).o)
            have HSF := hide (sameF_any bo wo bcap wcap fs fs wr (OwnK.row (unhide HN).o) (OwnK.row (unhide HO)) (Nat.le_trans (unhide LO).1 (unhide LO).2.1))
            rw [decide_eq_true (rfl : fs = fs)] at HSF
            have HMY := hide (fun w' (q : Q wr w') => may_litK (k : Int) fs bo bcap w' (unhide HOKD) ((OwnK.row (unhide HN).o).q q) (unhide HZF) (unhide LO).1 (unhide LO).2.1)
            have hck := unhide HCK
            go_wp2_with fail
            refine (unhide HSF).mono ?_
            rintro e w7 ⟨rfl, q7⟩
            have c0 := ((unhide HN).next q7).d.cell 0 rfl
            have c1 := ((unhide HN).next q7).d.cell 1 rfl
            have HQ7 := hide ((unhide HN).q.trans q7)
            have HY7 := hide (unhide HMY _ q7)
            clear b0 b1 q7 HMY HSF
            go_wp2_with fail
            refine (unhide HY7).mono ?_
            rintro e w8 ⟨rfl, q8⟩
            go_wp2_with fail
            go_ret
            exact ⟨rfl, (unhide HQ7).trans q8⟩

theorem Tryd.laidOut : laidOutB Tryd.prog = true := by kernel_rfl
set_option maxRecDepth 100000 in
theorem diskRow_lifted (os : Os) (started : os.Started) (H : Type) (enc : TypeId × Value → H) :
    ReturnsInHanded {} Tryd.checked os 7 .any (fun w args => (Rows.diskRowSpec.pre enc Tryd.prog Tryd.f7 [] false w args ∧ laidMetH Tryd.prog Rows.diskRowRow.laid w) ∧ sizedMet enc Tryd.prog Tryd.f7 (OpenSpec.ofChange Rows.diskRowSpec) false w args) (Rows.diskRowSpec.post enc Tryd.prog Tryd.f7 false true false false) := by
  refine returnsInHanded_of_change_and (C := Tryd.checked) (X := fun w _ => laidMetH Tryd.prog Rows.diskRowRow.laid w) (fun _ _ _ hh h => h.of_heap hh) Tryd.own started (by kernel_rfl) Tryd.func7
    (ChangeSpec.witness_shaped (enc := enc) (C := Tryd.checked) (os := os) (X := fun w _ => laidMetH Tryd.prog Rows.diskRowRow.laid w) false (World.laidAll Tryd.prog os Rows.diskRowRow.laid) #[.slice none 0 0] 8 (World.laidAll_os _ _ _)
      (World.shaped_of_ZipB (by kernel_rfl) (by kernel_rfl)) (by kernel_rfl) (by kernel_rfl) (by kernel_rfl)
      (by rw [MakeChecks.laidMetH_plain _ _ _ (by kernel_rfl)]; exact laidMet_laidAll _ (by kernel_rfl) (by kernel_rfl))) ?_
  intro W base args ds gs before hval0 hW _ hsz0 hL _
  have hval : ∀ (j : Nat) t v, Tryd.f7.params[j]? = some t → args[j]? = some v → Value.okWide Tryd.prog W .any base t v := hval0
  have hW' := hW
  obtain ⟨p, q, hA0, hV, rfl, hfz, hnd⟩ := hW
  have hA : DataW.TrodAll enc Tryd.prog W 0 (fun _ => true) true Tryd.f7.params.toList args.toList ds p := hA0
  rw [Tryd.params7] at hA hval
  obtain ⟨v0, vs0, d0, ds0, p0, q0, hargs, rfl, rfl, h0, r0⟩ := trodAll_cons hA
  obtain ⟨rfl, rfl, rfl⟩ := trodAll_nil r0
  obtain rfl : args = #[v0] := by cases args; simp_all
  obtain ⟨rfl, rfl⟩ := trodVars_none hV
  obtain ⟨a0, len0, cap0, rfl⟩ := okWide_slice Tryd.underlying44 (hval 0 44 v0 rfl rfl)
  have k0 := h0
  have lt0 : ∀ x ∈ p0, x.block < W.heap.size := by obtain ⟨m, hm⟩ := k0; exact DataW.trod_lt m _ _ _ hm
  obtain ⟨z0, w0⟩ : ∃ zs, IsRow .i64 W a0 len0 cap0 zs := is_row Tryd.underlying44 Tryd.underlying3 (by kernel_rfl) h0
  clear hA0 hval0
  refine (diskRow_any W a0 len0 cap0 z0 w0).mono fun e W' ⟨he, bel⟩ => ?_
  subst he
  exact ⟨_, rfl, _, _, _, [], _, [], hW', trodAll_mk1 (shut_bool Tryd.underlying4 _), (trodAll_cons_mk (Below.trod Tryd.laidOut (by kernel_rfl) (of_decide_eq_true (by kernel_rfl)) k0 bel lt0) trodAll_mk0), rfl, bel.frame _, fun h => by cases h⟩

theorem diskRow_holds : Rows.DiskRowSaid :=
  OpenClaim.holds_of_wide 7 Tryd.f7 rfl rfl rfl rfl rfl rfl rfl ⟨rfl, rfl, rfl, rfl, rfl⟩ rfl rfl rfl rfl rfl (by kernel_rfl) Tryd.func7 (by kernel_rfl)
    (of_decide_eq_true (by kernel_rfl)) (by unfold Func.isWrapper; first | (rw [if_pos (by decide +kernel)]; kernel_rfl) | (rw [if_neg (by decide +kernel)]; exact ⟨rfl, rfl⟩))
    (fun os started H enc _ => diskRow_lifted os started H enc)
theorem diskRow_card : Rows.DiskRowCardSaid :=
  Claim7.holds_tied_plain_at .later [] [.data, .pinned] true (true, "70ffd1132ee9d4383af659bd53c2ff836d5bbd12bc3d7956f63e20143a124f82") false diskRow_holds (fun _ h => by cases h) (by kernel_rfl) (fun _ h => by cases h) diskRow_row_tie rfl ⟨rfl, rfl⟩ (by kernel_rfl) rfl
    (fun f fn hf hfn => by
      obtain rfl : f = 7 := Option.some.inj ((show Tryd.prog.funcNamed Rows.diskRowRow.func = some 7 by kernel_rfl).symm.trans hf) |>.symm
      obtain rfl : fn = Tryd.f7 := (Option.some.inj (Tryd.func7.symm.trans hfn)).symm
      exact ⟨by kernel_rfl, fun j t ht => by
        rw [Tryd.params7] at ht
        have hm : t ∈ [44] := by simpa using Array.mem_of_getElem? ht
        have hall : ([44].all fun u => !Tryd.prog.wantsStandIn u) = true := by kernel_rfl
        exact (show Tryd.prog.wantsStandIn t = false by simpa using List.all_eq_true.1 hall t hm)⟩)
    (by kernel_rfl)
#print axioms diskRow_card
end Go.Proofs.YtghfohhlcfelhaaDoor
