/- The statement on pieces that are kept and taken away holds for every row of numbers; no conditions. -/
import Derived.Test.YtfobpklijmnkkaaDoorRows
import Derived.Test.YtfobpklijmnkkaaDoorCards
import Derived.Test.YtfobpklijmnkkaaDoorTie
import Derived.LaidMore
import Derived.Lay
import Derived.SevenTiedAt
import Derived.Stop.Joined
import Derived.ProofKit
import Derived.OpenShut
import Derived.ShutString
import Derived.ChangeOld
import Derived.Below
import Derived.Test.YtfobpklijmnkkaaDoorPpPlain
import Derived.Test.YtfobpklijmnkkaaDoorPtAwake
import Derived.Test.YtfobpklijmnkkaaDoorBitPlain
import Derived.Test.YtfobpklijmnkkaaDoorRowPlain
namespace Go.Proofs.YtfobpklijmnkkaaDoor
open Go.ChangeShapes Go.WideShapes Go.ChangeAt Go.RowKit
open Go.ChangeMaps (open_string shut_string)

set_option maxHeartbeats 8000000 in
theorem pathPieces_any (w : World) (a : Option Addr) (len cap : Nat) (z : List Int) (hr : IsRow .i64 w a len cap z) :
    Calls Tryd.prog 4 #[.slice a len cap] w fun e w' => e = .returned (.bool true) ∧ Q w w' := by
  obtain ⟨hlc, hcm, hzl, hcells, _⟩ := hr
  unfold maxLen at hcm
  obtain ⟨i0, hi, hz0, hz1, hz2⟩ := info_parts Tryd.infoS
  obtain ⟨m, hm⟩ : ∃ m : Nat, min (len : Int) 6 = m := ⟨min len 6, by omega⟩
  have hm6 : m ≤ 6 := by omega
  have hml : m ≤ len := by omega
  go_enter Tryd.func4, Tryd.ntmps4
  go_wp2_with fail
  refine (pawake_any _).mono ?_
  rintro e w1 ⟨rfl, q1⟩
  go_wp2_with fail
  clear hm
  go_loopw [3, 4, 5, 7] (fun v3 v4 v5 i wr => ∃ (k : Nat) (ps : List (List UInt8)) (t : ByteArray) (ys : List ByteArray) (ao : Option Addr) (cp : Nat) (b : Bool), k ≤ m ∧ i = .int .i64 k ∧ v3 = .string t ∧ v4 = .slice ao ys.length cp ∧ v5 = .bool b ∧ St w1 wr k ps t ys ao cp b)
    (fun _ _ _ i _ => m - (intOf i).toNat)
  case atStart => exact ⟨0, [], ⟨#[]⟩, [], none, 0, true, by omega, rfl, rfl, rfl, rfl, ⟨Pz.nil, rfl, rfl, by decide, by simp, by simp, rfl, World.ownsRow_nil _ _ _ _, Q.refl _⟩⟩
  case round =>
    obtain ⟨k, ps, t, ys, ao, cp, b, hk, rfl, rfl, rfl, rfl, h⟩ := hrel
    have hts := h.siz
    have hyk := h.ysk
    have hyc := own_cap h.own
    by_cases hlt : k < m
    · obtain ⟨g, o, rfl, hg, hcell⟩ : ∃ g o, a = some ⟨g, o, none⟩ ∧ g < w.heap.size ∧ ∀ i, i < len → w.cell? ⟨g, o + i, none⟩ = some (.int .i64 (z.getD i 0)) := by
        rcases hcells with h0 | h0
        · omega
        · exact h0
      obtain ⟨zk, hzk⟩ : ∃ zk, zk = z.getD k 0 := ⟨_, rfl⟩
      have hc0 : wr.cell? ⟨g, o + k, none⟩ = some (.int .i64 zk) := by
        rw [hzk, (q1.trans h.q).cell (p := ⟨g, o + k, none⟩) hg]; exact hcell k (by omega)
      have hc : ∀ ob, (wr.alloc ob).cell? ⟨g, o + k, none⟩ = some (.int .i64 zk) := fun ob => by
        rw [World.cell?_alloc_old _ _ _ (Nat.ne_of_lt (World.block_lt_of_cell? _ _ hc0))]; exact hc0
      clear hc0
      obtain ⟨r, hr5, hr⟩ := umod zk 5 (by decide) (by decide)
      have hr' : wrap64 ((IntKind.u64.wrap zk).tmod 5) = (r : Int) := hr
      have TX := fun (x : ByteArray) (hx : x.size ≤ 2) => h.text hx
      have HTX := hide TX
      clear hr hzk hcells hcell TX
      by_cases hk0 : k = 0
      · subst hk0
        rw [Nat.add_zero] at hc
        have HYS : Hid (ys = []) := List.eq_nil_of_length_eq_zero (by omega)
        rcases (by omega : r = 0 ∨ r = 1 ∨ r = 2 ∨ r = 3 ∨ r = 4) with rfl | rfl | rfl | rfl | rfl
        · have HT := hide (((unhide HTX) ⟨#[97]⟩ (by decide)).1 rfl)
          clear HTX
          go_wp2_with (at_builtin; refine wpList_append_lies _ rfl _ _ 31 rfl w1.heap.size 9 i0 (.string ByteArray.empty) 1 16 Tryd.underlying31 hi hz0 hz1 hz2 rfl (by decide) _ _ _ rfl ((h.own.alloc _).alloc _) ⟨wr.heap.size + 1, 0, none⟩ 1 1 [.string ⟨#[97]⟩] rfl rfl ?za1 ?za2 (by decide) ?za3 ?za4 ?za5 (wr.heap.size + 2) (by simp) ?_)
          case za1 =>
            intro j u hj
            match j, hj with
            | 0, hj => simp at hj; subst hj; simp [Addr.add]
          case za2 => intro u hu; simp at hu; subst hu; rfl
          case za3 => unfold maxLen; omega
          case za4 => omega
          case za5 => have := h.q.size; simp; omega
          intro g' cp' w2 hown2 hgrow hor hglt
          have hq2 : Q w1 w2 := Below.grown ((h.q.alloc _).alloc _) hgrow (by have := h.q.size; simp; omega) (fun r hr => (h.own.lt r hr).1)
          have HS := hide (St.add (x := ⟨#[97]⟩) h (unhide HT) (by first | exact Or.inl rfl | exact Or.inr rfl) (ao' := some ⟨g', 0, none⟩) (cap' := cp') (by simpa using hown2) hq2)
          clear hown2 hgrow hor h HT
          go_wp2
          go_roundw
          case rel => exact ⟨0 + 1, _, t ++ ⟨#[97]⟩, ys ++ [⟨#[97]⟩], some ⟨g', 0, none⟩, cp', b, by omega, by go_num, rfl, by simp, rfl, unhide HS⟩
          case measure => simp [intOf]; omega
        · have HT := hide (((unhide HTX) ⟨#[98]⟩ (by decide)).1 rfl)
          clear HTX
          go_wp2_with (at_builtin; refine wpList_append_lies _ rfl _ _ 31 rfl w1.heap.size 9 i0 (.string ByteArray.empty) 1 16 Tryd.underlying31 hi hz0 hz1 hz2 rfl (by decide) _ _ _ rfl ((h.own.alloc _).alloc _) ⟨wr.heap.size + 1, 0, none⟩ 1 1 [.string ⟨#[98]⟩] rfl rfl ?zb1 ?zb2 (by decide) ?zb3 ?zb4 ?zb5 (wr.heap.size + 2) (by simp) ?_)
          case zb1 =>
            intro j u hj
            match j, hj with
            | 0, hj => simp at hj; subst hj; simp [Addr.add]
          case zb2 => intro u hu; simp at hu; subst hu; rfl
          case zb3 => unfold maxLen; omega
          case zb4 => omega
          case zb5 => have := h.q.size; simp; omega
          intro g' cp' w2 hown2 hgrow hor hglt
          have hq2 : Q w1 w2 := Below.grown ((h.q.alloc _).alloc _) hgrow (by have := h.q.size; simp; omega) (fun r hr => (h.own.lt r hr).1)
          have HS := hide (St.add (x := ⟨#[98]⟩) h (unhide HT) (by first | exact Or.inl rfl | exact Or.inr rfl) (ao' := some ⟨g', 0, none⟩) (cap' := cp') (by simpa using hown2) hq2)
          clear hown2 hgrow hor h HT
          go_wp2
          go_roundw
          case rel => exact ⟨0 + 1, _, t ++ ⟨#[98]⟩, ys ++ [⟨#[98]⟩], some ⟨g', 0, none⟩, cp', b, by omega, by go_num, rfl, by simp, rfl, unhide HS⟩
          case measure => simp [intOf]; omega
        · have HT := hide (((unhide HTX) ⟨#[46]⟩ (by decide)).1 rfl)
          clear HTX
          have HS := hide (St.skip (x := ⟨#[46]⟩) h (unhide HT) (by first | exact Or.inl rfl | exact Or.inr ⟨rfl, hk0⟩) (h.own.alloc (.cells #[.string ⟨#[97]⟩, .string ⟨#[98]⟩, .string ⟨#[46]⟩, .string ⟨#[46, 46]⟩, .string ⟨#[]⟩] 9)) (h.q.alloc _))
          clear h HT
          go_wp2_with fail
          go_roundw
          case rel => exact ⟨0 + 1, _, t ++ ⟨#[46]⟩, ys, ao, cp, b, by omega, by go_num, rfl, rfl, rfl, unhide HS⟩
          case measure => simp [intOf]; omega
        · have hl0 : ((ys.length : Int) == 0) = true := by rw [HYS.out]; rfl
          have HT := hide (((unhide HTX) ⟨#[46, 46]⟩ (by decide)).1 rfl)
          clear HTX
          have HS := hide (St.stop (x := ⟨#[46, 46]⟩) h (unhide HT) rfl (by first | exact Or.inl HYS.out | exact Or.inr rfl) (h.own.alloc (.cells #[.string ⟨#[97]⟩, .string ⟨#[98]⟩, .string ⟨#[46]⟩, .string ⟨#[46, 46]⟩, .string ⟨#[]⟩] 9)) (h.q.alloc _))
          clear h HT
          go_wp2_with fail
          go_roundw
          case rel => exact ⟨0 + 1, _, t ++ ⟨#[46, 46]⟩, ys, ao, cp, false, by omega, by go_num, rfl, rfl, rfl, unhide HS⟩
          case measure => simp [intOf]; omega
        · have HT := hide (((unhide HTX) ⟨#[97]⟩ (by decide)).1 rfl)
          clear HTX
          go_wp2_with (at_builtin; refine wpList_append_lies _ rfl _ _ 31 rfl w1.heap.size 9 i0 (.string ByteArray.empty) 1 16 Tryd.underlying31 hi hz0 hz1 hz2 rfl (by decide) _ _ _ rfl ((h.own.alloc _).alloc _) ⟨wr.heap.size + 1, 0, none⟩ 1 1 [.string ⟨#[97]⟩] rfl rfl ?ze1 ?ze2 (by decide) ?ze3 ?ze4 ?ze5 (wr.heap.size + 2) (by simp) ?_)
          case ze1 =>
            intro j u hj
            match j, hj with
            | 0, hj => simp at hj; subst hj; simp [Addr.add]
          case ze2 => intro u hu; simp at hu; subst hu; rfl
          case ze3 => unfold maxLen; omega
          case ze4 => omega
          case ze5 => have := h.q.size; simp; omega
          intro g' cp' w2 hown2 hgrow hor hglt
          have hq2 : Q w1 w2 := Below.grown ((h.q.alloc _).alloc _) hgrow (by have := h.q.size; simp; omega) (fun r hr => (h.own.lt r hr).1)
          have HS := hide (St.add (x := ⟨#[97]⟩) h (unhide HT) (by first | exact Or.inl rfl | exact Or.inr rfl) (ao' := some ⟨g', 0, none⟩) (cap' := cp') (by simpa using hown2) hq2)
          clear hown2 hgrow hor h HT
          go_wp2
          go_roundw
          case rel => exact ⟨0 + 1, _, t ++ ⟨#[97]⟩, ys ++ [⟨#[97]⟩], some ⟨g', 0, none⟩, cp', b, by omega, by go_num, rfl, by simp, rfl, unhide HS⟩
          case measure => simp [intOf]; omega
      have hk1 : 0 < k := by omega
      have hk0' : ((k : Int) == 0) = false := beq_eq_false_iff_ne.2 (by omega)
      have hz2' : (t ++ ⟨#[47]⟩).size ≤ 1000 := by rw [← bl_size, bl_app, List.length_append, bl_size, bl_size]; have e1 : (⟨#[47]⟩ : ByteArray).size = 1 := rfl; rw [e1]; omega
      rcases (by omega : r = 0 ∨ r = 1 ∨ r = 2 ∨ r = 3 ∨ r = 4) with rfl | rfl | rfl | rfl | rfl
      · have HT := hide (((unhide HTX) ⟨#[97]⟩ (by decide)).2 hk0)
        clear HTX
        go_wp2_with (at_builtin; refine wpList_append_lies _ rfl _ _ 31 rfl w1.heap.size 9 i0 (.string ByteArray.empty) 1 16 Tryd.underlying31 hi hz0 hz1 hz2 rfl (by decide) _ _ _ rfl ((h.own.alloc _).alloc _) ⟨wr.heap.size + 1, 0, none⟩ 1 1 [.string ⟨#[97]⟩] rfl rfl ?ka1 ?ka2 (by decide) ?ka3 ?ka4 ?ka5 (wr.heap.size + 2) (by simp) ?_)
        case ka1 =>
          intro j u hj
          match j, hj with
          | 0, hj => simp at hj; subst hj; simp [Addr.add]
        case ka2 => intro u hu; simp at hu; subst hu; rfl
        case ka3 => unfold maxLen; omega
        case ka4 => omega
        case ka5 => have := h.q.size; simp; omega
        intro g' cp' w2 hown2 hgrow hor hglt
        have hq2 : Q w1 w2 := Below.grown ((h.q.alloc _).alloc _) hgrow (by have := h.q.size; simp; omega) (fun r hr => (h.own.lt r hr).1)
        have HS := hide (St.add (x := ⟨#[97]⟩) h (unhide HT) (by first | exact Or.inl rfl | exact Or.inr rfl) (ao' := some ⟨g', 0, none⟩) (cap' := cp') (by simpa using hown2) hq2)
        clear hown2 hgrow hor h HT
        go_wp2
        go_roundw
        case rel => exact ⟨k + 1, _, t ++ ⟨#[47]⟩ ++ ⟨#[97]⟩, ys ++ [⟨#[97]⟩], some ⟨g', 0, none⟩, cp', b, by omega, by go_num, rfl, by simp, rfl, unhide HS⟩
        case measure => simp [intOf]; omega
      · have HT := hide (((unhide HTX) ⟨#[98]⟩ (by decide)).2 hk0)
        clear HTX
        go_wp2_with (at_builtin; refine wpList_append_lies _ rfl _ _ 31 rfl w1.heap.size 9 i0 (.string ByteArray.empty) 1 16 Tryd.underlying31 hi hz0 hz1 hz2 rfl (by decide) _ _ _ rfl ((h.own.alloc _).alloc _) ⟨wr.heap.size + 1, 0, none⟩ 1 1 [.string ⟨#[98]⟩] rfl rfl ?kb1 ?kb2 (by decide) ?kb3 ?kb4 ?kb5 (wr.heap.size + 2) (by simp) ?_)
        case kb1 =>
          intro j u hj
          match j, hj with
          | 0, hj => simp at hj; subst hj; simp [Addr.add]
        case kb2 => intro u hu; simp at hu; subst hu; rfl
        case kb3 => unfold maxLen; omega
        case kb4 => omega
        case kb5 => have := h.q.size; simp; omega
        intro g' cp' w2 hown2 hgrow hor hglt
        have hq2 : Q w1 w2 := Below.grown ((h.q.alloc _).alloc _) hgrow (by have := h.q.size; simp; omega) (fun r hr => (h.own.lt r hr).1)
        have HS := hide (St.add (x := ⟨#[98]⟩) h (unhide HT) (by first | exact Or.inl rfl | exact Or.inr rfl) (ao' := some ⟨g', 0, none⟩) (cap' := cp') (by simpa using hown2) hq2)
        clear hown2 hgrow hor h HT
        go_wp2
        go_roundw
        case rel => exact ⟨k + 1, _, t ++ ⟨#[47]⟩ ++ ⟨#[98]⟩, ys ++ [⟨#[98]⟩], some ⟨g', 0, none⟩, cp', b, by omega, by go_num, rfl, by simp, rfl, unhide HS⟩
        case measure => simp [intOf]; omega
      · have HT := hide (((unhide HTX) ⟨#[46]⟩ (by decide)).2 hk0)
        clear HTX
        have HS := hide (St.skip (x := ⟨#[46]⟩) h (unhide HT) (by first | exact Or.inl rfl | exact Or.inr ⟨rfl, hk0⟩) (h.own.alloc (.cells #[.string ⟨#[97]⟩, .string ⟨#[98]⟩, .string ⟨#[46]⟩, .string ⟨#[46, 46]⟩, .string ⟨#[]⟩] 9)) (h.q.alloc _))
        clear h HT
        go_wp2_with fail
        go_roundw
        case rel => exact ⟨k + 1, _, t ++ ⟨#[47]⟩ ++ ⟨#[46]⟩, ys, ao, cp, b, by omega, by go_num, rfl, rfl, rfl, unhide HS⟩
        case measure => simp [intOf]; omega
      · by_cases hys : ys = []
        · have hl0 : ((ys.length : Int) == 0) = true := by rw [hys]; rfl
          have HT := hide (((unhide HTX) ⟨#[46, 46]⟩ (by decide)).2 hk0)
          clear HTX
          have HS := hide (St.stop (x := ⟨#[46, 46]⟩) h (unhide HT) rfl (by first | exact Or.inl hys | exact Or.inr rfl) (h.own.alloc (.cells #[.string ⟨#[97]⟩, .string ⟨#[98]⟩, .string ⟨#[46]⟩, .string ⟨#[46, 46]⟩, .string ⟨#[]⟩] 9)) (h.q.alloc _))
          clear h HT
          go_wp2_with fail
          go_roundw
          case rel => exact ⟨k + 1, _, t ++ ⟨#[47]⟩ ++ ⟨#[46, 46]⟩, ys, ao, cp, false, by omega, by go_num, rfl, rfl, rfl, unhide HS⟩
          case measure => simp [intOf]; omega
        · have hl1 : 1 ≤ ys.length := List.length_pos_iff.2 hys
          have hl0 : ((ys.length : Int) == 0) = false := beq_eq_false_iff_ne.2 (by omega)
          cases b
          · have HT := hide (((unhide HTX) ⟨#[46, 46]⟩ (by decide)).2 hk0)
            clear HTX
            have HS := hide (St.stop (x := ⟨#[46, 46]⟩) h (unhide HT) rfl (by first | exact Or.inl hys | exact Or.inr rfl) (h.own.alloc (.cells #[.string ⟨#[97]⟩, .string ⟨#[98]⟩, .string ⟨#[46]⟩, .string ⟨#[46, 46]⟩, .string ⟨#[]⟩] 9)) (h.q.alloc _))
            clear h HT
            go_wp2_with fail
            go_roundw
            case rel => exact ⟨k + 1, _, t ++ ⟨#[47]⟩ ++ ⟨#[46, 46]⟩, ys, ao, cp, false, by omega, by go_num, rfl, rfl, rfl, unhide HS⟩
            case measure => simp [intOf]; omega
          · have HT := hide (((unhide HTX) ⟨#[46, 46]⟩ (by decide)).2 hk0)
            clear HTX
            have HS := hide (St.pop (x := ⟨#[46, 46]⟩) h (unhide HT) rfl hys ((own_pop' hys h.own).alloc (.cells #[.string ⟨#[97]⟩, .string ⟨#[98]⟩, .string ⟨#[46]⟩, .string ⟨#[46, 46]⟩, .string ⟨#[]⟩] 9)) (h.q.alloc _))
            clear h HT
            go_wp2_with fail
            go_roundw
            case rel => exact ⟨k + 1, _, t ++ ⟨#[47]⟩ ++ ⟨#[46, 46]⟩, ys.dropLast, ao, cp, true, by omega, by go_num, rfl, by simp, rfl, unhide HS⟩
            case measure => simp [intOf]; omega
      · have HT := hide (((unhide HTX) ⟨#[]⟩ (by decide)).2 hk0)
        clear HTX
        have HS := hide (St.skip (x := ⟨#[]⟩) h (unhide HT) (by first | exact Or.inl rfl | exact Or.inr ⟨rfl, hk0⟩) (h.own.alloc (.cells #[.string ⟨#[97]⟩, .string ⟨#[98]⟩, .string ⟨#[46]⟩, .string ⟨#[46, 46]⟩, .string ⟨#[]⟩] 9)) (h.q.alloc _))
        clear h HT
        go_wp2_with fail
        go_roundw
        case rel => exact ⟨k + 1, _, t ++ ⟨#[47]⟩ ++ ⟨#[]⟩, ys, ao, cp, b, by omega, by go_num, rfl, rfl, rfl, unhide HS⟩
        case measure => simp [intOf]; omega
    · -- the second loop
      have hk' : k = m := by omega
      clear hcells
      have HR := hide (RowS.of_own h.own)
      have HYZ := hide h.ysz
      have HP := hide h.pz
      have HTX := hide h.txt
      have HK := hide h.kept
      have q2 := q1.trans h.q
      clear h
      go_wp2_with fail
      go_loop [9, 10] (fun v j => ∃ (n : Nat) (u : ByteArray), n ≤ ys.length ∧ j = .int .i64 n ∧ v = .string u ∧ u.size ≤ 3 * n ∧ Hid (bl u = Lib.join ((ys.map bl).take n) [47]))
        (fun _ j => ys.length - (intOf j).toNat)
      case atStart => exact ⟨0, ⟨#[]⟩, by omega, rfl, rfl, by decide, rfl⟩
      case round =>
        obtain ⟨n, u, hn, rfl, rfl, hu, HU⟩ := hrel
        by_cases hnl : n < ys.length
        · rcases unhide HR with he | ⟨g, o, rfl, hg, hcell⟩
          · rw [he] at hnl; simp at hnl
          obtain ⟨y, hy⟩ : ∃ y, ys[n]? = some y := ⟨ys[n], List.getElem?_eq_getElem hnl⟩
          have hc : wr.cell? ⟨g, o + n, none⟩ = some (.string y) := hcell n y hy
          have hys : y.size ≤ 2 := unhide HYZ y (List.mem_of_getElem? hy)
          have HJ := hide (joinN ys n y hy)
          clear hcell hy
          by_cases hn0 : n = 0
          · subst hn0
            rw [Nat.add_zero] at hc
            have HN : Hid (bl (u ++ y) = Lib.join ((ys.map bl).take (0 + 1)) [47]) := by
              show _ = _; rw [unhide HJ, bl_app, HU.out]; simp
            have hsz : (u ++ y).size ≤ 3 := by rw [← bl_size, bl_app, List.length_append, bl_size, bl_size]; omega
            go_wp2_with fail
            go_round
            case rel => exact ⟨0 + 1, u ++ y, by omega, by go_num, rfl, by omega, HN⟩
            case measure => simp [intOf]; omega
          · have hn1 : 0 < n := by omega
            have HN : Hid (bl (u ++ ⟨#[47]⟩ ++ y) = Lib.join ((ys.map bl).take (n + 1)) [47]) := by
              show _ = _; rw [unhide HJ, bl_app, bl_app, HU.out, if_neg hn0]; rfl
            have hsz0 : (u ++ ⟨#[47]⟩).size ≤ 3 * n + 1 := by rw [← bl_size, bl_app, List.length_append, bl_size, bl_size]; have e1 : (⟨#[47]⟩ : ByteArray).size = 1 := rfl; rw [e1]; omega
            have hsz : (u ++ ⟨#[47]⟩ ++ y).size ≤ 3 * (n + 1) := by rw [← bl_size, bl_app, List.length_append, bl_size, bl_size]; omega
            go_wp2_with fail
            go_round
            case rel => exact ⟨n + 1, u ++ ⟨#[47]⟩ ++ y, by omega, by go_num, rfl, hsz, HN⟩
            case measure => simp [intOf]; omega
        · have hub : bl u = Lib.join (ys.map bl) [47] := by
            have := HU.out
            rw [List.take_of_length_le (by simp; omega)] at this
            exact this
          have HUB := hide hub
          clear hub
          have htl : (Lib.join ps [47]).length = t.size := by rw [← unhide HTX, bl_size]
          have HTL := hide htl
          clear htl
          have hno : cleanL (bl t) = none → (!b) = true ∨ ys = [] ∨ 16 < t.size → True := fun _ _ => trivial
          clear hno
          by_cases hbad : b = false ∨ ys = [] ∨ 16 < t.size
          · have HC : Hid (cstr (bl t) = [] ∧ cerr (bl t) = 200) := by
              refine clean_of_none ?_
              rw [unhide HTX]
              by_cases h16 : 16 < t.size
              · exact pieces_no3 (by rw [unhide HTL]; exact h16)
              · have hk2 := unhide HK
                cases b
                · exact pieces_no1 (unhide HP) hk2
                · rcases hbad with e | e | e
                  · cases e
                  · subst e; exact pieces_no2 (unhide HP) hk2
                  · exact absurd e h16
            go_wp2_with fail
            refine (clean_of t _ (by unfold maxLen; omega) (unhide HC)).mono ?_
            rintro e w3 ⟨rfl, q3⟩
            cases b
            · go_wp2_with fail
              refine (num_any _ _).mono ?_
              rintro e w4 ⟨rfl, rfl⟩
              go_wp2_with fail
              go_ret
              exact ⟨rfl, q2.trans q3⟩
            · by_cases hy : ys = []
              · have hl0 : ((ys.length : Int) == 0) = true := by rw [hy]; rfl
                go_wp2_with fail
                refine (num_any _ _).mono ?_
                rintro e w4 ⟨rfl, rfl⟩
                go_wp2_with fail
                go_ret
                exact ⟨rfl, q2.trans q3⟩
              · have hl1 : 1 ≤ ys.length := List.length_pos_iff.2 hy
                have hl0 : ((ys.length : Int) == 0) = false := beq_eq_false_iff_ne.2 (by omega)
                have h16 : 16 < t.size := by
                  rcases hbad with e | e | e
                  · cases e
                  · exact absurd e hy
                  · exact e
                go_wp2_with fail
                refine (num_any _ _).mono ?_
                rintro e w4 ⟨rfl, rfl⟩
                go_wp2_with fail
                go_ret
                exact ⟨rfl, q2.trans q3⟩
          · have hb1 : b = true := by cases b; exact absurd (Or.inl rfl) hbad; rfl
            subst hb1
            have hy : ys ≠ [] := fun e => hbad (Or.inr (Or.inl e))
            have h16 : ¬ 16 < t.size := fun e => hbad (Or.inr (Or.inr e))
            have hl1 : 1 ≤ ys.length := List.length_pos_iff.2 hy
            have hl0 : ((ys.length : Int) == 0) = false := beq_eq_false_iff_ne.2 (by omega)
            have HC : Hid (cstr (bl t) = bl u ∧ cerr (bl t) = 0) := by
              refine clean_of_cleanL ?_
              rw [unhide HTX, unhide HUB]
              exact pieces_yes (unhide HP) (unhide HK) (by simpa using hy) (by rw [unhide HTL]; omega)
            have hub : (bl u == bl u) = true := by simp
            obtain ⟨lu, hlu⟩ : ∃ lu, lu = bl u := ⟨_, rfl⟩
            obtain rfl := of_bl hlu.symm
            rw [bl_mk] at HC
            have hlb : (lu == lu) = true := by simp
            clear hlu hub hbad hy
            go_wp2_with fail
            refine (clean_of t _ (by unfold maxLen; omega) (unhide HC)).mono ?_
            rintro e w3 ⟨rfl, q3⟩
            go_wp2_with fail
            refine (num_any _ _).mono ?_
            rintro e w4 ⟨rfl, rfl⟩
            go_wp2_with fail
            go_ret
            exact ⟨rfl, q2.trans q3⟩

theorem Tryd.laidOut : laidOutB Tryd.prog = true := by kernel_rfl
set_option maxRecDepth 100000 in
theorem pathPieces_lifted (os : Os) (started : os.Started) (H : Type) (enc : TypeId × Value → H) :
    ReturnsInHanded {} Tryd.checked os 4 .any (fun w args => (Rows.pathPiecesSpec.pre enc Tryd.prog Tryd.f4 [] false w args ∧ laidMetH Tryd.prog Rows.pathPiecesRow.laid w) ∧ sizedMet enc Tryd.prog Tryd.f4 (OpenSpec.ofChange Rows.pathPiecesSpec) false w args) (Rows.pathPiecesSpec.post enc Tryd.prog Tryd.f4 false true false false) := by
  refine returnsInHanded_of_change_and (C := Tryd.checked) (X := fun w _ => laidMetH Tryd.prog Rows.pathPiecesRow.laid w) (fun _ _ _ hh h => h.of_heap hh) Tryd.own started (by kernel_rfl) Tryd.func4
    (ChangeSpec.witness_shaped (enc := enc) (C := Tryd.checked) (os := os) (X := fun w _ => laidMetH Tryd.prog Rows.pathPiecesRow.laid w) false (World.laidAll Tryd.prog os Rows.pathPiecesRow.laid) #[.slice none 0 0] 8 (World.laidAll_os _ _ _)
      (World.shaped_of_ZipB (by kernel_rfl) (by kernel_rfl)) (by kernel_rfl) (by kernel_rfl) (by kernel_rfl)
      (by rw [MakeChecks.laidMetH_plain _ _ _ (by kernel_rfl)]; exact laidMet_laidAll _ (by kernel_rfl) (by kernel_rfl))) ?_
  intro W base args ds gs before hval0 hW _ hsz0 hL _
  have hval : ∀ (j : Nat) t v, Tryd.f4.params[j]? = some t → args[j]? = some v → Value.okWide Tryd.prog W .any base t v := hval0
  have hW' := hW
  obtain ⟨p, q, hA0, hV, rfl, hfz, hnd⟩ := hW
  have hA : DataW.TrodAll enc Tryd.prog W 0 (fun _ => true) true Tryd.f4.params.toList args.toList ds p := hA0
  rw [Tryd.params4] at hA hval
  obtain ⟨v0, vs0, d0, ds0, p0, q0, hargs, rfl, rfl, h0, r0⟩ := trodAll_cons hA
  obtain ⟨rfl, rfl, rfl⟩ := trodAll_nil r0
  obtain rfl : args = #[v0] := by cases args; simp_all
  obtain ⟨rfl, rfl⟩ := trodVars_none hV
  obtain ⟨a0, len0, cap0, rfl⟩ := okWide_slice Tryd.underlying30 (hval 0 30 v0 rfl rfl)
  have k0 := h0
  have lt0 : ∀ x ∈ p0, x.block < W.heap.size := by obtain ⟨m, hm⟩ := k0; exact DataW.trod_lt m _ _ _ hm
  obtain ⟨z0, w0⟩ : ∃ zs, IsRow .i64 W a0 len0 cap0 zs := is_row Tryd.underlying30 Tryd.underlying3 (by kernel_rfl) h0
  clear hA0 hval0
  refine (pathPieces_any W a0 len0 cap0 z0 w0).mono fun e W' ⟨he, bel⟩ => ?_
  subst he
  exact ⟨_, rfl, _, _, _, [], _, [], hW', trodAll_mk1 (shut_bool Tryd.underlying4 _), (trodAll_cons_mk (Below.trod Tryd.laidOut (by kernel_rfl) (of_decide_eq_true (by kernel_rfl)) k0 bel lt0) trodAll_mk0), rfl, bel.frame _, fun h => by cases h⟩

theorem pathPieces_holds : Rows.PathPiecesSaid :=
  OpenClaim.holds_of_wide 4 Tryd.f4 rfl rfl rfl rfl rfl rfl rfl ⟨rfl, rfl, rfl, rfl, rfl⟩ rfl rfl rfl rfl rfl (by kernel_rfl) Tryd.func4 (by kernel_rfl)
    (of_decide_eq_true (by kernel_rfl)) (by unfold Func.isWrapper; first | (rw [if_pos (by decide +kernel)]; kernel_rfl) | (rw [if_neg (by decide +kernel)]; exact ⟨rfl, rfl⟩))
    (fun os started H enc _ => pathPieces_lifted os started H enc)
theorem pathPieces_card : Rows.PathPiecesCardSaid :=
  Claim7.holds_tied_plain_at .later [] [.data, .pinned] true (true, "3a7355ae6bc7581f9df2e84067cb8da87c5c2ed289003a33de32b3c4adb5adfa") false pathPieces_holds (fun _ h => by cases h) (by kernel_rfl) (fun _ h => by cases h) pathPieces_row_tie rfl ⟨rfl, rfl⟩ (by kernel_rfl) rfl
    (fun f fn hf hfn => by
      obtain rfl : f = 4 := Option.some.inj ((show Tryd.prog.funcNamed Rows.pathPiecesRow.func = some 4 by kernel_rfl).symm.trans hf) |>.symm
      obtain rfl : fn = Tryd.f4 := (Option.some.inj (Tryd.func4.symm.trans hfn)).symm
      exact ⟨by kernel_rfl, fun j t ht => by
        rw [Tryd.params4] at ht
        have hm : t ∈ [30] := by simpa using Array.mem_of_getElem? ht
        have hall : ([30].all fun u => !Tryd.prog.wantsStandIn u) = true := by kernel_rfl
        exact (show Tryd.prog.wantsStandIn t = false by simpa using List.all_eq_true.1 hall t hm)⟩)
    (by kernel_rfl)
#print axioms pathPieces_card
end Go.Proofs.YtfobpklijmnkkaaDoor
