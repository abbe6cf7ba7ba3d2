/- SignParts, whole: a sign is its parts, for any names, any command; no conditions. -/
import Derived.Test.YtbfhliocckkbmaaDoorRows
import Derived.Test.YtbfhliocckkbmaaDoorCards
import Derived.Test.YtbfhliocckkbmaaDoorTie
import Derived.LaidMore
import Derived.Lay
import Derived.SevenTiedAt
import Derived.Stop.Joined
import Derived.ProofKit
import Derived.OpenShut
import Derived.ShutString
import Derived.ChangeOld
import Derived.Below
import Derived.SizedLaws
import Derived.Test.YtbfhliocckkbmaaDoorSgOpen
namespace Go.Proofs.YtbfhliocckkbmaaDoor
open Go.ChangeShapes Go.WideShapes Go.ChangeAt Go.RowKit Go.ChangeMaps

/-- The names so far, behind what stands ahead of them. -/
def spD (ins imp : Ws) (d : Bool) (t : Tx) : Ed := ([[111]], ins, imp, [], t, d, [])
def spX (n : Nat) (a b : Option Addr) (ca cb : Nat) (ins imp : Ws) (d : Bool) (t : Tx) : EdA := (spD ins imp d t, (at0 n, 1), (a, ca), (b, cb), (none, 0))
theorem jb_next (ws : Ws) (k : Nat) (x : Tx) (h : ws[k]? = some x) : jb (ws.take (k + 1)) = if k = 0 then x else jb (ws.take k) ++ 32 :: x := by
  have := join_next [32] ws k x h
  unfold jb
  rw [this]
  split
  · rename_i h0
    subst h0
    simp [Lib.join_nil]
  · simp
theorem jb_take_le (ws : Ws) (k : Nat) : (jb (ws.take k)).length ≤ (jb ws).length := join_take_le [32] ws k

set_option maxRecDepth 20000 in
set_option maxHeartbeats 8000000 in
theorem signParts_any (W : World) (ao : Option Addr) (an ac : Nat) (ins : Ws) (hr0 : IsRowT W ao an ac ins) (bo : Option Addr) (bn bc : Nat) (imp : Ws) (hr1 : IsRowT W bo bn bc imp) (d : Bool) (t : ByteArray) (ht : t.size ≤ maxLen) :
    Calls Tryd.prog 6 #[.slice ao an ac, .slice bo bn bc, .bool d, .string t] W fun e w' => e = .returned (.bool true) ∧ Q W w' := by
  have z0 := hr0.z
  have z1 := hr1.z
  obtain ⟨rfl, _, _, _, _⟩ := hr0
  obtain ⟨rfl, _, _, _, _⟩ := hr1
  have HZ0 := hide z0
  have HZ1 := hide z1
  have HTZ : Hid ((bl t).length ≤ maxLen) := by show _ ≤ _; rw [bl_size]; exact ht
  have l0 : ins.length ≤ 140737488355328 := z0.z.n
  have l1 : imp.length ≤ 140737488355328 := z1.z.n
  clear z0 z1
  go_enter Tryd.func6, Tryd.ntmps6
  go_wp2_with fail
  refine (sawake_any _).mono ?_
  rintro e w1 ⟨rfl, q1⟩
  have HOF : Hid (Calls Tryd.prog 8 #[edV' (spX w1.heap.size ao bo ac bc ins imp d (bl t))] (al w1 [(#[.string ⟨#[111]⟩], 9), ((ev (spX w1.heap.size ao bo ac bc ins imp d (bl t))).toArray, 24)]) fun e w' => e = .returned (.tuple #[.string ⟨(sgS (spD ins imp d (bl t))).toArray⟩, .int .i64 (sgE (spD ins imp d (bl t)))]) ∧ Q (al w1 [(#[.string ⟨#[111]⟩], 9), ((ev (spX w1.heap.size ao bo ac bc ins imp d (bl t))).toArray, 24)]) w') := by
    have hb := al_blk [(#[.string ⟨#[111]⟩], 9), ((ev (spX w1.heap.size ao bo ac bc ins imp d (bl t))).toArray, 24)] w1 0 _ rfl
    have hq := q1.trans (al_q [(#[.string ⟨#[111]⟩], 9), ((ev (spX w1.heap.size ao bo ac bc ins imp d (bl t))).toArray, 24)] w1)
    exact sgOf_any (spX w1.heap.size ao bo ac bc ins imp d (bl t)) _ ⟨tvR hb _ rfl, RowG.q (unhide HZ0).r hq, RowG.q (unhide HZ1).r hq, Or.inl rfl⟩ ⟨wsz_of (ws := [[111]]) (by decide +kernel), (unhide HZ0).z, (unhide HZ1).z, wsz_of (ws := []) (by decide +kernel), unhide HTZ, by show (0 : Nat) ≤ _; decide⟩ ⟨Nat.le_refl 1, (unhide HZ0).n, (unhide HZ1).n⟩
  have qa := q1.trans (al_q [(#[.string ⟨#[111]⟩], 9), ((ev (spX w1.heap.size ao bo ac bc ins imp d (bl t))).toArray, 24)] w1)
  go_wp2_with fail
  change Calls _ _ _ (al w1 [(#[.string ⟨#[111]⟩], 9), ((ev (spX w1.heap.size ao bo ac bc ins imp d (bl t))).toArray, 24)]) _
  generalize al w1 [(#[.string ⟨#[111]⟩], 9), ((ev (spX w1.heap.size ao bo ac bc ins imp d (bl t))).toArray, 24)] = w2 at *
  refine (unhide HOF).mono ?_
  rintro e w3 ⟨rfl, q3⟩
  have qW := qa.trans q3
  clear HOF qa q3 q1
  cases hok : edOk (spD ins imp d (bl t))
  · obtain ⟨t1, t2⟩ := sg_no hok
    rw [t1, t2]
    clear t1 t2 hok
    go_wp2_with (go_at_call 10; refine (num_any _ _).mono ?_; rintro e w6 ⟨rfl, rfl⟩)
    go_ret
    exact ⟨rfl, qW⟩
  obtain ⟨t1, t2⟩ := sg_yes hok
  rw [t1, t2]
  obtain ⟨_, _, p2, p3, _, p5, _⟩ := ed_ok hok
  have HP2 := hide (show ptsB ins = true from p2)
  have HP3 := hide (show ptsB imp = true from p3)
  have htz : t.size ≤ 256 := by have h := cm_len p5; rw [← bl_size]; exact h
  have HS : Hid (bl (⟨(sgL (spD ins imp d (bl t))).toArray⟩ : ByteArray) = [111, 124] ++ jb ins ++ 124 :: (jb imp ++ 124 :: (tlB d ++ 124 :: bl t))) := by
    show _ = _
    rw [bl_mk]
    unfold sgL spD
    show jb [[111]] ++ _ = _
    rw [show jb [[111]] = [111] from Lib.join_one _ _]; simp
  generalize (⟨(sgL (spD ins imp d (bl t))).toArray⟩ : ByteArray) = S at *
  have HR0 := hide (RowG.q (unhide HZ0).r qW : RowT w3 ao ins)
  have HR1 := hide (RowG.q (unhide HZ1).r qW : RowT w3 bo imp)
  have HX0 := hide (fun x hx => (may_len (pth_may ((pts_all p2).2 x hx))).2)
  have HX1 := hide (fun x hx => (may_len (pth_may ((pts_all p3).2 x hx))).2)
  have hj0 : (jb ins).length ≤ 136 := jb_len p2
  have hj1 : (jb imp).length ≤ 136 := jb_len p3
  have HJ0 := hide hj0
  have HJ1 := hide hj1
  clear t1 t2 hok p2 p3 p5 HZ0 HZ1 HTZ ht hj0 hj1
  go_wp2_with (go_at_call 10; refine (num_any _ _).mono ?_; rintro e w6 ⟨rfl, rfl⟩)
  rename World => w4
  go_loop [12, 13] (fun v i => ∃ (k : Nat) (tb : ByteArray), k ≤ ins.length ∧ i = .int .i64 k ∧ v = .string tb ∧ tb.size ≤ 500 ∧ Hid (bl tb = [111, 124] ++ jb (ins.take k))) (fun _ i => ins.length - (intOf i).toNat)
  case atStart => exact ⟨0, ⟨#[111, 124]⟩, Nat.zero_le _, rfl, rfl, by decide, by show _ = _; simp [bl, Lib.join_nil]⟩
  case round =>
    obtain ⟨k, tb, hk, rfl, rfl, htb, HT⟩ := hrel
    by_cases hlt : k < ins.length
    · obtain ⟨x, hx⟩ : ∃ x, ins[k]? = some x := ⟨_, List.getElem?_eq_getElem hlt⟩
      rcases unhide HR0 with he | ⟨g, o, rfl, hg, hcell⟩
      · rw [he] at hlt; simp at hlt
      have cx : w4.cell? ⟨g, o + k, none⟩ = some (.string ⟨x.toArray⟩) := by have := hcell k 0 x _ hx (by decide) rfl; simpa using this
      have hxs : (⟨x.toArray⟩ : ByteArray).size ≤ 16 := by rw [mk_size']; exact unhide HX0 x (List.mem_of_getElem? hx)
      have HN := hide (jb_next ins k x hx)
      have HLE := hide (Nat.le_trans (jb_take_le ins (k + 1)) (unhide HJ0))
      have HXB := hide (bl_mk x)
      have hkI : (k : Int) < (ins.length : Int) := by omega
      clear hcell hx
      generalize (⟨x.toArray⟩ : ByteArray) = xv at *
      by_cases h0 : k = 0
      · subst h0
        rw [Nat.add_zero] at cx
        have HT2 : Hid (bl (tb ++ xv) = [111, 124] ++ jb (ins.take (0 + 1))) := by
          show _ = _
          rw [bl_app, HT.out, unhide HN, if_pos rfl, unhide HXB]; simp [Lib.join_nil]
        have HS2 : Hid ((tb ++ xv).size ≤ 500) := by
          show _ ≤ _
          rw [← bl_size, HT2.out, List.length_append]; have := unhide HLE; show 2 + _ ≤ _; omega
        clear HN HXB HLE HT
        go_wp2_with fail
        go_round
        case rel => exact ⟨0 + 1, tb ++ xv, by omega, by go_num, rfl, HS2.out, HT2⟩
        case measure => simp [intOf]; omega
      · have h0a : (0 : Int) < (k : Int) := by omega
        have HT2 : Hid (bl (tb ++ ⟨#[32]⟩ ++ xv) = [111, 124] ++ jb (ins.take (k + 1))) := by
          show _ = _
          rw [bl_app, bl_app, HT.out, unhide HN, if_neg h0, unhide HXB]; simp [bl]
        have HS2 : Hid ((tb ++ ⟨#[32]⟩ ++ xv).size ≤ 500) := by
          show _ ≤ _
          rw [← bl_size, HT2.out, List.length_append]; have := unhide HLE; show 2 + _ ≤ _; omega
        clear HN HXB HLE HT
        go_wp2_with fail
        go_round
        case rel => exact ⟨k + 1, tb ++ ⟨#[32]⟩ ++ xv, by omega, by go_num, rfl, HS2.out, HT2⟩
        case measure => simp [intOf]; omega
    · have HT2 : Hid (bl tb = [111, 124] ++ jb ins) := by
        show _ = _
        rw [HT.out, List.take_of_length_le (by omega)]
      clear HT
      have HT3 : Hid (bl (tb ++ ⟨#[124]⟩) = ([111, 124] ++ jb ins ++ [124]) ++ jb (imp.take 0)) := by
        show _ = _
        rw [bl_app, HT2.out]; simp [bl, Lib.join_nil]
      have HS3 : Hid ((tb ++ ⟨#[124]⟩).size ≤ 500) := by
        show _ ≤ _
        rw [← bl_size, bl_app, HT2.out, List.length_append, List.length_append]; have := unhide HJ0; show 2 + _ + 1 ≤ _; omega
      clear HT2
      go_wp2_with fail
      go_loop [12, 14] (fun v i => ∃ (k : Nat) (tb : ByteArray), k ≤ imp.length ∧ i = .int .i64 k ∧ v = .string tb ∧ tb.size ≤ 500 ∧ Hid (bl tb = ([111, 124] ++ jb ins ++ [124]) ++ jb (imp.take k))) (fun _ i => imp.length - (intOf i).toNat)
      case atStart => exact ⟨0, tb ++ ⟨#[124]⟩, Nat.zero_le _, rfl, rfl, HS3.out, HT3⟩
      case round =>
        obtain ⟨k, tb, hk, rfl, rfl, htb, HT⟩ := hrel
        by_cases hlt : k < imp.length
        · obtain ⟨x, hx⟩ : ∃ x, imp[k]? = some x := ⟨_, List.getElem?_eq_getElem hlt⟩
          rcases unhide HR1 with he | ⟨g, o, rfl, hg, hcell⟩
          · rw [he] at hlt; simp at hlt
          have cx : w4.cell? ⟨g, o + k, none⟩ = some (.string ⟨x.toArray⟩) := by have := hcell k 0 x _ hx (by decide) rfl; simpa using this
          have hxs : (⟨x.toArray⟩ : ByteArray).size ≤ 16 := by rw [mk_size']; exact unhide HX1 x (List.mem_of_getElem? hx)
          have HN := hide (jb_next imp k x hx)
          have HLE := hide (Nat.le_trans (jb_take_le imp (k + 1)) (unhide HJ1))
          have HXB := hide (bl_mk x)
          have hkI : (k : Int) < (imp.length : Int) := by omega
          clear hcell hx
          generalize (⟨x.toArray⟩ : ByteArray) = xv at *
          by_cases h0 : k = 0
          · subst h0
            rw [Nat.add_zero] at cx
            have HT2 : Hid (bl (tb ++ xv) = ([111, 124] ++ jb ins ++ [124]) ++ jb (imp.take (0 + 1))) := by
              show _ = _
              rw [bl_app, HT.out, unhide HN, if_pos rfl, unhide HXB]; simp [Lib.join_nil]
            have HS2 : Hid ((tb ++ xv).size ≤ 500) := by
              show _ ≤ _
              rw [← bl_size, HT2.out, List.length_append]; have := unhide HLE; rw [List.length_append, List.length_append]; have h2 := unhide HJ0; show 2 + _ + 1 + _ ≤ _; omega
            clear HN HXB HLE HT
            go_wp2_with fail
            go_round
            case rel => exact ⟨0 + 1, tb ++ xv, by omega, by go_num, rfl, HS2.out, HT2⟩
            case measure => simp [intOf]; omega
          · have h0a : (0 : Int) < (k : Int) := by omega
            have HT2 : Hid (bl (tb ++ ⟨#[32]⟩ ++ xv) = ([111, 124] ++ jb ins ++ [124]) ++ jb (imp.take (k + 1))) := by
              show _ = _
              rw [bl_app, bl_app, HT.out, unhide HN, if_neg h0, unhide HXB]; simp [bl]
            have HS2 : Hid ((tb ++ ⟨#[32]⟩ ++ xv).size ≤ 500) := by
              show _ ≤ _
              rw [← bl_size, HT2.out, List.length_append]; have := unhide HLE; rw [List.length_append, List.length_append]; have h2 := unhide HJ0; show 2 + _ + 1 + _ ≤ _; omega
            clear HN HXB HLE HT
            go_wp2_with fail
            go_round
            case rel => exact ⟨k + 1, tb ++ ⟨#[32]⟩ ++ xv, by omega, by go_num, rfl, HS2.out, HT2⟩
            case measure => simp [intOf]; omega
        · have HT2 : Hid (bl tb = ([111, 124] ++ jb ins ++ [124]) ++ jb imp) := by
            show _ = _
            rw [HT.out, List.take_of_length_le (by omega)]
          clear HT
          cases d
          · have hs : (S.toList == (tb ++ ⟨#[124, 110, 124]⟩ ++ t).toList) = true := by
              rw [bl_toList, bl_toList, HS.out, bl_app, bl_app, HT2.out]; simp [bl, tlB]
            clear HS HT2
            go_wp2_with fail
            go_ret
            exact ⟨rfl, qW⟩
          · have hs : (S.toList == (tb ++ ⟨#[124, 100, 124]⟩ ++ t).toList) = true := by
              rw [bl_toList, bl_toList, HS.out, bl_app, bl_app, HT2.out]; simp [bl, tlB]
            clear HS HT2
            go_wp2_with fail
            go_ret
            exact ⟨rfl, qW⟩

theorem Tryd.laidOut : laidOutB Tryd.prog = true := by kernel_rfl
set_option maxRecDepth 100000 in
theorem signParts_lifted (os : Os) (started : os.Started) (H : Type) (enc : TypeId × Value → H) :
    ReturnsInHanded {} Tryd.checked os 6 .any (fun w args => (Rows.signPartsSpec.pre enc Tryd.prog Tryd.f6 [] false w args ∧ laidMetH Tryd.prog Rows.signPartsRow.laid w) ∧ sizedMet enc Tryd.prog Tryd.f6 (OpenSpec.ofChange Rows.signPartsSpec) false w args) (Rows.signPartsSpec.post enc Tryd.prog Tryd.f6 false true false false) := by
  refine returnsInHanded_of_change_and (C := Tryd.checked) (X := fun w _ => laidMetH Tryd.prog Rows.signPartsRow.laid w) (fun _ _ _ hh h => h.of_heap hh) Tryd.own started (by kernel_rfl) Tryd.func6
    (ChangeSpec.witness_shaped (enc := enc) (C := Tryd.checked) (os := os) (X := fun w _ => laidMetH Tryd.prog Rows.signPartsRow.laid w) false (World.laidAll Tryd.prog os Rows.signPartsRow.laid) #[.slice none 0 0, .slice none 0 0, .bool false, .string ByteArray.empty] 8 (World.laidAll_os _ _ _)
      (World.shaped_of_ZipB (by kernel_rfl) (by kernel_rfl)) (by kernel_rfl) (by kernel_rfl) (by kernel_rfl)
      (by rw [MakeChecks.laidMetH_plain _ _ _ (by kernel_rfl)]; exact laidMet_laidAll _ (by kernel_rfl) (by kernel_rfl))) ?_
  intro W base args ds gs before hval0 hW _ hsz0 hL _
  have hval : ∀ (j : Nat) t v, Tryd.f6.params[j]? = some t → args[j]? = some v → Value.okWide Tryd.prog W .any base t v := hval0
  have hW' := hW
  obtain ⟨p, q, hA0, hV, rfl, hfz, hnd⟩ := hW
  have hA : DataW.TrodAll enc Tryd.prog W 0 (fun _ => true) true Tryd.f6.params.toList args.toList ds p := hA0
  rw [Tryd.params6] at hA hval
  rw [Tryd.params6] at hsz0
  obtain ⟨v0, vs0, d0, ds0, p0, q0, hargs, rfl, rfl, h0, r0⟩ := trodAll_cons hA
  obtain ⟨v1, vs1, d1, ds1, p1, q1, rfl, rfl, rfl, h1, r1⟩ := trodAll_cons r0
  obtain ⟨v2, vs2, d2, ds2, p2, q2, rfl, rfl, rfl, h2, r2⟩ := trodAll_cons r1
  obtain ⟨v3, vs3, d3, ds3, p3, q3, rfl, rfl, rfl, h3, r3⟩ := trodAll_cons r2
  obtain ⟨rfl, rfl, rfl⟩ := trodAll_nil r3
  obtain rfl : args = #[v0, v1, v2, v3] := by cases args; simp_all
  obtain ⟨rfl, rfl⟩ := trodVars_none hV
  obtain ⟨a0, len0, cap0, rfl⟩ := okWide_slice Tryd.underlying22 (hval 0 22 v0 rfl rfl)
  have k0 := h0
  have lt0 : ∀ x ∈ p0, x.block < W.heap.size := by obtain ⟨m, hm⟩ := k0; exact DataW.trod_lt m _ _ _ hm
  obtain ⟨z0, w0⟩ : ∃ zs, IsRowT W a0 len0 cap0 zs := Tryd.is_rowT h0 (fun elems spare e => by subst e; exact sized_slice hsz0 (j := 0) (t := 22) rfl rfl Tryd.underlying22)
  obtain ⟨a1, len1, cap1, rfl⟩ := okWide_slice Tryd.underlying22 (hval 1 22 v1 rfl rfl)
  have k1 := h1
  have lt1 : ∀ x ∈ p1, x.block < W.heap.size := by obtain ⟨m, hm⟩ := k1; exact DataW.trod_lt m _ _ _ hm
  obtain ⟨z1, w1⟩ : ∃ zs, IsRowT W a1 len1 cap1 zs := Tryd.is_rowT h1 (fun elems spare e => by subst e; exact sized_slice hsz0 (j := 1) (t := 22) rfl rfl Tryd.underlying22)
  obtain ⟨a2, rfl, rfl, rfl⟩ := open_bool Tryd.underlying4 (hval 2 4 v2 rfl rfl) h2
  obtain ⟨a3, rfl, rfl, rfl, w3⟩ := open_string Tryd.underlying9 (hval 3 9 v3 rfl rfl) h3
  clear hA0 hval0
  refine (signParts_any W a0 len0 cap0 z0 w0 a1 len1 cap1 z1 w1 a2 a3 w3).mono fun e W' ⟨he, bel⟩ => ?_
  subst he
  exact ⟨_, rfl, _, _, _, [], _, [], hW', trodAll_mk1 (shut_bool Tryd.underlying4 _), (trodAll_cons_mk (Below.trod Tryd.laidOut (by kernel_rfl) (of_decide_eq_true (by kernel_rfl)) k0 bel lt0) (trodAll_cons_mk (Below.trod Tryd.laidOut (by kernel_rfl) (of_decide_eq_true (by kernel_rfl)) k1 bel lt1) (trodAll_cons_mk (shut_bool Tryd.underlying4 a2) (trodAll_cons_mk (shut_string Tryd.underlying9 w3) trodAll_mk0)))), rfl, bel.frame _, fun h => by cases h⟩

theorem signParts_holds : Rows.SignPartsSaid :=
  OpenClaim.holds_of_wide 6 Tryd.f6 rfl rfl rfl rfl rfl rfl rfl ⟨rfl, rfl, rfl, rfl, rfl⟩ rfl rfl rfl rfl rfl (by kernel_rfl) Tryd.func6 (by kernel_rfl)
    (of_decide_eq_true (by kernel_rfl)) (by unfold Func.isWrapper; first | (rw [if_pos (by decide +kernel)]; kernel_rfl) | (rw [if_neg (by decide +kernel)]; exact ⟨rfl, rfl⟩))
    (fun os started H enc _ => signParts_lifted os started H enc)
theorem signParts_card : Rows.SignPartsCardSaid :=
  Claim7.holds_tied_plain_at .later [] [.data, .pinned] true (true, "d4e89a7e85c36141bb06b5297fcb65e899c755e51bbc01a6754520a1fa7ca3c1") false signParts_holds (fun _ h => by cases h) (by kernel_rfl) (fun _ h => by cases h) signParts_row_tie rfl ⟨rfl, rfl⟩ (by kernel_rfl) rfl
    (fun f fn hf hfn => by
      obtain rfl : f = 6 := Option.some.inj ((show Tryd.prog.funcNamed Rows.signPartsRow.func = some 6 by kernel_rfl).symm.trans hf) |>.symm
      obtain rfl : fn = Tryd.f6 := (Option.some.inj (Tryd.func6.symm.trans hfn)).symm
      exact ⟨by kernel_rfl, fun j t ht => by
        rw [Tryd.params6] at ht
        have hm : t ∈ [22, 22, 4, 9] := by simpa using Array.mem_of_getElem? ht
        have hall : ([22, 22, 4, 9].all fun u => !Tryd.prog.wantsStandIn u) = true := by kernel_rfl
        exact (show Tryd.prog.wantsStandIn t = false by simpa using List.all_eq_true.1 hall t hm)⟩)
    (by kernel_rfl)
#print axioms signParts_card

end Go.Proofs.YtbfhliocckkbmaaDoor
