/- The document's own parser: a bind line is read; the conditions: the scopes lie in memory. -/
import Derived.Test.YtpddckgkaopnlaaGreatDoorRpOver
import Derived.Test.YtpddckgkaopnlaaGreatDoorBnEvRef
import Derived.Test.YtpddckgkaopnlaaGreatDoorBnBtRow
import Derived.Test.YtpddckgkaopnlaaGreatDoorBnMfOvr
namespace Go.Proofs.YtpddckgkaopnlaaGreatDoor
open Go.RowKit

theorem bn_of (l : Tx) : bnL l = if (bnR l).2.2 then some ((bnR l).1, (bnR l).2.1) else none := by
  unfold bnL bnR
  cases ctL 61 l with
  | none => rfl
  | some x => rfl
theorem rf_full {e : Int} (h : e = 401) : rfE e = 801 := by subst h; rfl
theorem rf_form {e : Int} (h0 : e ≠ 0) (h : e ≠ 401) : rfE e = 800 := by unfold rfE; rw [if_neg h0, if_neg h]

/-- What bind says: the scope that is set lies in a cell of the parser's. -/
def BdSays (P i : Nat) (tg ou : List Bd) (l : Tx) (w : World) (e : Ending) (w' : World) : Prop := match bnL l with
  | none => e = .returned (.int .i64 800) ∧ Q w w'
  | some x => match stL tg ou x.1 x.2 with
    | .error n => e = .returned (.int .i64 n) ∧ Q w w'
    | .ok bs => e = .returned (.int .i64 0) ∧ ∃ (w2 : World) (ao : Option Addr) (cap : Nat), Q w w2 ∧ OwnD w2 w.heap.size ao cap bs ∧ w' = w2.setCell ⟨P, i, none⟩ (.slice ao bs.length cap)

set_option maxRecDepth 20000 in
set_option maxHeartbeats 8000000 in
theorem rbind_out (P : Nat) (l : ByteArray) (ou : List Bd) (oo : Option Addr) (oc : Nat) {vo : Value} {cs : Array Value} (w : World) (b : Blk w P cs 60) (k4 : cs[4]? = some (.slice oo ou.length oc)) (k11 : cs[11]? = some vo) (ho : Read w oo oc ou) (hl : l.size ≤ 4096) :
    Calls Tryz.prog 44 #[.pointer (some ⟨P, 0, none⟩), .string l, .bool true] w (BdSays P 4 ou ou (bl l) w) := by
  have HL := hide (bindLine_any l · (by unfold maxLen; omega))
  have HB := hide b
  have HCE : Hid (∀ w2, Q w w2 → w2.cell? ⟨P, 4, none⟩ = some (.slice oo ou.length oc)) := fun w2 q => (b.q q).cell 4 k4
  have HCN : Hid (∀ w2, Q w w2 → w2.cell? ⟨P, 11, none⟩ = some vo) := fun w2 q => (b.q q).cell 11 k11
  have hphi := b.hi
  clear b k4 k11
  cases hx : (bnR (bl l)).2.2 with
  | false =>
    have HX : Hid (bnL (bl l) = none) := by show _ = _; rw [bn_of, hx]; rfl
    rw [hx] at HL
    clear hx
    go_enter Tryz.func44, Tryz.ntmps44
    go_wp2_with fail
    refine (unhide HL w).mono ?_
    rintro e w1 ⟨rfl, q1⟩
    go_wp2_with fail
    go_ret
    unfold BdSays
    rw [HX.out]
    exact ⟨rfl, q1⟩
  | true =>
    have hbn : bnL (bl l) = some ((bnR (bl l)).1, (bnR (bl l)).2.1) := by rw [bn_of, hx]; rfl
    obtain ⟨l1, l2, l3⟩ := bnL_len hbn
    rw [bl_size] at l1 l2
    dsimp only at l1 l2 l3
    have HX := hide hbn
    rw [hx] at HL
    clear hx hbn
    generalize hkx : (bnR (bl l)).1 = kx at *
    generalize hvx : (bnR (bl l)).2.1 = vx at *
    clear hkx hvx
    have hkz : (⟨kx.toArray⟩ : ByteArray).size ≤ 4096 := by rw [← bl_size]; show kx.length ≤ 4096; omega
    have hvz : (⟨vx.toArray⟩ : ByteArray).size ≤ 4096 := by rw [← bl_size]; show vx.length ≤ 4096; omega
    have HEV := hide (fun w2 (q : Q w w2) => rev_any ⟨vx.toArray⟩ ou ou oo oo oc oc w2 (by unfold maxLen; omega) (ho.q q) (ho.q q))
    have hez := (evS_plain vx ou ou).2
    have HST := hide (fun w2 (q : Q w w2) => rSet_any ou ⟨kx.toArray⟩ ⟨(evS vx ou ou).toArray⟩ oo oc w2 (ho.1.q q) ho.2.1 (Nat.le_trans ho.2.2.1 ho.2.2.2) (by unfold maxLen; omega) (by rw [← bl_size]; show (evS vx ou ou).length ≤ maxLen; unfold maxLen; omega))
    have HEX : Hid (EvSays ⟨vx.toArray⟩ ou ou = fun w e w' => e = .returned (.tuple #[.string ⟨(evS vx ou ou).toArray⟩, .int .i64 (evE vx ou ou)]) ∧ Q w w') := rfl
    rw [HEX.out] at HEV
    have HSX : Hid (SetSays ou ⟨kx.toArray⟩ ⟨(evS vx ou ou).toArray⟩ = fun w e w' => ∃ ao cap, e = .returned (.tuple #[.slice ao (setB ou (mkB kx) (mkB (evS vx ou ou))).length cap, .int .i64 (setE ou (mkB kx) (mkB (evS vx ou ou)))]) ∧ OwnD w' w.heap.size ao cap (setB ou (mkB kx) (mkB (evS vx ou ou))) ∧ Q w w') := rfl
    rw [HSX.out] at HST
    have HSL : Hid (∀ {R : Except Int (List Bd)}, stL ou ou kx vx = R → ∀ e w', (match R with | .error n => e = .returned (.int .i64 n) ∧ Q w w' | .ok bs => e = .returned (.int .i64 0) ∧ ∃ (w2 : World) (ao : Option Addr) (cap : Nat), Q w w2 ∧ OwnD w2 w.heap.size ao cap bs ∧ w' = w2.setCell ⟨P, 4, none⟩ (.slice ao bs.length cap)) → BdSays P 4 ou ou (bl l) w e w') := by
      intro R hR e w' h
      unfold BdSays
      rw [unhide HX]
      simp only
      rw [hR]
      exact h
    have HST0 : Hid (evE vx ou ou ≠ 0 → stL ou ou kx vx = .error 800) := fun h => by unfold stL; rw [if_pos h]
    have HST1 : Hid (evE vx ou ou = 0 → setE ou (mkB kx) (mkB (evS vx ou ou)) ≠ 0 → stL ou ou kx vx = .error (rfE (setE ou (mkB kx) (mkB (evS vx ou ou))))) := fun h h2 => by unfold stL; rw [if_neg (by simpa using h), if_pos h2]
    have HST2 : Hid (evE vx ou ou = 0 → setE ou (mkB kx) (mkB (evS vx ou ou)) = 0 → stL ou ou kx vx = .ok (setB ou (mkB kx) (mkB (evS vx ou ou)))) := fun h h2 => by unfold stL; rw [if_neg (by simpa using h), if_neg (by simpa using h2)]
    clear HX ho hez HEX HSX
    generalize evE vx ou ou = ee at *
    generalize (⟨(evS vx ou ou).toArray⟩ : ByteArray) = ev at *
    generalize setE ou (mkB kx) (mkB (evS vx ou ou)) = se at *
    generalize setB ou (mkB kx) (mkB (evS vx ou ou)) = sb at *
    generalize (⟨kx.toArray⟩ : ByteArray) = kB at *
    generalize (⟨vx.toArray⟩ : ByteArray) = vB at *
    go_enter Tryz.func44, Tryz.ntmps44
    go_wp2_with fail
    refine (unhide HL w).mono ?_
    rintro e w1 ⟨rfl, q1⟩
    have y4 : ∀ u : Aft w1, u.to.cell? ⟨P, 4, none⟩ = some (.slice oo ou.length oc) := fun u => HCE.out _ (q1.trans u.q)
    have HC := hide (fun u : Aft w1 => unhide HEV u.to (q1.trans u.q))
    have hne := Aft.ne w1
    go_upto_region 4 with fail
    refine wp_region_aft (by kernel_rfl) (by kernel_rfl) ?_
    repeat (go_big_quiet_step ((go_at_call 87; exact Calls.aft (unhide HC _))))
    refine wpQuiet_nil ?_
    intro _ hw'
    obtain ⟨u, hw''⟩ := hw'
    subst hw''
    have qu := q1.trans u.q
    generalize u.to = w2 at qu ⊢
    clear y4 hne HC HEV HL
    by_cases he : ee = 0
    case neg =>
      have g1 : (ee != 0) = true := by simpa using he
      have g2 : (ee == 0) = false := by simpa using he
      have HR := hide (HST0.out he)
      clear he
      go_wp2_with fail
      go_ret
      exact HSL.out (unhide HR) _ _ ⟨rfl, qu⟩
    case pos =>
      have g1 : (ee != 0) = false := by simpa using he
      have g2 : (ee == 0) = true := by simpa using he
      have HEE := hide he
      clear he
      have y11 := HCN.out w2 qu
      have y4 := HCE.out w2 qu
      go_wp2_with fail
      refine (unhide HST w2 qu).mono ?_
      rintro e w3 ⟨ao, cap, rfl, hown, q3⟩
      have qz := qu.trans q3
      clear y11 y4 g1 g2
      by_cases hf : se = 401
      · have HR := hide (HST1.out (unhide HEE) (by omega))
        rw [rf_full hf] at HR
        subst hf
        go_wp2_with fail
        go_ret
        exact HSL.out (unhide HR) _ _ ⟨rfl, qz⟩
      · by_cases h0 : se = 0
        · subst h0
          have HR := hide (HST2.out (unhide HEE) rfl)
          have HO := hide (own_low hown qu.size)
          have b3 := (unhide HB).q qz
          have f4 := b3.frz 4
          have y4 := HCE.out w3 qz
          have y11 := HCN.out w3 qz
          clear hown b3
          go_wp2_with fail
          go_ret
          exact HSL.out (unhide HR) _ _ ⟨rfl, w3, ao, cap, qz, unhide HO, rfl⟩
        · have HR := hide (HST1.out (unhide HEE) h0)
          rw [rf_form h0 hf] at HR
          have g1 : (se != 0) = true := by simpa using h0
          have g2 : (se == 0) = false := by simpa using h0
          have g3 : (se == 401) = false := by simpa using hf
          clear h0 hf
          go_wp2_with fail
          go_ret
          exact HSL.out (unhide HR) _ _ ⟨rfl, qz⟩

set_option maxRecDepth 20000 in
set_option maxHeartbeats 8000000 in
theorem rbind_own (P : Nat) (l : ByteArray) (own : List Bd) (no : Option Addr) (nc : Nat) (ou : List Bd) (oo : Option Addr) (oc : Nat) {cs : Array Value} (w : World) (b : Blk w P cs 60) (k4 : cs[4]? = some (.slice oo ou.length oc)) (k11 : cs[11]? = some (.slice no own.length nc)) (ho : Read w oo oc ou) (hn : Read w no nc own) (hl : l.size ≤ 4096) :
    Calls Tryz.prog 44 #[.pointer (some ⟨P, 0, none⟩), .string l, .bool false] w (BdSays P 11 own ou (bl l) w) := by
  have HL := hide (bindLine_any l · (by unfold maxLen; omega))
  have HB := hide b
  have HCE : Hid (∀ w2, Q w w2 → w2.cell? ⟨P, 4, none⟩ = some (.slice oo ou.length oc)) := fun w2 q => (b.q q).cell 4 k4
  have HCN : Hid (∀ w2, Q w w2 → w2.cell? ⟨P, 11, none⟩ = some (.slice no own.length nc)) := fun w2 q => (b.q q).cell 11 k11
  have hphi := b.hi
  clear b k4 k11
  cases hx : (bnR (bl l)).2.2 with
  | false =>
    have HX : Hid (bnL (bl l) = none) := by show _ = _; rw [bn_of, hx]; rfl
    rw [hx] at HL
    clear hx
    go_enter Tryz.func44, Tryz.ntmps44
    go_wp2_with fail
    refine (unhide HL w).mono ?_
    rintro e w1 ⟨rfl, q1⟩
    go_wp2_with fail
    go_ret
    unfold BdSays
    rw [HX.out]
    exact ⟨rfl, q1⟩
  | true =>
    have hbn : bnL (bl l) = some ((bnR (bl l)).1, (bnR (bl l)).2.1) := by rw [bn_of, hx]; rfl
    obtain ⟨l1, l2, l3⟩ := bnL_len hbn
    rw [bl_size] at l1 l2
    dsimp only at l1 l2 l3
    have HX := hide hbn
    rw [hx] at HL
    clear hx hbn
    generalize hkx : (bnR (bl l)).1 = kx at *
    generalize hvx : (bnR (bl l)).2.1 = vx at *
    clear hkx hvx
    have hkz : (⟨kx.toArray⟩ : ByteArray).size ≤ 4096 := by rw [← bl_size]; show kx.length ≤ 4096; omega
    have hvz : (⟨vx.toArray⟩ : ByteArray).size ≤ 4096 := by rw [← bl_size]; show vx.length ≤ 4096; omega
    have HEV := hide (fun w2 (q : Q w w2) => rev_any ⟨vx.toArray⟩ ou ou oo oo oc oc w2 (by unfold maxLen; omega) (ho.q q) (ho.q q))
    have hez := (evS_plain vx ou ou).2
    have HST := hide (fun w2 (q : Q w w2) => rSet_any own ⟨kx.toArray⟩ ⟨(evS vx ou ou).toArray⟩ no nc w2 (hn.1.q q) hn.2.1 (Nat.le_trans hn.2.2.1 hn.2.2.2) (by unfold maxLen; omega) (by rw [← bl_size]; show (evS vx ou ou).length ≤ maxLen; unfold maxLen; omega))
    have HEX : Hid (EvSays ⟨vx.toArray⟩ ou ou = fun w e w' => e = .returned (.tuple #[.string ⟨(evS vx ou ou).toArray⟩, .int .i64 (evE vx ou ou)]) ∧ Q w w') := rfl
    rw [HEX.out] at HEV
    have HSX : Hid (SetSays own ⟨kx.toArray⟩ ⟨(evS vx ou ou).toArray⟩ = fun w e w' => ∃ ao cap, e = .returned (.tuple #[.slice ao (setB own (mkB kx) (mkB (evS vx ou ou))).length cap, .int .i64 (setE own (mkB kx) (mkB (evS vx ou ou)))]) ∧ OwnD w' w.heap.size ao cap (setB own (mkB kx) (mkB (evS vx ou ou))) ∧ Q w w') := rfl
    rw [HSX.out] at HST
    have HSL : Hid (∀ {R : Except Int (List Bd)}, stL own ou kx vx = R → ∀ e w', (match R with | .error n => e = .returned (.int .i64 n) ∧ Q w w' | .ok bs => e = .returned (.int .i64 0) ∧ ∃ (w2 : World) (ao : Option Addr) (cap : Nat), Q w w2 ∧ OwnD w2 w.heap.size ao cap bs ∧ w' = w2.setCell ⟨P, 11, none⟩ (.slice ao bs.length cap)) → BdSays P 11 own ou (bl l) w e w') := by
      intro R hR e w' h
      unfold BdSays
      rw [unhide HX]
      simp only
      rw [hR]
      exact h
    have HST0 : Hid (evE vx ou ou ≠ 0 → stL own ou kx vx = .error 800) := fun h => by unfold stL; rw [if_pos h]
    have HST1 : Hid (evE vx ou ou = 0 → setE own (mkB kx) (mkB (evS vx ou ou)) ≠ 0 → stL own ou kx vx = .error (rfE (setE own (mkB kx) (mkB (evS vx ou ou))))) := fun h h2 => by unfold stL; rw [if_neg (by simpa using h), if_pos h2]
    have HST2 : Hid (evE vx ou ou = 0 → setE own (mkB kx) (mkB (evS vx ou ou)) = 0 → stL own ou kx vx = .ok (setB own (mkB kx) (mkB (evS vx ou ou)))) := fun h h2 => by unfold stL; rw [if_neg (by simpa using h), if_neg (by simpa using h2)]
    clear HX ho hn hez HEX HSX
    generalize evE vx ou ou = ee at *
    generalize (⟨(evS vx ou ou).toArray⟩ : ByteArray) = ev at *
    generalize setE own (mkB kx) (mkB (evS vx ou ou)) = se at *
    generalize setB own (mkB kx) (mkB (evS vx ou ou)) = sb at *
    generalize (⟨kx.toArray⟩ : ByteArray) = kB at *
    generalize (⟨vx.toArray⟩ : ByteArray) = vB at *
    go_enter Tryz.func44, Tryz.ntmps44
    go_wp2_with fail
    refine (unhide HL w).mono ?_
    rintro e w1 ⟨rfl, q1⟩
    have y4 : ∀ u : Aft w1, u.to.cell? ⟨P, 4, none⟩ = some (.slice oo ou.length oc) := fun u => HCE.out _ (q1.trans u.q)
    have HC := hide (fun u : Aft w1 => unhide HEV u.to (q1.trans u.q))
    have hne := Aft.ne w1
    go_upto_region 4 with fail
    refine wp_region_aft (by kernel_rfl) (by kernel_rfl) ?_
    repeat (go_big_quiet_step ((go_at_call 87; exact Calls.aft (unhide HC _))))
    refine wpQuiet_nil ?_
    intro _ hw'
    obtain ⟨u, hw''⟩ := hw'
    subst hw''
    have qu := q1.trans u.q
    generalize u.to = w2 at qu ⊢
    clear y4 hne HC HEV HL
    by_cases he : ee = 0
    case neg =>
      have g1 : (ee != 0) = true := by simpa using he
      have g2 : (ee == 0) = false := by simpa using he
      have HR := hide (HST0.out he)
      clear he
      go_wp2_with fail
      go_ret
      exact HSL.out (unhide HR) _ _ ⟨rfl, qu⟩
    case pos =>
      have g1 : (ee != 0) = false := by simpa using he
      have g2 : (ee == 0) = true := by simpa using he
      have HEE := hide he
      clear he
      have y11 := HCN.out w2 qu
      have y4 := HCE.out w2 qu
      go_wp2_with fail
      refine (unhide HST w2 qu).mono ?_
      rintro e w3 ⟨ao, cap, rfl, hown, q3⟩
      have qz := qu.trans q3
      clear y11 y4 g1 g2
      by_cases hf : se = 401
      · have HR := hide (HST1.out (unhide HEE) (by omega))
        rw [rf_full hf] at HR
        subst hf
        go_wp2_with fail
        go_ret
        exact HSL.out (unhide HR) _ _ ⟨rfl, qz⟩
      · by_cases h0 : se = 0
        · subst h0
          have HR := hide (HST2.out (unhide HEE) rfl)
          have HO := hide (own_low hown qu.size)
          have b3 := (unhide HB).q qz
          have f4 := b3.frz 11
          have y4 := HCE.out w3 qz
          have y11 := HCN.out w3 qz
          clear hown b3
          go_wp2_with fail
          go_ret
          exact HSL.out (unhide HR) _ _ ⟨rfl, w3, ao, cap, qz, unhide HO, rfl⟩
        · have HR := hide (HST1.out (unhide HEE) h0)
          rw [rf_form h0 hf] at HR
          have g1 : (se != 0) = true := by simpa using h0
          have g2 : (se == 0) = false := by simpa using h0
          have g3 : (se == 401) = false := by simpa using hf
          clear h0 hf
          go_wp2_with fail
          go_ret
          exact HSL.out (unhide HR) _ _ ⟨rfl, qz⟩

end Go.Proofs.YtpddckgkaopnlaaGreatDoor
