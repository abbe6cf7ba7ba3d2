/- Several texts of mine in one: WdSame, MfBind. -/
import Derived.Test.YtpddckgkaopnlaaGreatDoorWdBuild
import Derived.Test.YtpddckgkaopnlaaGreatDoorWk1
import Derived.Test.YtpddckgkaopnlaaGreatDoorMfFind
/- What the statements' own SameTexts and SpoilTexts do: rows of texts are held against each other, written over; the conditions: at most 4096 texts, each of at most 4096 bytes. -/
namespace Go.Proofs.YtpddckgkaopnlaaGreatDoor
open Go.RowKit

/-- Nothing but the row's own block has turned. -/
structure Own1 (v : Value) (w w' : World) : Prop where
  os : w'.os = w.os
  tape : w'.tape = w.tape
  output : w'.output = w.output
  size : w.heap.size ≤ w'.heap.size
  block : ∀ k, v.ownBlock ≠ some k → w'.heap[k]? = w.heap[k]?

theorem Own1.refl (v : Value) (w : World) : Own1 v w w := ⟨rfl, rfl, rfl, Nat.le_refl _, fun _ _ => rfl⟩
theorem Own1.set {v : Value} {a w : World} (h : Own1 v a w) {g o : Nat} (hg : v.ownBlock = some g) (u : Value) : Own1 v a (w.setCell ⟨g, o, none⟩ u) :=
  ⟨h.os, h.tape, h.output, by rw [show (w.setCell ⟨g, o, none⟩ u).heap.size = w.heap.size by simp [World.setCell]]; exact h.size,
   fun k hk => (Below.heap_setCell _ _ _ _ (by rintro rfl; exact hk hg)).trans (h.block k hk)⟩
theorem Own1.own {v : Value} {w w' : World} (h : Own1 v w w') {B e size n : Nat} {u : Value} {xs : List Value} (hu : w.ownsRow B e size u n xs) (hf : ∀ k, v.ownBlock = some k → k < B) : w'.ownsRow B e size u n xs := by
  have hl := fun k hk => hu.lt k hk
  obtain ⟨h1, h2⟩ := hu
  rcases h2 with hn | ⟨g, cap, cur, e1, hg, hgg, rest⟩
  · exact ⟨h1, Or.inl hn⟩
  · exact ⟨h1, Or.inr ⟨g, cap, cur, e1, hg, (h.block g (fun e => by have := hf g e; omega)).trans hgg, rest⟩⟩
theorem Own1.below {v : Value} {w w' : World} {B e size n : Nat} {xs : List Value} (h : Own1 v w w') (ho : w.ownsRow B e size v n xs) : Below B w w' :=
  ⟨h.os, h.tape, h.output, h.size, fun k hk => h.block k (fun e => by have := (ho.lt k e).1; omega)⟩

theorem tilde (p : List UInt8) : (⟨#[126]⟩ ++ ⟨p.toArray⟩ : ByteArray) = ⟨(126 :: p).toArray⟩ := of_bl (by rw [bl_app]; rfl)

set_option maxHeartbeats 4000000 in
theorem spoilT_any (ao : Option Addr) (cap B : Nat) (ps : Ws) (w : World) (hown : OwnT w B ao cap ps) (hn : ps.length ≤ 4096) (hm : ∀ p ∈ ps, p.length ≤ 4096) :
    Calls Tryz.prog 22 #[.slice ao ps.length cap] w fun e w' => e = .returned (.tuple #[]) ∧ Own1 (.slice ao ps.length cap) w w' := by
  go_enter Tryz.func22, Tryz.ntmps22
  go_wp2_with fail
  go_loopw [2] (fun i wr => ∃ (k : Nat) (qs : Ws), k ≤ ps.length ∧ i = .int .i64 k ∧ Hid (qs.length = ps.length ∧ ∀ j, k ≤ j → qs[j]? = ps[j]?) ∧ Hid (OwnT wr B ao cap qs) ∧ Hid (Own1 (.slice ao ps.length cap) w wr)) (fun i _ => ps.length - (intOf i).toNat)
  case atStart => exact ⟨0, ps, Nat.zero_le _, rfl, ⟨rfl, fun _ _ => rfl⟩, hown, Own1.refl _ _⟩
  case round =>
    obtain ⟨k, qs, hk, rfl, HL, HO, hq⟩ := hrel
    by_cases hlt : k < ps.length
    · obtain ⟨p, hp⟩ : ∃ p, ps[k]? = some p := ⟨ps[k], List.getElem?_eq_getElem hlt⟩
      have hpl : p.length ≤ 4096 := hm p (List.mem_of_getElem? hp)
      have hqp : qs[k]? = some p := (HL.out.2 k (Nat.le_refl _)).trans hp
      have hql := HL.out.1
      obtain ⟨g, rfl, hgB, hg, hf, hc⟩ := own_some tv_len (by decide) (by omega) HO.out
      have c2 : wr.cell? ⟨g, k, none⟩ = some (.string ⟨p.toArray⟩) := by simpa using hc k 0 p _ hqp (by decide) rfl
      have hfr := hf k
      have hps : (⟨p.toArray⟩ : ByteArray).size = p.length := by rw [← bl_size]; rfl
      have HX := hide (own_set tv_len HO.out k 0 p (126 :: p) (.string (⟨#[126]⟩ ++ ⟨p.toArray⟩)) hqp (by decide) (by
        show [Value.string ⟨(126 :: p).toArray⟩] = [Value.string (⟨#[126]⟩ ++ ⟨p.toArray⟩)]
        rw [tilde]))
      rw [Nat.mul_one, Nat.add_zero] at HX
      have HL2 : Hid ((qs.set k (126 :: p)).length = ps.length ∧ ∀ j, k + 1 ≤ j → (qs.set k (126 :: p))[j]? = ps[j]?) :=
        ⟨by rw [List.length_set]; exact hql, fun j hj => by rw [List.getElem?_set_ne (by omega)]; exact HL.out.2 j (by omega)⟩
      have HO2 : Hid (OwnT (wr.setCell ⟨g, k, none⟩ (.string (⟨#[126]⟩ ++ ⟨p.toArray⟩))) B (some ⟨g, 0, none⟩) cap (qs.set k (126 :: p))) := by
        show World.ownsRow _ _ _ _ (.slice _ (qs.set _ _).length _) (qs.set _ _).length _
        rw [List.length_set]; exact unhide HX
      have HQ2 : Hid (Own1 (.slice (some ⟨g, 0, none⟩) ps.length cap) w (wr.setCell ⟨g, k, none⟩ (.string (⟨#[126]⟩ ++ ⟨p.toArray⟩)))) := hq.out.set (by rfl) _
      clear hc hf HX HL HO hp hqp hql hm hown hq
      go_wp2_with fail
      go_roundw
      case rel => exact ⟨k + 1, qs.set k (126 :: p), by omega, by go_num, HL2, HO2, HQ2⟩
      case measure => simp [intOf]; omega
    · go_wp2_with fail
      go_end0
      exact ⟨rfl, hq.out⟩

end Go.Proofs.YtpddckgkaopnlaaGreatDoor

/- What package manifest's depthOf, refusal, bindOf and clean answer; the conditions: the lengths. -/
namespace Go.Proofs.YtpddckgkaopnlaaGreatDoor
open Go.RowKit

theorem refusal_any (e : Int) (w : World) :
    Calls Tryz.prog 116 #[.int .i64 e] w fun x w' => x = .returned (.int .i64 (rfE e)) ∧ w' = w := by
  by_cases h0 : e = 0
  · subst h0
    go_enter Tryz.func116, Tryz.ntmps116
    go_wp2_with fail
    go_ret
    exact ⟨rfl, rfl⟩
  by_cases h1 : e = 401
  · subst h1
    go_enter Tryz.func116, Tryz.ntmps116
    go_wp2_with fail
    go_ret
    exact ⟨rfl, rfl⟩
  have HE : Hid (rfE e = 800) := by show _ = _; unfold rfE; rw [if_neg h0, if_neg h1]
  have g0 : (e == 0) = false := by simpa using h0
  have g1 : (e == 401) = false := by simpa using h1
  go_enter Tryz.func116, Tryz.ntmps116
  go_wp2_with fail
  go_ret
  exact ⟨ret_int HE.out.symm, rfl⟩

theorem dpth_long {l : Tx} (h : l.length ≠ 1) : dpth l = 0 := by
  match l, h with
  | [], _ => rfl
  | [c], h => exact absurd rfl h
  | a :: b :: r, _ => rfl

theorem depthOf_any (s : ByteArray) (w : World) :
    Calls Tryz.prog 77 #[.string s] w fun x w' => x = .returned (.int .i64 (dpth (bl s))) ∧ w' = w := by
  by_cases h1 : s.size = 1
  · have h0 : 0 < s.size := by omega
    have hc : bl s = [s[0]] := by
      have h3 : (bl s).length = 1 := by rw [bl_size]; exact h1
      have h4 : (bl s)[0]? = some s[0] := by
        show s.data.toList[0]? = some s[0]
        rw [Array.getElem?_toList, Array.getElem?_eq_getElem (by exact h0)]; rfl
      match hb : bl s, h3, h4 with
      | [c], _, h4 => simp at h4; rw [h4]
    have g0 : ((s.size : Int) == 1) = true := by simp; omega
    have g1 : ((s.size : Int) != 1) = false := by simp; omega
    have hc255 := s[0].toNat_lt
    by_cases h2 : 49 ≤ s[0].toNat
    · by_cases h3 : s[0].toNat ≤ 56
      · have HE : Hid (dpth (bl s) = s[0].toNat - 48) := by show _ = _; rw [hc]; show (if _ then _ else _) = _; rw [if_pos ⟨h2, h3⟩]
        have g2 : 49 ≤ (s[0].toNat : Int) := by omega
        have g3 : (s[0].toNat : Int) ≤ 56 := by omega
        clear h1 hc
        go_enter Tryz.func77, Tryz.ntmps77
        go_wp2_with fail
        go_ret
        exact ⟨ret_int (by rw [HE.out]; omega), rfl⟩
      · have HE : Hid (dpth (bl s) = 0) := by show _ = _; rw [hc]; show (if _ then _ else _) = _; rw [if_neg (by omega)]
        have g2 : 49 ≤ (s[0].toNat : Int) := by omega
        have g3 : (56 < (s[0].toNat : Int)) := by omega
        clear h1 hc
        go_enter Tryz.func77, Tryz.ntmps77
        go_wp2_with fail
        go_ret
        exact ⟨ret_int (by rw [HE.out]; rfl), rfl⟩
    · have HE : Hid (dpth (bl s) = 0) := by show _ = _; rw [hc]; show (if _ then _ else _) = _; rw [if_neg (by omega)]
      have g2 : ((s[0].toNat : Int) < 49) := by omega
      clear h1 hc
      go_enter Tryz.func77, Tryz.ntmps77
      go_wp2_with fail
      go_ret
      exact ⟨ret_int (by rw [HE.out]; rfl), rfl⟩
  · have HE : Hid (dpth (bl s) = 0) := dpth_long (by rw [bl_size]; exact h1)
    have g1 : ((s.size : Int) == 1) = false := by simp; omega
    have g2 : ((s.size : Int) != 1) = true := by simp; omega
    go_enter Tryz.func77, Tryz.ntmps77
    go_wp2_with fail
    go_ret
    exact ⟨ret_int (by rw [HE.out]; rfl), rfl⟩

theorem trL_le (l : Tx) : (trL l).length ≤ l.length := tr_len l

/-- What bindOf answers. -/
def bnT (l : Tx) : Tx × Tx × Bool := match bnL l with | some x => (x.1, x.2, true) | none => ([], [], false)

set_option maxHeartbeats 2000000 in
theorem bindOf_any (s : ByteArray) (w : World) (hs : s.size ≤ maxLen) :
    Calls Tryz.prog 30 #[.string s] w fun e w' => e = .returned (.tuple #[.string ⟨(bnT (bl s)).1.toArray⟩, .string ⟨(bnT (bl s)).2.1.toArray⟩, .bool (bnT (bl s)).2.2]) ∧ Q w w' := by
  have hC := hide (cut1_any s 61 w hs)
  cases hk : ctL 61 (bl s) with
  | none =>
    have HB : Hid (bnT (bl s) = ([], [], false)) := by show _ = _; unfold bnT bnL; rw [hk]
    have e1 : (cutT (bl s) 61).2.2 = false := by unfold cutT; rw [hk]
    rw [e1] at hC
    clear hk e1
    go_enter Tryz.func30, Tryz.ntmps30
    go_wp2_with fail
    refine (unhide hC).mono ?_
    rintro e w1 ⟨x, y, rfl, _, _, hx, hy, q1⟩
    go_wp2_with fail
    refine (trim_any x w1 (Nat.le_trans hx hs)).mono ?_
    rintro e w2 ⟨rfl, q2⟩
    go_wp2_with fail
    go_ret3
    rw [HB.out]
    exact ⟨rfl, q1.trans q2⟩
  | some z =>
    have e1 : cutT (bl s) 61 = (z.1, z.2, true) := by unfold cutT; rw [hk]
    rw [e1] at hC
    cases hm : mayL (trL z.1)
    · have HB : Hid (bnT (bl s) = ([], [], false)) := by show _ = _; unfold bnT bnL; rw [hk]; simp [hm]
      have HM : Hid (mayB ⟨(trL z.1).toArray⟩ = false) := by show _ = _; rw [mayB_mayL]; exact hm
      clear hk e1 hm
      go_enter Tryz.func30, Tryz.ntmps30
      go_wp2_with fail
      refine (unhide hC).mono ?_
      rintro e w1 ⟨x, y, rfl, ex, ey, hx, hy, q1⟩
      have EX := hide ex
      have EY := hide ey
      clear ex ey
      have ht := hide (trim_any x w1 (Nat.le_trans hx hs))
      rw [unhide EX] at ht
      have hsz : (⟨(trL z.1).toArray⟩ : ByteArray).size ≤ maxLen := by
        have h1 := trL_le z.1
        have h2 : z.1.length = x.size := by rw [← bl_size, unhide EX]
        rw [← bl_size]; show (trL z.1).length ≤ maxLen
        unfold maxLen at hs ⊢; omega
      generalize (⟨(trL z.1).toArray⟩ : ByteArray) = t at ht HM hsz
      go_wp2_with fail
      refine (unhide ht).mono ?_
      rintro e w2 ⟨rfl, q2⟩
      have hmm := hide (may_any t w2 hsz)
      rw [unhide HM] at hmm
      go_wp2_with fail
      refine (unhide hmm).mono ?_
      rintro e w3 ⟨rfl, q3⟩
      go_wp2_with fail
      go_ret3
      rw [HB.out]
      exact ⟨rfl, (q1.trans q2).trans q3⟩
    · have HB : Hid (bnT (bl s) = (trL z.1, trL z.2, true)) := by show _ = _; unfold bnT bnL; rw [hk]; simp [hm]
      have HM : Hid (mayB ⟨(trL z.1).toArray⟩ = true) := by show _ = _; rw [mayB_mayL]; exact hm
      clear hk e1 hm
      rw [HB.out]
      go_enter Tryz.func30, Tryz.ntmps30
      go_wp2_with fail
      refine (unhide hC).mono ?_
      rintro e w1 ⟨x, y, rfl, ex, ey, hx, hy, q1⟩
      have EX := hide ex
      have EY := hide ey
      clear ex ey
      have ht := hide (trim_any x w1 (Nat.le_trans hx hs))
      rw [unhide EX] at ht
      have HT2 := hide (fun w => trim_any y w (Nat.le_trans hy hs))
      rw [unhide EY] at HT2
      have hsz : (⟨(trL z.1).toArray⟩ : ByteArray).size ≤ maxLen := by
        have h1 := trL_le z.1
        have h2 : z.1.length = x.size := by rw [← bl_size, unhide EX]
        rw [← bl_size]; show (trL z.1).length ≤ maxLen
        unfold maxLen at hs ⊢; omega
      generalize ht1 : (⟨(trL z.1).toArray⟩ : ByteArray) = t at ht HM hsz
      have HT1 := hide ht1
      clear ht1
      go_wp2_with fail
      refine (unhide ht).mono ?_
      rintro e w2 ⟨rfl, q2⟩
      have hmm := hide (may_any t w2 hsz)
      rw [unhide HM] at hmm
      go_wp2_with fail
      refine (unhide hmm).mono ?_
      rintro e w3 ⟨rfl, q3⟩
      go_wp2_with fail
      refine (unhide HT2 _).mono ?_
      rintro e w4 ⟨rfl, q4⟩
      go_wp2_with fail
      go_ret3
      rw [← unhide HT1]
      exact ⟨rfl, ((q1.trans q2).trans q3).trans q4⟩

end Go.Proofs.YtpddckgkaopnlaaGreatDoor
