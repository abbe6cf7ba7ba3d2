/- The document's own cleaned and paths; the conditions: what they are asked of lies in memory. -/
import Derived.Test.YtpddckgkaopnlaaGreatDoorBnMfSpoil
import Derived.Test.YtpddckgkaopnlaaGreatDoorBnMfEdge
namespace Go.Proofs.YtpddckgkaopnlaaGreatDoor
open Go.RowKit

theorem clL_app : ∀ (a b : Ws), clL (a ++ b) = match clL a, clL b with | some x, some y => some (x ++ y) | _, _ => none
  | [], b => by show clL b = _; cases clL b <;> rfl
  | x :: r, b => by
    show clL (x :: (r ++ b)) = _
    rw [clL, clL, clL_app r b]
    cases cleanL x <;> cases clL r <;> cases clL b <;> rfl
theorem clL_one (x : Tx) : clL [x] = (cleanL x).map fun a => [a] := by
  rw [clL, clL]
  cases cleanL x <;> rfl
theorem cl_take {ws : Ws} {k : Nat} {x a : Tx} {ds : Ws} (h : clL (ws.take k) = some ds) (hx : ws[k]? = some x) (ha : cleanL x = some a) : clL (ws.take (k + 1)) = some (ds ++ [a]) := by
  rw [List.take_add_one, hx, clL_app, h, Option.toList_some, clL_one, ha]; rfl
theorem cl_stop {ws : Ws} {k : Nat} {x : Tx} (hx : ws[k]? = some x) (ha : cleanL x = none) : clL ws = none := by
  have hk : k < ws.length := (List.getElem?_eq_some_iff.1 hx).1
  have e : ws = ws.take k ++ ([x] ++ ws.drop (k + 1)) := by
    rw [← (List.getElem?_eq_some_iff.1 hx).2]
    show ws = ws.take k ++ (ws[k] :: ws.drop (k + 1))
    rw [← List.drop_eq_getElem_cons hk, List.take_append_drop]
  rw [e, clL_app, clL_app, clL_one, ha]
  cases clL (ws.take k) <;> rfl

/-- What cleaned answers. -/
def ClSays (ws : Ws) (w : World) (e : Ending) (w' : World) : Prop := ∃ (ao : Option Addr) (cap : Nat),
  e = .returned (.tuple #[.slice ao ((clL ws).getD []).length cap, .bool (clL ws).isSome]) ∧ OwnT w' w.heap.size ao cap ((clL ws).getD []) ∧ Q w w'

set_option maxRecDepth 20000 in
set_option maxHeartbeats 4000000 in
theorem cleaned_any (ws : Ws) (bo : Option Addr) (bcap : Nat) (w : World) (hr : RowT w bo ws) (hn : ws.length ≤ 4096) (hl : ∀ x ∈ ws, x.length ≤ 4096) :
    Calls Tryz.prog 55 #[.slice bo ws.length bcap] w (ClSays ws w) := by
  obtain ⟨i0, hi, hz0, hz1, hz2⟩ := info_parts Tryz.infoS
  have HL := hide hl
  clear hl
  go_enter Tryz.func55, Tryz.ntmps55
  go_wp2_with fail
  go_loopw [4, 5] (fun v i wr => ∃ (k : Nat) (ds : Ws) (ao : Option Addr) (cap : Nat), k ≤ ws.length ∧ i = .int .i64 k ∧ v = .slice ao ds.length cap ∧ ds.length ≤ k ∧ OwnT wr w.heap.size ao cap ds ∧ Q w wr ∧ Hid (clL (ws.take k) = some ds)) (fun _ i _ => ws.length - (intOf i).toNat)
  case atStart => exact ⟨0, [], none, 0, Nat.zero_le _, rfl, rfl, Nat.le_refl _, World.ownsRow_nil _ _ _ _, Q.refl _, by show _ = _; rfl⟩
  case round =>
    obtain ⟨k, ds, ao, cap, hk, rfl, rfl, hdk, hown, hq, HC⟩ := hrel
    have hyc := own_le hown
    have hqs := hq.size
    by_cases hlt : k < ws.length
    · rcases hr.q hq with he | ⟨g, o, rfl, hg, hcell⟩
      · rw [he] at hlt; simp at hlt
      obtain ⟨b, hb⟩ : ∃ b, ws[k]? = some b := ⟨ws[k], List.getElem?_eq_getElem hlt⟩
      have c1 : wr.cell? ⟨g, o + k, none⟩ = some (.string ⟨b.toArray⟩) := by
        have := hcell k 0 b _ hb (by decide) rfl
        simpa using this
      have hbl := unhide HL b (List.mem_of_getElem? hb)
      have hbz : (⟨b.toArray⟩ : ByteArray).size ≤ maxLen := by rw [← bl_size]; show b.length ≤ maxLen; unfold maxLen; omega
      have HP := hide (cleanPath_any ⟨b.toArray⟩ wr hbz)
      rw [show bl ⟨b.toArray⟩ = b from rfl] at HP
      have HB := hide hb
      clear hcell hb hbl hbz
      generalize (⟨b.toArray⟩ : ByteArray) = x1 at c1 HP
      cases hcl : cleanL b with
      | none =>
        have HX : Hid (clL ws = none) := cl_stop (unhide HB) hcl
        obtain ⟨e1, e2⟩ := clean_of_none hcl
        rw [e1, e2] at HP
        clear hcl e1 e2 HB HC
        go_wp2_with fail
        refine (unhide HP).mono ?_
        rintro e w2 ⟨rfl, q2⟩
        go_wp2_with fail
        go_ret2
        refine ⟨none, 0, ?_, ?_, hq.trans q2⟩
        · rw [HX.out]; rfl
        · rw [HX.out]; exact World.ownsRow_nil _ _ _ _
      | some a =>
        have HX := hide (cl_take HC.out (unhide HB) hcl)
        obtain ⟨e1, e2⟩ := clean_of_cleanL hcl
        rw [e1, e2] at HP
        clear hcl e1 e2 HB HC
        have HTV : Hid (tv a = [Value.string ⟨a.toArray⟩]) := rfl
        generalize hav : (⟨a.toArray⟩ : ByteArray) = av at HP
        have HAV := hide hav
        clear hav
        go_wp2_with fail
        refine (unhide HP).mono ?_
        rintro e w2 ⟨rfl, q2⟩
        have hown2 := own_q hown q2
        have hq2 := hq.trans q2
        have hqs2 := hq2.size
        clear hown hq
        go_wp2_with (at_builtin; refine wpList_append_lies _ rfl _ _ 24 rfl w.heap.size 9 i0 (.string ByteArray.empty) 1 16 Tryz.underlying24 hi hz0 hz1 hz2 rfl (by decide) _ _ _ rfl (hown2.alloc _) ⟨w2.heap.size, 0, none⟩ 1 1 [.string av] rfl rfl (news_at (by simp) #[.string av] _) (one_str _) (by decide) (by unfold maxLen; omega) (by omega) (le_alloc hqs2 _) (w2.heap.size + 1) (by simp) ?_)
        intro g' cp' w3 hown3 hgrow hor hglt
        have hq3 : Q w w3 := Below.grown (hq2.alloc _) hgrow (le_alloc hqs2 _) (fun r hr => (hown2.lt r hr).1)
        have HO : Hid (OwnT w3 w.heap.size (some ⟨g', 0, none⟩) cp' (ds ++ [a])) := by
          have h := hown3
          show w3.ownsRow _ _ _ (.slice _ (ds ++ [a]).length _) (ds ++ [a]).length (lay tv (ds ++ [a]))
          rw [lay_snoc, List.length_append, unhide HTV, unhide HAV]
          exact h
        clear hown3 hgrow hown2 hor
        go_wp2
        go_roundw
        case rel =>
          refine ⟨k + 1, ds ++ [a], some ⟨g', 0, none⟩, cp', by omega, by go_num, ?_, ?_, unhide HO, hq3, HX⟩
          · simp
          · simp; omega
        case measure => simp [intOf]; omega
    · have HX : Hid (clL ws = some ds) := by
        have := HC.out
        rwa [List.take_of_length_le (by omega)] at this
      clear HC
      go_wp2_with fail
      go_ret2
      refine ⟨ao, cap, ?_, ?_, hq⟩
      · rw [HX.out]; rfl
      · rw [HX.out]; exact hown

def clG (ws : Ws) : Ws := (clL ws).getD []
def btV (b : Bt) (a0 a2 a3 a4 : Option Addr) (c0 c2 c3 c4 : Nat) : List Value := [.slice a0 b.1.length c0, .string ⟨b.2.1.toArray⟩, .slice a2 b.2.2.1.length c2, .slice a3 b.2.2.2.1.length c3, .slice a4 b.2.2.2.2.length c4]
def clB (b : Bt) : Bt := (clG b.1, b.2.1, clG b.2.2.1, clG b.2.2.2.1, clG b.2.2.2.2)
def clO (b : Bt) : Bool := (clL b.1).isSome && (clL b.2.2.1).isSome && (clL b.2.2.2.1).isSome && (clL b.2.2.2.2).isSome

/-- Five cells are written. -/
def pS (w : World) (G : Nat) (v0 v1 v2 v3 v4 : Value) : World := ((((w.setCell ⟨G, 0, none⟩ v0).setCell ⟨G, 1, none⟩ v1).setCell ⟨G, 2, none⟩ v2).setCell ⟨G, 3, none⟩ v3).setCell ⟨G, 4, none⟩ v4
theorem pS_facts {w : World} {G : Nat} {a b c d e : Value} {t : TypeId} (h : Blk w G #[a, b, c, d, e] t) (v0 v1 v2 v3 v4 : Value) : Blk (pS w G v0 v1 v2 v3 v4) G #[v0, v1, v2, v3, v4] t ∧ Fr (fun k => k = G) w (pS w G v0 v1 v2 v3 v4) :=
  ⟨((((h.set 0 v0).set 1 v1).set 2 v2).set 3 v3).set 4 v4, ((((Fr.set w G 0 v0).trans (Fr.set _ G 1 v1)).trans (Fr.set _ G 2 v2)).trans (Fr.set _ G 3 v3)).trans (Fr.set _ G 4 v4)⟩

def PtSays (b : Bt) (w : World) (e : Ending) (w' : World) : Prop := ∃ (a0 a2 a3 a4 : Option Addr) (c0 c2 c3 c4 : Nat),
  e = .returned (.tuple #[.agg (btV (clB b) a0 a2 a3 a4 c0 c2 c3 c4).toArray, .bool (clO b)]) ∧ OwnT w' w.heap.size a0 c0 (clG b.1) ∧ OwnT w' w.heap.size a2 c2 (clG b.2.2.1) ∧ OwnT w' w.heap.size a3 c3 (clG b.2.2.2.1) ∧ OwnT w' w.heap.size a4 c4 (clG b.2.2.2.2) ∧
  (∀ k ∈ (Value.slice a0 (clG b.1).length c0).ownBlock.toList ++ (Value.slice a2 (clG b.2.2.1).length c2).ownBlock.toList ++ (Value.slice a3 (clG b.2.2.2.1).length c3).ownBlock.toList ++ (Value.slice a4 (clG b.2.2.2.2).length c4).ownBlock.toList, w.heap.size ≤ k) ∧ Q w w'

set_option maxRecDepth 20000 in
set_option maxHeartbeats 8000000 in
theorem paths_any (b : Bt) (a0 a2 a3 a4 : Option Addr) (c0 c2 c3 c4 : Nat) (w : World) (h : Four.Rows w b a0 a2 a3 a4) (hl0 : b.1.length ≤ 4096 ∧ ∀ x ∈ b.1, x.length ≤ 4096) (hl2 : b.2.2.1.length ≤ 4096 ∧ ∀ x ∈ b.2.2.1, x.length ≤ 4096) (hl3 : b.2.2.2.1.length ≤ 4096 ∧ ∀ x ∈ b.2.2.2.1, x.length ≤ 4096) (hl4 : b.2.2.2.2.length ≤ 4096 ∧ ∀ x ∈ b.2.2.2.2, x.length ≤ 4096) :
    Calls Tryz.prog 54 #[.agg #[.slice a0 b.1.length c0, .string ⟨b.2.1.toArray⟩, .slice a2 b.2.2.1.length c2, .slice a3 b.2.2.2.1.length c3, .slice a4 b.2.2.2.2.length c4]] w (PtSays b w) := by
  have S0 := hide (fun w2 (q : Q w w2) => cleaned_any b.1 a0 c0 w2 (h.a.q q) hl0.1 hl0.2)
  have S2 := hide (fun w2 (q : Q w w2) => cleaned_any b.2.2.1 a2 c2 w2 (h.b.q q) hl2.1 hl2.2)
  have S3 := hide (fun w2 (q : Q w w2) => cleaned_any b.2.2.2.1 a3 c3 w2 (h.c.q q) hl3.1 hl3.2)
  have S4 := hide (fun w2 (q : Q w w2) => cleaned_any b.2.2.2.2 a4 c4 w2 (h.d.q q) hl4.1 hl4.2)
  clear h hl0 hl2 hl3 hl4
  go_enter Tryz.func54, Tryz.ntmps54
  go_wp2_with fail
  have hb1 := (Blk.new w #[.slice a0 b.1.length c0, .string ⟨b.2.1.toArray⟩, .slice a2 b.2.2.1.length c2, .slice a3 b.2.2.2.1.length c3, .slice a4 b.2.2.2.2.length c4] 58).q ((Q.refl _).alloc (.cells #[.slice none 0 0, .string ⟨#[]⟩, .slice none 0 0, .slice none 0 0, .slice none 0 0] 58))
  have hb2 := Blk.new (w.alloc (.cells #[.slice a0 b.1.length c0, .string ⟨b.2.1.toArray⟩, .slice a2 b.2.2.1.length c2, .slice a3 b.2.2.2.1.length c3, .slice a4 b.2.2.2.2.length c4] 58)) #[.slice none 0 0, .string ⟨#[]⟩, .slice none 0 0, .slice none 0 0, .slice none 0 0] 58
  rw [size_alloc] at hb2
  have qb := ((Q.refl w).alloc (.cells #[.slice a0 b.1.length c0, .string ⟨b.2.1.toArray⟩, .slice a2 b.2.2.1.length c2, .slice a3 b.2.2.2.1.length c3, .slice a4 b.2.2.2.2.length c4] 58)).alloc (.cells #[.slice none 0 0, .string ⟨#[]⟩, .slice none 0 0, .slice none 0 0, .slice none 0 0] 58)
  have hsz : ((w.alloc (.cells #[.slice a0 b.1.length c0, .string ⟨b.2.1.toArray⟩, .slice a2 b.2.2.1.length c2, .slice a3 b.2.2.2.1.length c3, .slice a4 b.2.2.2.2.length c4] 58)).alloc (.cells #[.slice none 0 0, .string ⟨#[]⟩, .slice none 0 0, .slice none 0 0, .slice none 0 0] 58)).heap.size = w.heap.size + 2 := by rw [size_alloc, size_alloc]
  generalize hrn : (⟨b.2.1.toArray⟩ : ByteArray) = rn at *
  have HRN := hide hrn
  clear hrn
  generalize (w.alloc (.cells #[.slice a0 b.1.length c0, .string rn, .slice a2 b.2.2.1.length c2, .slice a3 b.2.2.2.1.length c3, .slice a4 b.2.2.2.2.length c4] 58)).alloc (.cells #[.slice none 0 0, .string ⟨#[]⟩, .slice none 0 0, .slice none 0 0, .slice none 0 0] 58) = wb at *
  generalize hX : w.heap.size = X at *
  have HX := hide hX
  clear hX
  have HB1 := hide hb1
  have HB2 := hide hb2
  clear hb1 hb2
  refine (unhide S0 _ qb).mono ?_
  rintro e w1 ⟨o0, d0, rfl, p0, q1⟩
  have x2 : w1.cell? ⟨X, 2, none⟩ = some (.slice a2 b.2.2.1.length c2) := ((unhide HB1).q q1).cell 2 rfl
  have qw1 := qb.trans q1
  go_wp2_with fail
  refine (unhide S2 _ qw1).mono ?_
  rintro e w2 ⟨o2, d2, rfl, p2, q2⟩
  have x3 : w2.cell? ⟨X, 3, none⟩ = some (.slice a3 b.2.2.2.1.length c3) := ((unhide HB1).q (q1.trans q2)).cell 3 rfl
  have qw2 := qw1.trans q2
  clear x2
  go_wp2_with fail
  refine (unhide S3 _ qw2).mono ?_
  rintro e w3 ⟨o3, d3, rfl, p3, q3⟩
  have x4 : w3.cell? ⟨X, 4, none⟩ = some (.slice a4 b.2.2.2.2.length c4) := ((unhide HB1).q ((q1.trans q2).trans q3)).cell 4 rfl
  have qw3 := qw2.trans q3
  clear x3
  go_wp2_with fail
  refine (unhide S4 _ qw3).mono ?_
  rintro e w4 ⟨o4, d4, rfl, p4, q4⟩
  have qw4 := qw3.trans q4
  have q14 := ((q1.trans q2).trans q3).trans q4
  have x1 : w4.cell? ⟨X, 1, none⟩ = some (.string rn) := ((unhide HB1).q q14).cell 1 rfl
  have HRB := hide ((unhide HB2).q q14)
  have z0 : w4.cell? ⟨X + 1, 0, none⟩ = some (.slice none 0 0) := (unhide HRB).cell 0 rfl
  have z1 : w4.cell? ⟨X + 1, 1, none⟩ = some (.string ⟨#[]⟩) := (unhide HRB).cell 1 rfl
  have z2 : w4.cell? ⟨X + 1, 2, none⟩ = some (.slice none 0 0) := (unhide HRB).cell 2 rfl
  have z3 : w4.cell? ⟨X + 1, 3, none⟩ = some (.slice none 0 0) := (unhide HRB).cell 3 rfl
  have z4 : w4.cell? ⟨X + 1, 4, none⟩ = some (.slice none 0 0) := (unhide HRB).cell 4 rfl
  have f0 := (unhide HRB).frz 0
  have f1 := (unhide HRB).frz 1
  have f2 := (unhide HRB).frz 2
  have f3 := (unhide HRB).frz 3
  have f4 := (unhide HRB).frz 4
  have hle : X ≤ wb.heap.size := by omega
  have HP0 := hide (own_low (own_q p0 ((q2.trans q3).trans q4)) hle)
  have HP2 := hide (own_low (own_q p2 (q3.trans q4)) (Nat.le_trans hle q1.size))
  have HP3 := hide (own_low (own_q p3 q4) (Nat.le_trans hle (q1.trans q2).size))
  have HP4 := hide (own_low p4 (Nat.le_trans hle ((q1.trans q2).trans q3).size))
  clear p0 p2 p3 p4 x4 HB1 HB2 hsz S0 S2 S3 S4
  have HOK : Hid (∀ p q r s : Bool, p = (clL b.1).isSome → q = (clL b.2.2.1).isSome → r = (clL b.2.2.2.1).isSome → s = (clL b.2.2.2.2).isSome → clO b = (p && q && r && s)) := by
    rintro p q r s rfl rfl rfl rfl; rfl
  generalize hp : (clL b.1).isSome = p at *
  generalize hq : (clL b.2.2.1).isSome = q at *
  generalize hr : (clL b.2.2.2.1).isSome = r at *
  generalize hs : (clL b.2.2.2.2).isSome = s at *
  have HO2 := hide (HOK.out p q r s rfl rfl rfl rfl)
  clear HOK hp hq hr hs
  cases p <;> cases q <;> cases r <;> cases s
  all_goals
    go_wp2_with fail
    change bodyPost _ _ _ _ _ (pS w4 (X + 1) (.slice o0 ((clL b.1).getD []).length d0) (.string rn) (.slice o2 ((clL b.2.2.1).getD []).length d2) (.slice o3 ((clL b.2.2.2.1).getD []).length d3) (.slice o4 ((clL b.2.2.2.2).getD []).length d4))
    obtain ⟨hb, hf⟩ := pS_facts (unhide HRB) (.slice o0 ((clL b.1).getD []).length d0) (.string rn) (.slice o2 ((clL b.2.2.1).getD []).length d2) (.slice o3 ((clL b.2.2.2.1).getD []).length d3) (.slice o4 ((clL b.2.2.2.2).getD []).length d4)
    have HPX : Hid (∀ k, k = X + 1 → ∃ cs, Blk w4 k cs 58) := fun k hk => by subst hk; exact ⟨_, unhide HRB⟩
    have HQ5 : Hid (Q w (pS w4 (X + 1) (.slice o0 ((clL b.1).getD []).length d0) (.string rn) (.slice o2 ((clL b.2.2.1).getD []).length d2) (.slice o3 ((clL b.2.2.2.1).getD []).length d3) (.slice o4 ((clL b.2.2.2.2).getD []).length d4))) := Below.trans qw4 (hf.below qw4.size (fun k hk => by rw [hk, unhide HX]; omega))
    have h0 := own_ty (unhide HP0) hf HPX.out (by decide)
    have h2 := own_ty (unhide HP2) hf HPX.out (by decide)
    have h3 := own_ty (unhide HP3) hf HPX.out (by decide)
    have h4 := own_ty (unhide HP4) hf HPX.out (by decide)
    generalize pS w4 (X + 1) (.slice o0 ((clL b.1).getD []).length d0) (.string rn) (.slice o2 ((clL b.2.2.1).getD []).length d2) (.slice o3 ((clL b.2.2.2.1).getD []).length d3) (.slice o4 ((clL b.2.2.2.2).getD []).length d4) = wf at *
    have g0 := hb.cell 0 rfl
    have g1 := hb.cell 1 rfl
    have g2 := hb.cell 2 rfl
    have g3 := hb.cell 3 rfl
    have g4 := hb.cell 4 rfl
    refine bodyPost_ret (v := .tuple #[.agg #[.slice o0 ((clL b.1).getD []).length d0, .string rn, .slice o2 ((clL b.2.2.1).getD []).length d2, .slice o3 ((clL b.2.2.2.1).getD []).length d3, .slice o4 ((clL b.2.2.2.2).getD []).length d4], .bool (clO b)]) (by rw [unhide HO2]; simp [results, Tryz.results54, go_sem, g0, g1, g2, g3, g4]) rfl ?_
    refine ⟨o0, o2, o3, o4, d0, d2, d3, d4, by rw [← unhide HRN]; rfl, by rw [unhide HX]; exact h0, by rw [unhide HX]; exact h2, by rw [unhide HX]; exact h3, by rw [unhide HX]; exact h4, ?_, HQ5.out⟩
    intro k hk
    rw [unhide HX]
    simp only [List.mem_append, Option.mem_toList] at hk
    rcases hk with ((hk | hk) | hk) | hk
    · exact (h0.lt k hk).1
    · exact (h2.lt k hk).1
    · exact (h3.lt k hk).1
    · exact (h4.lt k hk).1

end Go.Proofs.YtpddckgkaopnlaaGreatDoor
