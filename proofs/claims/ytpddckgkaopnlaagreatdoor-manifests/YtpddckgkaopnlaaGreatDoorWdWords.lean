/- What the document's own Words answers, for every text: what is told of a build line; the conditions: the text has at most 2^30 bytes. -/
import Derived.Test.YtpddckgkaopnlaaGreatDoorBnRpWdPlain
import Derived.Test.YtpddckgkaopnlaaGreatDoorBnMfEdge
import Derived.RegionTactic
import Derived.ChangeAlike
import Derived.Deep.DeepCutAuto
namespace Go.Proofs.YtpddckgkaopnlaaGreatDoor
open Go.RowKit

/-- What Words answers. -/
def RSays (w w' : World) (e : Ending) (x : Option Bt) : Prop :=
  ∃ (ao bo co eo : Option Addr) (ac bc cc ec : Nat), e = .returned (.tuple #[.agg #[.slice ao (btS x).1.length ac, .string ⟨(btS x).2.1.toArray⟩, .slice bo (btS x).2.2.1.length bc, .slice co (btS x).2.2.2.1.length cc, .slice eo (btS x).2.2.2.2.length ec], .int .i64 (btE x)]) ∧
    Four.Rows w' (btS x) ao bo co eo ∧ Q w w'

def zV : Nat → Value := fun j => if j = 1 then .string ⟨#[]⟩ else .slice none 0 0

theorem bk_new {w w1 : World} {t : TypeId} (q : Q (w.alloc (.cells #[.slice none 0 0, .string ⟨#[]⟩, .slice none 0 0, .slice none 0 0, .slice none 0 0] t)) w1) : Bk w1 w.heap.size zV := by
  have hb := (q.block w.heap.size (by simp)).trans (heap_alloc_new _ _)
  refine ⟨Nat.lt_of_lt_of_le (by simp) q.size, fun i hi => ?_, fun r => frozen_of_row w1 _ _ _ _ hb⟩
  match i, hi with
  | 0, _ | 1, _ | 2, _ | 3, _ | 4, _ => simp [World.cell?, hb, zV]

theorem RSays.none {w w' : World} (hq : Q w w') {x : Option Bt} (hx : x = none) : RSays w w' (.returned (.tuple #[.agg #[.slice none 0 0, .string ⟨#[]⟩, .slice none 0 0, .slice none 0 0, .slice none 0 0], .int .i64 700])) x := by
  subst hx
  exact ⟨Option.none, Option.none, Option.none, Option.none, 0, 0, 0, 0, rfl, ⟨Or.inl rfl, Or.inl rfl, Or.inl rfl, Or.inl rfl⟩, hq⟩

theorem below_five {w a : World} {g : Nat} (h : Below w.heap.size w a) (hg : w.heap.size ≤ g) (v0 v1 v2 v3 v4 : Value) :
    Below w.heap.size w (((((a.setCell ⟨g, 0, none⟩ v0).setCell ⟨g, 1, none⟩ v1).setCell ⟨g, 2, none⟩ v2).setCell ⟨g, 3, none⟩ v3).setCell ⟨g, 4, none⟩ v4) :=
  (((((h.setCell hg _).setCell hg _).setCell hg _).setCell hg _).setCell hg _)

/-- The state of a reading: the answer's block, the block that is filled, what has come of them, rows that lie apart. -/
structure St (w W : World) (rb bb : Nat) (V : Nat → Value) (rows : List (Option Addr × Ws)) : Prop where
  b : Bk W bb V
  r : Bk W rb zV
  lt : rb < bb
  q : Below rb w W
  rows : ∀ p ∈ rows, RowF rb bb W p.1 p.2

theorem St.set {w W : World} {rb bb : Nat} {V : Nat → Value} {rows : List (Option Addr × Ws)} (h : St w W rb bb V rows) (i : Nat) (hi : i < 5) (u : Value) : St w (W.setCell ⟨bb, i, none⟩ u) rb bb (updV V i u) rows := by
  have hb : But bb W (W.setCell ⟨bb, i, none⟩ u) := (But.refl bb W).set i u
  exact ⟨h.b.set i hi u, h.r.but hb (by have := h.lt; omega), h.lt, Below.trans h.q (hb.below (Nat.le_of_lt h.lt) (Nat.le_of_lt h.r.hi)), fun p hp => (h.rows p hp).but2 hb⟩
theorem St.q' {w W W' : World} {rb bb : Nat} {V : Nat → Value} {rows : List (Option Addr × Ws)} (h : St w W rb bb V rows) (hq : Q W W') : St w W' rb bb V rows :=
  ⟨h.b.q hq, h.r.q hq, h.lt, Below.trans h.q (Below.mono hq (Nat.le_of_lt h.r.hi)), fun p hp => (h.rows p hp).q hq⟩
theorem St.add {w W : World} {rb bb : Nat} {V : Nat → Value} {rows : List (Option Addr × Ws)} (h : St w W rb bb V rows) {A : Option Addr} {xs : Ws} (hr : RowF rb bb W A xs) : St w W rb bb V ((A, xs) :: rows) :=
  ⟨h.b, h.r, h.lt, h.q, fun p hp => by rcases List.mem_cons.1 hp with rfl | hp; exact hr; exact h.rows p hp⟩
theorem St.same {w W : World} {rb bb : Nat} {V : Nat → Value} {rows : List (Option Addr × Ws)} (h : St w W rb bb V rows) (i : Nat) (u : Value) (hu : V i = u) : St w W rb bb (updV V i u) rows :=
  ⟨⟨h.b.hi, fun j hj => by
    unfold updV
    by_cases e : j = i
    · rw [if_pos e, ← hu, ← e]; exact h.b.c j hj
    · rw [if_neg e]; exact h.b.c j hj, h.b.frz⟩, h.r, h.lt, h.q, h.rows⟩
/-- An append to nothing, stored. -/
theorem St.put {w W w5 : World} {rb bb i cap : Nat} {V : Nat → Value} {rows : List (Option Addr × Ws)} {A : Option Addr} {xs : Ws} (h : St w W rb bb V rows) (hq : Q W.drew w5) (ho : OwnT w5 W.drew.heap.size A cap xs) (hi : i < 5) (u : Value) :
    St w (w5.setCell ⟨bb, i, none⟩ u) rb bb (updV V i u) ((A, xs) :: rows) := by
  have hd : W.drew.heap.size = W.heap.size := rfl
  have h1 := h.b.hi
  have h2 := h.r.hi
  have hn : RowF rb bb w5 A xs := RowF.own ho (fun g k1 k2 => ⟨by omega, by omega⟩)
  exact ((h.q' ((Q.drew (Q.refl W)).trans hq)).add hn).set i hi u

theorem st_drop {w W : World} {rb bb g oc oq : Nat} {V : Nat → Value} {rows : List (Option Addr × Ws)} {A : Option Addr} {xs zt : Ws} {x : List UInt8} {k : Nat}
    (h : St w W rb bb V ((A, xs) :: (some ⟨g, oc, none⟩, x :: zt) :: rows)) (hc : RowF rb bb W (some ⟨g, oq, none⟩) ((x :: zt).drop (k + 1))) : St w W rb bb V ((some ⟨g, oq, none⟩, zt.drop k) :: (A, xs) :: rows) :=
  ⟨h.b, h.r, h.lt, h.q, fun p hp => by
    rcases List.mem_cons.1 hp with rfl | hp
    · exact hc
    · rcases List.mem_cons.1 hp with rfl | hp
      · exact h.rows _ (List.mem_cons_self ..)
      · exact h.rows p (List.mem_cons_of_mem _ (List.mem_cons_of_mem _ hp))⟩
theorem st_none {w W : World} {rb bb : Nat} {V : Nat → Value} {rows : List (Option Addr × Ws)} {A : Option Addr} {xs : Ws} (h : St w W rb bb V ((A, xs) :: rows)) (i : Nat) (hi : V i = .slice none 0 0) : St w W rb bb (updV V i (.slice none 0 0)) ((A, xs) :: (none, []) :: rows) :=
  have h' := h.same i _ hi
  ⟨h'.b, h'.r, h'.lt, h'.q, fun p hp => by
    rcases List.mem_cons.1 hp with rfl | hp
    · exact h.rows _ (List.mem_cons_self ..)
    · rcases List.mem_cons.1 hp with rfl | hp
      · exact RowF.nil _ _ _
      · exact h.rows p (List.mem_cons_of_mem _ hp)⟩

theorem but_five (a : World) (rb : Nat) (v0 v1 v2 v3 v4 : Value) :
    But rb a (((((a.setCell ⟨rb, 0, none⟩ v0).setCell ⟨rb, 1, none⟩ v1).setCell ⟨rb, 2, none⟩ v2).setCell ⟨rb, 3, none⟩ v3).setCell ⟨rb, 4, none⟩ v4) :=
  (((((But.refl rb a).set 0 _).set 1 _).set 2 _).set 3 _).set 4 _

theorem RSays.some {w W : World} {x : Option Bt} {a b c d : Ws} {Y : ByteArray} {k k2 : Nat} {ao bo co eo : Option Addr} {ac bc cc ec : Nat} (hx : x = Option.some (a, bl Y, b, c, d)) (ha : a.length = k) (hb : b.length = k2) (h : Four.Rows W (a, bl Y, b, c, d) ao bo co eo) (hq : Q w W) :
    RSays w W (.returned (.tuple #[.agg #[.slice ao k ac, .string Y, .slice bo k2 bc, .slice co c.length cc, .slice eo d.length ec], .int .i64 0])) x := by
  subst hx ha hb
  refine ⟨ao, bo, co, eo, ac, bc, cc, ec, ?_, h, hq⟩
  show _ = Ending.returned (.tuple #[.agg #[.slice ao a.length ac, .string ⟨(bl Y).toArray⟩, .slice bo b.length bc, .slice co c.length cc, .slice eo d.length ec], .int .i64 0])
  rw [mk_blW]

theorem five_rb {w a : World} {rb : Nat} (hrb : w.heap.size = rb) (h : Below rb w a) (v0 v1 v2 v3 v4 : Value) :
    Q w (((((a.setCell ⟨rb, 0, none⟩ v0).setCell ⟨rb, 1, none⟩ v1).setCell ⟨rb, 2, none⟩ v2).setCell ⟨rb, 3, none⟩ v3).setCell ⟨rb, 4, none⟩ v4) := by
  subst hrb; exact below_five h (Nat.le_refl _) v0 v1 v2 v3 v4

theorem wd_len {l : List UInt8} : ∀ x ∈ wdL l, x.length ≤ l.length := by
  intro x hx
  unfold wdL at hx
  have hm := (List.mem_filter.1 hx).1
  clear hx
  induction l generalizing x with
  | nil => simp [spc] at hm; subst hm; simp
  | cons c r ih =>
    rw [spc] at hm
    split at hm
    · rcases List.mem_cons.1 hm with rfl | h
      · simp
      · have := ih x h; simp only [List.length_cons]; omega
    · cases hs : spc 32 r with
      | nil => exact absurd hs (spc_ne 32 r)
      | cons y z =>
        rw [hs] at hm ih
        rcases List.mem_cons.1 hm with rfl | h
        · have := ih y (by simp); simp only [List.headD_cons, List.length_cons]; omega
        · have := ih x (List.mem_cons_of_mem _ h); simp only [List.length_cons]; omega

/-- What is left of Words' text behind its first statements. -/
def tlC : Nat → Code → Code
  | 0, c => c
  | n + 1, .seq _ b => tlC n b
  | _, c => c
noncomputable def wsT (n : Nat) : Code := tlC n ((Tryz.f53.body).getD .skip)

set_option maxRecDepth 20000 in
set_option maxHeartbeats 8000000 in
theorem words_24 {s : ByteArray} {w wc : World} {rb bb g o o1 k k2 ac bc : Nat} {ao bo : Option Addr} {Y : ByteArray} {ws z : Ws} {res : Option Bt} {z4 z5 cl dl : Ws} {o4 c4 cc3 ec : Nat} {co eo : Option Addr} {vv3 vv6 vv7 vv8 vv9 vv10 vv11 vv12 vv13 vv14 vv15 vv16 vv17 vv18 vv19 vv20 vv21 vv22 vv23 vv24 vv25 vv26 vv27 vv28 vv29 vv30 vv31 vv32 vv33 vv34 vv35 vv36 vv37 vv38 vv39 vv40 vv41 vv42 vv43 vv44 vv45 vv46 vv47 vv48 vv49 vv50 vv51 vv52 vv53 vv54 vv55 vv56 vv57 vv58 vv59 vv60 vv61 vv62 vv63 vv64 vv65 vv66 vv67 vv68 vv69 vv70 vv71 vv72 vv73 vv74 vv75 vv76 vv77 vv78 vv79 vv80 vv81 vv82 vv83 vv84 vv85 vv86 vv87 vv88 vv89 vv90 vv91 vv92 vv93 vv94 vv95 vv96 vv97 vv98 vv99 vv100 vv101 vv102 vv103 vv104 vv105 vv106 vv107 vv108 vv109 vv110 vv111 vv112 vv113 vv114 vv115 vv116 vv117 vv118 vv119 vv120 vv121 vv122 vv123 vv124 vv125 vv126 vv127 vv128 vv129 vv130 vv131 vv132 vv133 vv134 vv135 vv136 vv137 vv138 vv139 vv140 vv141 vv142 vv143 vv144 vv145 vv146 : Value}
    (HRB : Hid (w.heap.size = rb)) (hkl : k ≤ ws.length) (hk2l : k2 ≤ z.length) (HE : Hid (res = gEnd (ws.take k) (bl Y) (z.take k2) (cl, z4, true) (dl, z5, true))) (HA5 : Hid (St w wc rb bb (updV (updV (updV (updV (updV zV 0 (.slice ao k ac)) 1 (.string Y)) 2 (.slice bo k2 bc)) 3 (.slice co cl.length cc3)) 4 (.slice eo dl.length ec)) ((some ⟨g, o4, none⟩, z5) :: (eo, dl) :: (co, cl) :: [(bo, z.take k2), (some ⟨g, o1, none⟩, z), (ao, ws.take k), (some ⟨g, o, none⟩, ws)]))) :
    Code.wp Tryz.prog (wsT 13) (bodyPost Tryz.prog Tryz.f53 fun e w' => RSays w w' e res) ⟨List.toArray (.string s :: undef :: .pointer (some ⟨rb, 0, none⟩) :: vv3 :: .slice (some ⟨g, o4, none⟩) z5.length c4 :: .pointer (some ⟨bb, 0, none⟩) :: vv6 :: vv7 :: vv8 :: vv9 :: vv10 :: vv11 :: vv12 :: vv13 :: vv14 :: vv15 :: vv16 :: vv17 :: vv18 :: vv19 :: vv20 :: vv21 :: vv22 :: vv23 :: vv24 :: vv25 :: vv26 :: vv27 :: vv28 :: vv29 :: vv30 :: vv31 :: vv32 :: vv33 :: vv34 :: vv35 :: vv36 :: vv37 :: vv38 :: vv39 :: vv40 :: vv41 :: vv42 :: vv43 :: vv44 :: vv45 :: vv46 :: vv47 :: vv48 :: vv49 :: vv50 :: vv51 :: vv52 :: vv53 :: vv54 :: vv55 :: vv56 :: vv57 :: vv58 :: vv59 :: vv60 :: vv61 :: vv62 :: vv63 :: vv64 :: vv65 :: vv66 :: vv67 :: vv68 :: vv69 :: vv70 :: vv71 :: vv72 :: vv73 :: vv74 :: vv75 :: vv76 :: vv77 :: vv78 :: vv79 :: vv80 :: vv81 :: vv82 :: vv83 :: vv84 :: vv85 :: vv86 :: vv87 :: vv88 :: vv89 :: vv90 :: vv91 :: vv92 :: vv93 :: vv94 :: vv95 :: vv96 :: vv97 :: vv98 :: vv99 :: vv100 :: vv101 :: vv102 :: vv103 :: vv104 :: vv105 :: vv106 :: vv107 :: vv108 :: vv109 :: vv110 :: vv111 :: vv112 :: vv113 :: vv114 :: vv115 :: vv116 :: vv117 :: vv118 :: vv119 :: vv120 :: vv121 :: vv122 :: vv123 :: vv124 :: vv125 :: vv126 :: vv127 :: vv128 :: vv129 :: vv130 :: vv131 :: vv132 :: vv133 :: vv134 :: vv135 :: vv136 :: vv137 :: vv138 :: vv139 :: vv140 :: vv141 :: vv142 :: vv143 :: vv144 :: vv145 :: vv146 :: []), []⟩ wc := by
  conv => arg 2; whnf
  have b0 : wc.cell? ⟨bb, 0, none⟩ = some (.slice ao k ac) := (unhide HA5).b.c 0 (by decide)
  have b1 : wc.cell? ⟨bb, 1, none⟩ = some (.string Y) := (unhide HA5).b.c 1 (by decide)
  have b2 : wc.cell? ⟨bb, 2, none⟩ = some (.slice bo k2 bc) := (unhide HA5).b.c 2 (by decide)
  have b3 : wc.cell? ⟨bb, 3, none⟩ = some (.slice co cl.length cc3) := (unhide HA5).b.c 3 (by decide)
  have b4 : wc.cell? ⟨bb, 4, none⟩ = some (.slice eo dl.length ec) := (unhide HA5).b.c 4 (by decide)
  have r0 : wc.cell? ⟨rb, 0, none⟩ = some (.slice none 0 0) := (unhide HA5).r.c 0 (by decide)
  have r1 : wc.cell? ⟨rb, 1, none⟩ = some (.string ⟨#[]⟩) := (unhide HA5).r.c 1 (by decide)
  have r2 : wc.cell? ⟨rb, 2, none⟩ = some (.slice none 0 0) := (unhide HA5).r.c 2 (by decide)
  have r3 : wc.cell? ⟨rb, 3, none⟩ = some (.slice none 0 0) := (unhide HA5).r.c 3 (by decide)
  have r4 : wc.cell? ⟨rb, 4, none⟩ = some (.slice none 0 0) := (unhide HA5).r.c 4 (by decide)
  have g0 := (unhide HA5).r.frz 0
  have g1 := (unhide HA5).r.frz 1
  have g2 := (unhide HA5).r.frz 2
  have g3 := (unhide HA5).r.frz 3
  have g4 := (unhide HA5).r.frz 4
  by_cases f1 : 0 < z5.length
  · have HN : Hid (res = none) := (unhide HE).trans (gEnd_no6 (fun e => by rw [show z5 = [] from e] at f1; simp at f1))
    have f1' : (0 : Int) < (z5.length : Int) := by omega
    go_wp2_with fail
    refine bodyPost_ret (v := .tuple #[.agg #[.slice none 0 0, .string ⟨#[]⟩, .slice none 0 0, .slice none 0 0, .slice none 0 0], .int .i64 700]) ?_ rfl ?_
    · simp [results, Tryz.results53, go_sem, r0, r1, r2, r3, r4]
    exact RSays.none (five_rb (unhide HRB) (unhide HA5).q _ _ _ _ _) HN.out
  have f1' : ¬ (0 : Int) < (z5.length : Int) := by omega
  by_cases f2 : 8 < k2
  · have HN : Hid (res = none) := (unhide HE).trans (gEnd_no1 (by rw [List.length_take]; omega))
    have f2' : (8 : Int) < (k2 : Int) := by omega
    go_wp2_with fail
    refine bodyPost_ret (v := .tuple #[.agg #[.slice none 0 0, .string ⟨#[]⟩, .slice none 0 0, .slice none 0 0, .slice none 0 0], .int .i64 700]) ?_ rfl ?_
    · simp [results, Tryz.results53, go_sem, r0, r1, r2, r3, r4]
    exact RSays.none (five_rb (unhide HRB) (unhide HA5).q _ _ _ _ _) HN.out
  have f2' : ¬ (8 : Int) < (k2 : Int) := by omega
  by_cases f3 : 8 < cl.length
  · have HN : Hid (res = none) := (unhide HE).trans (gEnd_no2 f3)
    have f3' : (8 : Int) < (cl.length : Int) := by omega
    go_wp2_with fail
    refine bodyPost_ret (v := .tuple #[.agg #[.slice none 0 0, .string ⟨#[]⟩, .slice none 0 0, .slice none 0 0, .slice none 0 0], .int .i64 700]) ?_ rfl ?_
    · simp [results, Tryz.results53, go_sem, r0, r1, r2, r3, r4]
    exact RSays.none (five_rb (unhide HRB) (unhide HA5).q _ _ _ _ _) HN.out
  have f3' : ¬ (8 : Int) < (cl.length : Int) := by omega
  by_cases f4 : 8 < dl.length
  · have HN : Hid (res = none) := (unhide HE).trans (gEnd_no3 f4)
    have f4' : (8 : Int) < (dl.length : Int) := by omega
    go_wp2_with fail
    refine bodyPost_ret (v := .tuple #[.agg #[.slice none 0 0, .string ⟨#[]⟩, .slice none 0 0, .slice none 0 0, .slice none 0 0], .int .i64 700]) ?_ rfl ?_
    · simp [results, Tryz.results53, go_sem, r0, r1, r2, r3, r4]
    exact RSays.none (five_rb (unhide HRB) (unhide HA5).q _ _ _ _ _) HN.out
  have f4' : ¬ (8 : Int) < (dl.length : Int) := by omega
  have HN : Hid (res = some (ws.take k, bl Y, z.take k2, cl, dl)) := (unhide HE).trans (gEnd_yes rfl rfl (show z5 = [] from List.eq_nil_of_length_eq_zero (by omega)) (by rw [List.length_take]; omega) (by show cl.length ≤ 8; omega) (by show dl.length ≤ 8; omega))
  have h1 : (ws.take k).length = k := by rw [List.length_take]; omega
  have h2 : (z.take k2).length = k2 := by rw [List.length_take]; omega
  have H11 := hide h1
  have H22 := hide h2
  clear h1 h2
  go_wp2_with fail
  refine bodyPost_ret (v := .tuple #[.agg #[.slice ao k ac, .string Y, .slice bo k2 bc, .slice co cl.length cc3, .slice eo dl.length ec], .int .i64 0]) ?_ rfl ?_
  · simp [results, Tryz.results53, go_sem, r0, r1, r2, r3, r4]
  have hbf := but_five wc rb (.slice ao k ac) (.string Y) (.slice bo k2 bc) (.slice co cl.length cc3) (.slice eo dl.length ec)
  exact RSays.some HN.out (unhide H11) (unhide H22) ⟨(((unhide HA5).rows (ao, ws.take k) (by simp)).but1 hbf).1, (((unhide HA5).rows (bo, z.take k2) (by simp)).but1 hbf).1, (((unhide HA5).rows (co, cl) (by simp)).but1 hbf).1, (((unhide HA5).rows (eo, dl) (by simp)).but1 hbf).1⟩ (five_rb (unhide HRB) (unhide HA5).q _ _ _ _ _)

set_option maxRecDepth 20000 in
set_option maxHeartbeats 8000000 in
theorem words_18 {s : ByteArray} {w wc : World} {rb bb g o o1 k k2 ac bc : Nat} {ao bo : Option Addr} {Y : ByteArray} {ws z : Ws} {res : Option Bt} {z4 cl : Ws} {o3 c3 cc3 : Nat} {co : Option Addr} {vv3 vv6 vv7 vv8 vv9 vv10 vv11 vv12 vv13 vv14 vv15 vv16 vv17 vv18 vv19 vv20 vv21 vv22 vv23 vv24 vv25 vv26 vv27 vv28 vv29 vv30 vv31 vv32 vv33 vv34 vv35 vv36 vv37 vv38 vv39 vv40 vv41 vv42 vv43 vv44 vv45 vv46 vv47 vv48 vv49 vv50 vv51 vv52 vv53 vv54 vv55 vv56 vv57 vv58 vv59 vv60 vv61 vv62 vv63 vv64 vv65 vv66 vv67 vv68 vv69 vv70 vv71 vv72 vv73 vv74 vv75 vv76 vv77 vv78 vv79 vv80 vv81 vv82 vv83 vv84 vv85 vv86 vv87 vv88 vv89 vv90 vv91 vv92 vv93 vv94 vv95 vv96 vv97 vv98 vv99 vv100 vv101 vv102 vv103 vv104 vv105 vv106 vv107 vv108 vv109 vv110 vv111 vv112 vv113 vv114 vv115 vv116 vv117 vv118 vv119 vv120 vv121 vv122 vv123 vv124 vv125 vv126 vv127 vv128 vv129 vv130 vv131 vv132 vv133 vv134 vv135 vv136 vv137 vv138 vv139 vv140 vv141 vv142 vv143 vv144 vv145 vv146 : Value}
    (HRB : Hid (w.heap.size = rb)) (hkl : k ≤ ws.length) (hk2l : k2 ≤ z.length) (HE : Hid (res = gEnd (ws.take k) (bl Y) (z.take k2) (cl, z4, true) (gpW [124, 124] z4))) (HA4 : Hid (St w wc rb bb (updV (updV (updV (updV zV 0 (.slice ao k ac)) 1 (.string Y)) 2 (.slice bo k2 bc)) 3 (.slice co cl.length cc3)) ((some ⟨g, o3, none⟩, z4) :: (co, cl) :: [(bo, z.take k2), (some ⟨g, o1, none⟩, z), (ao, ws.take k), (some ⟨g, o, none⟩, ws)]))) (hz4l : z4.length ≤ 4294967290) (hc4 : z4.length ≤ c3) (HL4 : Hid (∀ x ∈ z4, x.length ≤ 1099511627776)) :
    Code.wp Tryz.prog (wsT 12) (bodyPost Tryz.prog Tryz.f53 fun e w' => RSays w w' e res) ⟨List.toArray (.string s :: undef :: .pointer (some ⟨rb, 0, none⟩) :: vv3 :: .slice (some ⟨g, o3, none⟩) z4.length c3 :: .pointer (some ⟨bb, 0, none⟩) :: vv6 :: vv7 :: vv8 :: vv9 :: vv10 :: vv11 :: vv12 :: vv13 :: vv14 :: vv15 :: vv16 :: vv17 :: vv18 :: vv19 :: vv20 :: vv21 :: vv22 :: vv23 :: vv24 :: vv25 :: vv26 :: vv27 :: vv28 :: vv29 :: vv30 :: vv31 :: vv32 :: vv33 :: vv34 :: vv35 :: vv36 :: vv37 :: vv38 :: vv39 :: vv40 :: vv41 :: vv42 :: vv43 :: vv44 :: vv45 :: vv46 :: vv47 :: vv48 :: vv49 :: vv50 :: vv51 :: vv52 :: vv53 :: vv54 :: vv55 :: vv56 :: vv57 :: vv58 :: vv59 :: vv60 :: vv61 :: vv62 :: vv63 :: vv64 :: vv65 :: vv66 :: vv67 :: vv68 :: vv69 :: vv70 :: vv71 :: vv72 :: vv73 :: vv74 :: vv75 :: vv76 :: vv77 :: vv78 :: vv79 :: vv80 :: vv81 :: vv82 :: vv83 :: vv84 :: vv85 :: vv86 :: vv87 :: vv88 :: vv89 :: vv90 :: vv91 :: vv92 :: vv93 :: vv94 :: vv95 :: vv96 :: vv97 :: vv98 :: vv99 :: vv100 :: vv101 :: vv102 :: vv103 :: vv104 :: vv105 :: vv106 :: vv107 :: vv108 :: vv109 :: vv110 :: vv111 :: vv112 :: vv113 :: vv114 :: vv115 :: vv116 :: vv117 :: vv118 :: vv119 :: vv120 :: vv121 :: vv122 :: vv123 :: vv124 :: vv125 :: vv126 :: vv127 :: vv128 :: vv129 :: vv130 :: vv131 :: vv132 :: vv133 :: vv134 :: vv135 :: vv136 :: vv137 :: vv138 :: vv139 :: vv140 :: vv141 :: vv142 :: vv143 :: vv144 :: vv145 :: vv146 :: []), []⟩ wc := by
  conv => arg 2; whnf
  obtain ⟨i0, hi, hz0, hz1, hz2⟩ := info_parts Tryz.infoS
  go_upto_region 18 with fail
  go_cut [105] from 7 (fun s wx => s = .bool (decide (z4.head? = some [124, 124])) ∧ wx = wc)
  case first =>
    have HRW := hide ((unhide HA4).rows _ (List.mem_cons_self ..))
    cases z4 with
    | nil =>
      go_wp2_with fail
      go_meet
      case rel => exact ⟨rfl, rfl⟩
    | cons x zt =>
      have c0 : wc.cell? ⟨g, o3, none⟩ = some (.string ⟨x.toArray⟩) := by
        rcases (unhide HRW).1 with he | ⟨g', o', he, hg, hc⟩
        · cases he
        · cases he; simpa using hc 0 0 x _ rfl (by decide) rfl
      have HX := hide (bl_mk x)
      generalize (⟨x.toArray⟩ : ByteArray) = X at c0 HX
      clear HRW
      by_cases hx : x = [124, 124]
      · subst hx
        obtain rfl : X = ⟨#[124, 124]⟩ := of_bl (unhide HX)
        go_wp2_with fail
        go_meet
        case rel => exact ⟨by simp, rfl⟩
      · have HD : Hid (decide ((x :: zt).head? = some [124, 124]) = false) := decide_eq_false (fun e => hx (Option.some.inj e))
        have d1 : (X.toList == [124, 124]) = false := by rw [bl_toList, unhide HX]; exact beq_eq_false_iff_ne.2 hx
        clear hx
        go_wp2_with fail
        go_meet
        case rel => exact ⟨by rw [HD.out], rfl⟩
  case rest =>
    obtain ⟨rfl, rfl⟩ := hcut
    go_upto_if 105 with fail
    go_cut [4] from 7 (fun s4 wx => ∃ (o' c' : Nat) (fo : Option Addr) (fc : Nat), s4 = .slice (some ⟨g, o', none⟩) (gpW [124, 124] z4).2.1.length c' ∧ (gpW [124, 124] z4).2.1.length ≤ c' ∧ (gpW [124, 124] z4).2.1.length ≤ 4294967290 ∧
      Hid (St w wx rb bb (updV (updV (updV (updV (updV zV 0 (.slice ao k ac)) 1 (.string Y)) 2 (.slice bo k2 bc)) 3 (.slice co cl.length cc3)) 4 (.slice fo (gpW [124, 124] z4).1.length fc)) ((some ⟨g, o', none⟩, (gpW [124, 124] z4).2.1) :: (fo, (gpW [124, 124] z4).1) :: (co, cl) :: [(bo, z.take k2), (some ⟨g, o1, none⟩, z), (ao, ws.take k), (some ⟨g, o, none⟩, ws)])) ∧ Hid ((gpW [124, 124] z4).2.2 = true) ∧ Hid (∀ x ∈ (gpW [124, 124] z4).2.1, x.length ≤ 1099511627776))
    case first =>
      by_cases hh : z4.head? = some [124, 124]
      · have HGP := hide (gpW_yes hh)
        obtain ⟨zt, rfl⟩ : ∃ zt, z4 = [124, 124] :: zt := by
          cases z4 with
          | nil => cases hh
          | cons x q => exact ⟨q, by rw [Option.some.inj hh]⟩
        rw [decide_eq_true hh]
        rw [List.tail_cons] at HGP
        have HRW := hide ((unhide HA4).rows _ (List.mem_cons_self ..))
        have HLT : Hid (∀ x ∈ zt, x.length ≤ 1099511627776) := fun x hx => (unhide HL4) x (List.mem_cons_of_mem _ hx)
        have hztl : zt.length + 1 ≤ 4294967290 := by simpa using hz4l
        have hztc : zt.length + 1 ≤ c3 := by simpa using hc4
        clear hh
        go_upto_region 19 with fail
        go_cut [6] from 7 (fun s6 wx => s6 = .int .i64 (cnW zt : Nat) ∧ wx = wc)
        case first =>
          by_cases hc1 : c3 = 1
          · subst hc1
            have HC : Hid (RowT wc (some ⟨g, o3, none⟩) zt) := Or.inl (List.eq_nil_of_length_eq_zero (by omega))
            go_wp2_with fail
            refine (rnames_any (some ⟨g, o3, none⟩) _ _ zt wc (by first | rfl | omega | simp) HC.out (by omega) HLT.out).mono ?_
            rintro e w7 ⟨rfl, rfl⟩
            go_wp2_with fail
            go_meet
            case rel => exact ⟨rfl, rfl⟩
          · have HC : Hid (RowT wc (some ⟨g, o3 + 1, none⟩) zt) := (RowF.cutS (unhide HRW) 1).1
            go_wp2_with fail
            refine (rnames_any (some ⟨g, o3 + 1, none⟩) _ _ zt wc (by first | rfl | omega | simp) HC.out (by omega) HLT.out).mono ?_
            rintro e w7 ⟨rfl, rfl⟩
            go_wp2_with fail
            go_meet
            case rel => exact ⟨rfl, rfl⟩
        case rest =>
          obtain ⟨rfl, rfl⟩ := hcut
          have hk3l := cn_le zt
          have HTG : Hid (tg zt = zt.take (cnW zt)) := rfl
          have HLG : Hid (lg zt = zt.drop (cnW zt)) := rfl
          rw [HTG.out, HLG.out] at HGP
          clear HTG HLG
          generalize cnW zt = k3 at *
          by_cases h0 : k3 = 0
          · have HN : Hid (res = none) := by
              show _ = _
              rw [unhide HE]
              exact gEnd_no5 (by rw [unhide HGP, h0]; rfl)
            have h0' : ((k3 : Int) == 0) = true := by rw [h0]; rfl
            have r0 : wc.cell? ⟨rb, 0, none⟩ = some (.slice none 0 0) := (unhide HA4).r.c 0 (by decide)
            have r1 : wc.cell? ⟨rb, 1, none⟩ = some (.string ⟨#[]⟩) := (unhide HA4).r.c 1 (by decide)
            have r2 : wc.cell? ⟨rb, 2, none⟩ = some (.slice none 0 0) := (unhide HA4).r.c 2 (by decide)
            have r3 : wc.cell? ⟨rb, 3, none⟩ = some (.slice none 0 0) := (unhide HA4).r.c 3 (by decide)
            have r4 : wc.cell? ⟨rb, 4, none⟩ = some (.slice none 0 0) := (unhide HA4).r.c 4 (by decide)
            have g0 := (unhide HA4).r.frz 0
            have g1 := (unhide HA4).r.frz 1
            have g2 := (unhide HA4).r.frz 2
            have g3 := (unhide HA4).r.frz 3
            have g4 := (unhide HA4).r.frz 4
            go_wp2_with fail
            refine bodyPost_ret (v := .tuple #[.agg #[.slice none 0 0, .string ⟨#[]⟩, .slice none 0 0, .slice none 0 0, .slice none 0 0], .int .i64 700]) ?_ rfl ?_
            · simp [results, Tryz.results53, go_sem, r0, r1, r2, r3, r4]
            exact RSays.none (five_rb (unhide HRB) (unhide HA4).q _ _ _ _ _) HN.out
          · have h0' : ((k3 : Int) == 0) = false := beq_eq_false_iff_ne.2 (by omega)
            have hc1 : ¬ c3 = 1 := by omega
            have hkc3 : (k3 : Int) + 1 ≤ (c3 : Int) := by omega
            have hwr : IntKind.i64.wrap ((k3 : Int) + 1) = (k3 : Int) + 1 := IntWalk.i64_in _ (by omega)
            have hp0 : (0 : Int) ≤ (k3 : Int) + 1 := by omega
            have hp1 : (1 : Int) ≤ (k3 : Int) + 1 := by omega
            have hmx : (1 : Int) ≤ max ((k3 : Int) + 1) 0 := by omega
            have htn : ((k3 : Int) + 1).toNat = k3 + 1 := by omega
            have HRZ : Hid (RowF rb bb wc (some ⟨g, o3 + 1, none⟩) zt) := RowF.cutS (unhide HRW) 1
            have bf : wc.cell? ⟨bb, 4, none⟩ = some (.slice none 0 0) := (unhide HA4).b.c 4 (by decide)
            have fbf := (unhide HA4).b.frz 4
            go_wp2_with fail
            go_region_law (refine step_new i0 hi hz0 hz1 hz2 rfl (.tmp 113) (.tmp 117) rfl (by rfl) (some ⟨g, o3 + 1, none⟩) k3 (c3 - 1) (by rfl) (zt.take k3) (by rw [List.length_take]; omega) ((HRZ.out.take k3).q ((Q.refl _).drew)).1 (by omega) ?_; intro ao' cap' w5 ho5 hq5; have hB5 := hide (((unhide HA4).b.q ((Q.refl _).drew)).q hq5); have b5 : w5.cell? ⟨bb, 4, none⟩ = some (.slice none 0 0) := (unhide hB5).c 4 (by decide); have f5 := (unhide hB5).frz 4)
            have H1 := hide ((unhide HA4).put (i := 4) hq5 ho5 (by decide) (.slice ao' k3 cap'))
            have HRW5 := hide ((unhide H1).rows _ (List.mem_cons_of_mem _ (List.mem_cons_self ..)))
            have hki : (k3 : Int) + 1 ≤ ((zt.length : Int) + 1) := by omega
            have hlt3 : (zt.take k3).length = k3 := by rw [List.length_take]; omega
            have hld3 : (zt.drop k3).length = zt.length - k3 := List.length_drop
            have HF1 : Hid ((gpW [124, 124] ([124, 124] :: zt)).2.2 = true) := by show _ = _; rw [unhide HGP]; exact notEmpty (fun e => by rw [e] at hlt3; simp at hlt3; omega)
            have HF2 : Hid (∀ x ∈ (gpW [124, 124] ([124, 124] :: zt)).2.1, x.length ≤ 1099511627776) := by
              intro x hx; rw [unhide HGP] at hx; exact HLT.out x (List.mem_of_mem_drop hx)
            have HLT3 := hide hlt3
            have HLD3 := hide hld3
            clear ho5 hq5 hB5 bf fbf hlt3 hld3
            by_cases hcj : c3 = k3 + 1
            · have HC := hide (RowF.cutE (unhide HRW5) (k3 + 1) (by show zt.length + 1 ≤ _; omega))
              have HSt : Hid (St w (w5.setCell ⟨bb, 4, none⟩ (.slice ao' k3 cap')) rb bb (updV (updV (updV (updV (updV zV 0 (.slice ao k ac)) 1 (.string Y)) 2 (.slice bo k2 bc)) 3 (.slice co cl.length cc3)) 4 (.slice ao' k3 cap')) ((some ⟨g, o3, none⟩, zt.drop k3) :: (ao', zt.take k3) :: (co, cl) :: [(bo, z.take k2), (some ⟨g, o1, none⟩, z), (ao, ws.take k), (some ⟨g, o, none⟩, ws)])) := st_drop (unhide H1) (unhide HC)
              go_wp2_with fail
              go_meet
              case rel => exact ⟨o3, 0, ao', cap', by rw [unhide HGP]; show Value.slice _ _ _ = Value.slice _ (zt.drop k3).length _; rw [unhide HLD3], by rw [unhide HGP]; show (zt.drop k3).length ≤ _; rw [unhide HLD3]; omega, by rw [unhide HGP]; show (zt.drop k3).length ≤ _; rw [unhide HLD3]; omega, by rw [unhide HGP]; show Hid (St _ _ _ _ (updV _ _ (.slice _ (zt.take k3).length _)) _); rw [unhide HLT3]; exact HSt, HF1, HF2⟩
            · have HC := hide (RowF.cutS (unhide HRW5) (k3 + 1))
              have HSt : Hid (St w (w5.setCell ⟨bb, 4, none⟩ (.slice ao' k3 cap')) rb bb (updV (updV (updV (updV (updV zV 0 (.slice ao k ac)) 1 (.string Y)) 2 (.slice bo k2 bc)) 3 (.slice co cl.length cc3)) 4 (.slice ao' k3 cap')) ((some ⟨g, o3 + (k3 + 1), none⟩, zt.drop k3) :: (ao', zt.take k3) :: (co, cl) :: [(bo, z.take k2), (some ⟨g, o1, none⟩, z), (ao, ws.take k), (some ⟨g, o, none⟩, ws)])) := st_drop (unhide H1) (unhide HC)
              go_wp2_with fail
              go_meet
              case rel => exact ⟨o3 + (k3 + 1), c3 - (k3 + 1), ao', cap', by rw [unhide HGP]; show Value.slice _ _ _ = Value.slice _ (zt.drop k3).length _; rw [unhide HLD3], by rw [unhide HGP]; show (zt.drop k3).length ≤ _; rw [unhide HLD3]; omega, by rw [unhide HGP]; show (zt.drop k3).length ≤ _; rw [unhide HLD3]; omega, by rw [unhide HGP]; show Hid (St _ _ _ _ (updV _ _ (.slice _ (zt.take k3).length _)) _); rw [unhide HLT3]; exact HSt, HF1, HF2⟩
      · have HGP := hide (gpW_no hh)
        rw [decide_eq_false hh]
        have HSt : Hid (St w wc rb bb (updV (updV (updV (updV (updV zV 0 (.slice ao k ac)) 1 (.string Y)) 2 (.slice bo k2 bc)) 3 (.slice co cl.length cc3)) 4 (.slice none 0 0)) ((some ⟨g, o3, none⟩, z4) :: (none, []) :: (co, cl) :: [(bo, z.take k2), (some ⟨g, o1, none⟩, z), (ao, ws.take k), (some ⟨g, o, none⟩, ws)])) := st_none (unhide HA4) 4 rfl
        go_wp2_with fail
        go_meet
        case rel => exact ⟨o3, c3, none, 0, by rw [unhide HGP], by rw [unhide HGP]; exact hc4, by rw [unhide HGP]; exact hz4l, by rw [unhide HGP]; exact HSt, by show _ = _; rw [unhide HGP], by rw [unhide HGP]; exact HL4⟩
    case rest =>
      obtain ⟨o4, c4, eo, ec, rfl, hc5, hz5l, HA5, HOK5, HL5⟩ := hcut
      clear HA4 HL4 hz4l hc4
      generalize gpW [124, 124] z4 = di at *
      obtain ⟨dl, z5, okd⟩ := di
      obtain rfl : okd = true := HOK5.out
      apply_assumption
      exact words_24 HRB hkl hk2l HE HA5

set_option maxRecDepth 20000 in
set_option maxHeartbeats 8000000 in
theorem words_12 {s : ByteArray} {w wc : World} {rb bb g o o1 k k2 ac bc : Nat} {ao bo : Option Addr} {Y : ByteArray} {ws z : Ws} {res : Option Bt} {z3 : Ws} {o2 c2 : Nat} {vv3 vv6 vv7 vv8 vv9 vv10 vv11 vv12 vv13 vv14 vv15 vv16 vv17 vv18 vv19 vv20 vv21 vv22 vv23 vv24 vv25 vv26 vv27 vv28 vv29 vv30 vv31 vv32 vv33 vv34 vv35 vv36 vv37 vv38 vv39 vv40 vv41 vv42 vv43 vv44 vv45 vv46 vv47 vv48 vv49 vv50 vv51 vv52 vv53 vv54 vv55 vv56 vv57 vv58 vv59 vv60 vv61 vv62 vv63 vv64 vv65 vv66 vv67 vv68 vv69 vv70 vv71 vv72 vv73 vv74 vv75 vv76 vv77 vv78 vv79 vv80 vv81 vv82 vv83 vv84 vv85 vv86 vv87 vv88 vv89 vv90 vv91 vv92 vv93 vv94 vv95 vv96 vv97 vv98 vv99 vv100 vv101 vv102 vv103 vv104 vv105 vv106 vv107 vv108 vv109 vv110 vv111 vv112 vv113 vv114 vv115 vv116 vv117 vv118 vv119 vv120 vv121 vv122 vv123 vv124 vv125 vv126 vv127 vv128 vv129 vv130 vv131 vv132 vv133 vv134 vv135 vv136 vv137 vv138 vv139 vv140 vv141 vv142 vv143 vv144 vv145 vv146 : Value}
    (HRB : Hid (w.heap.size = rb)) (hkl : k ≤ ws.length) (hk2l : k2 ≤ z.length) (HE : Hid (res = gEnd (ws.take k) (bl Y) (z.take k2) (gpW [124] z3) (gpW [124, 124] (gpW [124] z3).2.1))) (HA : Hid (St w wc rb bb (updV (updV (updV zV 0 (.slice ao k ac)) 1 (.string Y)) 2 (.slice bo k2 bc)) ((some ⟨g, o2, none⟩, z3) :: [(bo, z.take k2), (some ⟨g, o1, none⟩, z), (ao, ws.take k), (some ⟨g, o, none⟩, ws)]))) (hz3l : z3.length ≤ 4294967290) (hc3 : z3.length ≤ c2) (HL3 : Hid (∀ x ∈ z3, x.length ≤ 1099511627776)) :
    Code.wp Tryz.prog (wsT 11) (bodyPost Tryz.prog Tryz.f53 fun e w' => RSays w w' e res) ⟨List.toArray (.string s :: undef :: .pointer (some ⟨rb, 0, none⟩) :: vv3 :: .slice (some ⟨g, o2, none⟩) z3.length c2 :: .pointer (some ⟨bb, 0, none⟩) :: vv6 :: vv7 :: vv8 :: vv9 :: vv10 :: vv11 :: vv12 :: vv13 :: vv14 :: vv15 :: vv16 :: vv17 :: vv18 :: vv19 :: vv20 :: vv21 :: vv22 :: vv23 :: vv24 :: vv25 :: vv26 :: vv27 :: vv28 :: vv29 :: vv30 :: vv31 :: vv32 :: vv33 :: vv34 :: vv35 :: vv36 :: vv37 :: vv38 :: vv39 :: vv40 :: vv41 :: vv42 :: vv43 :: vv44 :: vv45 :: vv46 :: vv47 :: vv48 :: vv49 :: vv50 :: vv51 :: vv52 :: vv53 :: vv54 :: vv55 :: vv56 :: vv57 :: vv58 :: vv59 :: vv60 :: vv61 :: vv62 :: vv63 :: vv64 :: vv65 :: vv66 :: vv67 :: vv68 :: vv69 :: vv70 :: vv71 :: vv72 :: vv73 :: vv74 :: vv75 :: vv76 :: vv77 :: vv78 :: vv79 :: vv80 :: vv81 :: vv82 :: vv83 :: vv84 :: vv85 :: vv86 :: vv87 :: vv88 :: vv89 :: vv90 :: vv91 :: vv92 :: vv93 :: vv94 :: vv95 :: vv96 :: vv97 :: vv98 :: vv99 :: vv100 :: vv101 :: vv102 :: vv103 :: vv104 :: vv105 :: vv106 :: vv107 :: vv108 :: vv109 :: vv110 :: vv111 :: vv112 :: vv113 :: vv114 :: vv115 :: vv116 :: vv117 :: vv118 :: vv119 :: vv120 :: vv121 :: vv122 :: vv123 :: vv124 :: vv125 :: vv126 :: vv127 :: vv128 :: vv129 :: vv130 :: vv131 :: vv132 :: vv133 :: vv134 :: vv135 :: vv136 :: vv137 :: vv138 :: vv139 :: vv140 :: vv141 :: vv142 :: vv143 :: vv144 :: vv145 :: vv146 :: []), []⟩ wc := by
  conv => arg 2; whnf
  obtain ⟨i0, hi, hz0, hz1, hz2⟩ := info_parts Tryz.infoS
  go_upto_region 12 with fail
  go_cut [78] from 7 (fun s wx => s = .bool (decide (z3.head? = some [124])) ∧ wx = wc)
  case first =>
    have HRW := hide ((unhide HA).rows _ (List.mem_cons_self ..))
    cases z3 with
    | nil =>
      go_wp2_with fail
      go_meet
      case rel => exact ⟨rfl, rfl⟩
    | cons x zt =>
      have c0 : wc.cell? ⟨g, o2, none⟩ = some (.string ⟨x.toArray⟩) := by
        rcases (unhide HRW).1 with he | ⟨g', o', he, hg, hc⟩
        · cases he
        · cases he; simpa using hc 0 0 x _ rfl (by decide) rfl
      have HX := hide (bl_mk x)
      generalize (⟨x.toArray⟩ : ByteArray) = X at c0 HX
      clear HRW
      by_cases hx : x = [124]
      · subst hx
        obtain rfl : X = ⟨#[124]⟩ := of_bl (unhide HX)
        go_wp2_with fail
        go_meet
        case rel => exact ⟨by simp, rfl⟩
      · have HD : Hid (decide ((x :: zt).head? = some [124]) = false) := decide_eq_false (fun e => hx (Option.some.inj e))
        have d1 : (X.toList == [124]) = false := by rw [bl_toList, unhide HX]; exact beq_eq_false_iff_ne.2 hx
        clear hx
        go_wp2_with fail
        go_meet
        case rel => exact ⟨by rw [HD.out], rfl⟩
  case rest =>
    obtain ⟨rfl, rfl⟩ := hcut
    go_upto_if 78 with fail
    go_cut [4] from 7 (fun s4 wx => ∃ (o' c' : Nat) (fo : Option Addr) (fc : Nat), s4 = .slice (some ⟨g, o', none⟩) (gpW [124] z3).2.1.length c' ∧ (gpW [124] z3).2.1.length ≤ c' ∧ (gpW [124] z3).2.1.length ≤ 4294967290 ∧
      Hid (St w wx rb bb (updV (updV (updV (updV zV 0 (.slice ao k ac)) 1 (.string Y)) 2 (.slice bo k2 bc)) 3 (.slice fo (gpW [124] z3).1.length fc)) ((some ⟨g, o', none⟩, (gpW [124] z3).2.1) :: (fo, (gpW [124] z3).1) :: [(bo, z.take k2), (some ⟨g, o1, none⟩, z), (ao, ws.take k), (some ⟨g, o, none⟩, ws)])) ∧ Hid ((gpW [124] z3).2.2 = true) ∧ Hid (∀ x ∈ (gpW [124] z3).2.1, x.length ≤ 1099511627776))
    case first =>
      by_cases hh : z3.head? = some [124]
      · have HGP := hide (gpW_yes hh)
        obtain ⟨zt, rfl⟩ : ∃ zt, z3 = [124] :: zt := by
          cases z3 with
          | nil => cases hh
          | cons x q => exact ⟨q, by rw [Option.some.inj hh]⟩
        rw [decide_eq_true hh]
        rw [List.tail_cons] at HGP
        have HRW := hide ((unhide HA).rows _ (List.mem_cons_self ..))
        have HLT : Hid (∀ x ∈ zt, x.length ≤ 1099511627776) := fun x hx => (unhide HL3) x (List.mem_cons_of_mem _ hx)
        have hztl : zt.length + 1 ≤ 4294967290 := by simpa using hz3l
        have hztc : zt.length + 1 ≤ c2 := by simpa using hc3
        clear hh
        go_upto_region 13 with fail
        go_cut [6] from 7 (fun s6 wx => s6 = .int .i64 (cnW zt : Nat) ∧ wx = wc)
        case first =>
          by_cases hc1 : c2 = 1
          · subst hc1
            have HC : Hid (RowT wc (some ⟨g, o2, none⟩) zt) := Or.inl (List.eq_nil_of_length_eq_zero (by omega))
            go_wp2_with fail
            refine (rnames_any (some ⟨g, o2, none⟩) _ _ zt wc (by first | rfl | omega | simp) HC.out (by omega) HLT.out).mono ?_
            rintro e w7 ⟨rfl, rfl⟩
            go_wp2_with fail
            go_meet
            case rel => exact ⟨rfl, rfl⟩
          · have HC : Hid (RowT wc (some ⟨g, o2 + 1, none⟩) zt) := (RowF.cutS (unhide HRW) 1).1
            go_wp2_with fail
            refine (rnames_any (some ⟨g, o2 + 1, none⟩) _ _ zt wc (by first | rfl | omega | simp) HC.out (by omega) HLT.out).mono ?_
            rintro e w7 ⟨rfl, rfl⟩
            go_wp2_with fail
            go_meet
            case rel => exact ⟨rfl, rfl⟩
        case rest =>
          obtain ⟨rfl, rfl⟩ := hcut
          have hk3l := cn_le zt
          have HTG : Hid (tg zt = zt.take (cnW zt)) := rfl
          have HLG : Hid (lg zt = zt.drop (cnW zt)) := rfl
          rw [HTG.out, HLG.out] at HGP
          clear HTG HLG
          generalize cnW zt = k3 at *
          by_cases h0 : k3 = 0
          · have HN : Hid (res = none) := by
              show _ = _
              rw [unhide HE]
              exact gEnd_no4 (by rw [unhide HGP, h0]; rfl)
            have h0' : ((k3 : Int) == 0) = true := by rw [h0]; rfl
            have r0 : wc.cell? ⟨rb, 0, none⟩ = some (.slice none 0 0) := (unhide HA).r.c 0 (by decide)
            have r1 : wc.cell? ⟨rb, 1, none⟩ = some (.string ⟨#[]⟩) := (unhide HA).r.c 1 (by decide)
            have r2 : wc.cell? ⟨rb, 2, none⟩ = some (.slice none 0 0) := (unhide HA).r.c 2 (by decide)
            have r3 : wc.cell? ⟨rb, 3, none⟩ = some (.slice none 0 0) := (unhide HA).r.c 3 (by decide)
            have r4 : wc.cell? ⟨rb, 4, none⟩ = some (.slice none 0 0) := (unhide HA).r.c 4 (by decide)
            have g0 := (unhide HA).r.frz 0
            have g1 := (unhide HA).r.frz 1
            have g2 := (unhide HA).r.frz 2
            have g3 := (unhide HA).r.frz 3
            have g4 := (unhide HA).r.frz 4
            go_wp2_with fail
            refine bodyPost_ret (v := .tuple #[.agg #[.slice none 0 0, .string ⟨#[]⟩, .slice none 0 0, .slice none 0 0, .slice none 0 0], .int .i64 700]) ?_ rfl ?_
            · simp [results, Tryz.results53, go_sem, r0, r1, r2, r3, r4]
            exact RSays.none (five_rb (unhide HRB) (unhide HA).q _ _ _ _ _) HN.out
          · have h0' : ((k3 : Int) == 0) = false := beq_eq_false_iff_ne.2 (by omega)
            have hc1 : ¬ c2 = 1 := by omega
            have hkc3 : (k3 : Int) + 1 ≤ (c2 : Int) := by omega
            have hwr : IntKind.i64.wrap ((k3 : Int) + 1) = (k3 : Int) + 1 := IntWalk.i64_in _ (by omega)
            have hp0 : (0 : Int) ≤ (k3 : Int) + 1 := by omega
            have hp1 : (1 : Int) ≤ (k3 : Int) + 1 := by omega
            have hmx : (1 : Int) ≤ max ((k3 : Int) + 1) 0 := by omega
            have htn : ((k3 : Int) + 1).toNat = k3 + 1 := by omega
            have HRZ : Hid (RowF rb bb wc (some ⟨g, o2 + 1, none⟩) zt) := RowF.cutS (unhide HRW) 1
            have bf : wc.cell? ⟨bb, 3, none⟩ = some (.slice none 0 0) := (unhide HA).b.c 3 (by decide)
            have fbf := (unhide HA).b.frz 3
            go_wp2_with fail
            go_region_law (refine step_new i0 hi hz0 hz1 hz2 rfl (.tmp 86) (.tmp 90) rfl (by rfl) (some ⟨g, o2 + 1, none⟩) k3 (c2 - 1) (by rfl) (zt.take k3) (by rw [List.length_take]; omega) ((HRZ.out.take k3).q ((Q.refl _).drew)).1 (by omega) ?_; intro ao' cap' w5 ho5 hq5; have hB5 := hide (((unhide HA).b.q ((Q.refl _).drew)).q hq5); have b5 : w5.cell? ⟨bb, 3, none⟩ = some (.slice none 0 0) := (unhide hB5).c 3 (by decide); have f5 := (unhide hB5).frz 3)
            have H1 := hide ((unhide HA).put (i := 3) hq5 ho5 (by decide) (.slice ao' k3 cap'))
            have HRW5 := hide ((unhide H1).rows _ (List.mem_cons_of_mem _ (List.mem_cons_self ..)))
            have hki : (k3 : Int) + 1 ≤ ((zt.length : Int) + 1) := by omega
            have hlt3 : (zt.take k3).length = k3 := by rw [List.length_take]; omega
            have hld3 : (zt.drop k3).length = zt.length - k3 := List.length_drop
            have HF1 : Hid ((gpW [124] ([124] :: zt)).2.2 = true) := by show _ = _; rw [unhide HGP]; exact notEmpty (fun e => by rw [e] at hlt3; simp at hlt3; omega)
            have HF2 : Hid (∀ x ∈ (gpW [124] ([124] :: zt)).2.1, x.length ≤ 1099511627776) := by
              intro x hx; rw [unhide HGP] at hx; exact HLT.out x (List.mem_of_mem_drop hx)
            have HLT3 := hide hlt3
            have HLD3 := hide hld3
            clear ho5 hq5 hB5 bf fbf hlt3 hld3
            by_cases hcj : c2 = k3 + 1
            · have HC := hide (RowF.cutE (unhide HRW5) (k3 + 1) (by show zt.length + 1 ≤ _; omega))
              have HSt : Hid (St w (w5.setCell ⟨bb, 3, none⟩ (.slice ao' k3 cap')) rb bb (updV (updV (updV (updV zV 0 (.slice ao k ac)) 1 (.string Y)) 2 (.slice bo k2 bc)) 3 (.slice ao' k3 cap')) ((some ⟨g, o2, none⟩, zt.drop k3) :: (ao', zt.take k3) :: [(bo, z.take k2), (some ⟨g, o1, none⟩, z), (ao, ws.take k), (some ⟨g, o, none⟩, ws)])) := st_drop (unhide H1) (unhide HC)
              go_wp2_with fail
              go_meet
              case rel => exact ⟨o2, 0, ao', cap', by rw [unhide HGP]; show Value.slice _ _ _ = Value.slice _ (zt.drop k3).length _; rw [unhide HLD3], by rw [unhide HGP]; show (zt.drop k3).length ≤ _; rw [unhide HLD3]; omega, by rw [unhide HGP]; show (zt.drop k3).length ≤ _; rw [unhide HLD3]; omega, by rw [unhide HGP]; show Hid (St _ _ _ _ (updV _ _ (.slice _ (zt.take k3).length _)) _); rw [unhide HLT3]; exact HSt, HF1, HF2⟩
            · have HC := hide (RowF.cutS (unhide HRW5) (k3 + 1))
              have HSt : Hid (St w (w5.setCell ⟨bb, 3, none⟩ (.slice ao' k3 cap')) rb bb (updV (updV (updV (updV zV 0 (.slice ao k ac)) 1 (.string Y)) 2 (.slice bo k2 bc)) 3 (.slice ao' k3 cap')) ((some ⟨g, o2 + (k3 + 1), none⟩, zt.drop k3) :: (ao', zt.take k3) :: [(bo, z.take k2), (some ⟨g, o1, none⟩, z), (ao, ws.take k), (some ⟨g, o, none⟩, ws)])) := st_drop (unhide H1) (unhide HC)
              go_wp2_with fail
              go_meet
              case rel => exact ⟨o2 + (k3 + 1), c2 - (k3 + 1), ao', cap', by rw [unhide HGP]; show Value.slice _ _ _ = Value.slice _ (zt.drop k3).length _; rw [unhide HLD3], by rw [unhide HGP]; show (zt.drop k3).length ≤ _; rw [unhide HLD3]; omega, by rw [unhide HGP]; show (zt.drop k3).length ≤ _; rw [unhide HLD3]; omega, by rw [unhide HGP]; show Hid (St _ _ _ _ (updV _ _ (.slice _ (zt.take k3).length _)) _); rw [unhide HLT3]; exact HSt, HF1, HF2⟩
      · have HGP := hide (gpW_no hh)
        rw [decide_eq_false hh]
        have HSt : Hid (St w wc rb bb (updV (updV (updV (updV zV 0 (.slice ao k ac)) 1 (.string Y)) 2 (.slice bo k2 bc)) 3 (.slice none 0 0)) ((some ⟨g, o2, none⟩, z3) :: (none, []) :: [(bo, z.take k2), (some ⟨g, o1, none⟩, z), (ao, ws.take k), (some ⟨g, o, none⟩, ws)])) := st_none (unhide HA) 3 rfl
        go_wp2_with fail
        go_meet
        case rel => exact ⟨o2, c2, none, 0, by rw [unhide HGP], by rw [unhide HGP]; exact hc3, by rw [unhide HGP]; exact hz3l, by rw [unhide HGP]; exact HSt, by show _ = _; rw [unhide HGP], by rw [unhide HGP]; exact HL3⟩
    case rest =>
      obtain ⟨o3, c3, co, cc3, rfl, hc4, hz4l, HA4, HOK4, HL4⟩ := hcut
      clear HA HL3 hz3l hc3
      generalize gpW [124] z3 = ci at *
      obtain ⟨cl, z4, okc⟩ := ci
      obtain rfl : okc = true := HOK4.out
      apply_assumption
      exact words_18 HRB hkl hk2l HE HA4 hz4l hc4 HL4

set_option maxRecDepth 20000 in
set_option maxHeartbeats 8000000 in
theorem rWords_any (s : ByteArray) (w : World) (hs : s.size ≤ 1073741824) :
    Calls Tryz.prog 53 #[.string s] w fun e w' => RSays w w' e (bdR (bl s)) := by
  obtain ⟨i0, hi, hz0, hz1, hz2⟩ := info_parts Tryz.infoS
  have HR : Hid (bdR (bl s) = bdW (wdL (bl s))) := rfl
  have HLN : Hid (∀ x ∈ wdL (bl s), x.length ≤ 1099511627776) := by
    intro x hx
    have := wd_len x hx
    rw [bl_size] at this; omega
  generalize bdR (bl s) = res at HR
  generalize hws : wdL (bl s) = ws at HR HLN
  have HWS := hide hws
  clear hws
  go_enter Tryz.func53, Tryz.ntmps53
  go_wp2_with fail
  refine (rwords_any s _ hs).mono ?_
  rw [unhide HWS]
  rintro e w1 ⟨A, cap, rfl, hown, hwl, q1⟩
  rw [size_alloc] at hown
  have hcap := own_le hown
  have hBr : Bk w1 w.heap.size zV := bk_new q1
  have q01 : Below w.heap.size w w1 := Below.trans ((Q.refl w).alloc _) (Below.mono q1 (by simp))
  have hz := q1.size
  rw [size_alloc] at hz
  have HF : Hid (RowF w.heap.size w1.heap.size w1 A ws) := RowF.own hown (fun g h1 h2 => ⟨by omega, by omega⟩)
  clear hown
  obtain ⟨w2, hw2⟩ : ∃ w2 : World, w2 = w1.alloc (.cells #[.slice none 0 0, .string ⟨#[]⟩, .slice none 0 0, .slice none 0 0, .slice none 0 0] 58) := ⟨_, rfl⟩
  have q12 : Q w1 w2 := by rw [hw2]; exact (Q.refl w1).alloc _
  have hBb : Bk w2 w1.heap.size zV := by rw [hw2]; exact bk_new (Q.refl _)
  have HBb := hide hBb
  have HBr := hide (hBr.q q12)
  have HF2 := hide (HF.out.q q12)
  have q02 : Below w.heap.size w w2 := Below.trans q01 (Below.mono q12 (by omega))
  have hz12 := q12.size
  clear hBr hBb HF q01 q1
  go_wp2_with fail
  rw [← hw2]
  clear hw2 q12
  generalize hrb : w.heap.size = rb at *
  generalize w1.heap.size = bb at *
  have HRB := hide hrb
  clear hrb
  have hkl := cn_le ws
  refine (rnames_any A cap ws.length ws w2 rfl HF2.out.1 (by omega) HLN.out).mono ?_
  rintro e w3 ⟨rfl, rfl⟩
  have r0 : w3.cell? ⟨rb, 0, none⟩ = some (.slice none 0 0) := HBr.out.c 0 (by decide)
  have r1 : w3.cell? ⟨rb, 1, none⟩ = some (.string ⟨#[]⟩) := HBr.out.c 1 (by decide)
  have r2 : w3.cell? ⟨rb, 2, none⟩ = some (.slice none 0 0) := HBr.out.c 2 (by decide)
  have r3 : w3.cell? ⟨rb, 3, none⟩ = some (.slice none 0 0) := HBr.out.c 3 (by decide)
  have r4 : w3.cell? ⟨rb, 4, none⟩ = some (.slice none 0 0) := HBr.out.c 4 (by decide)
  have g0 := HBr.out.frz 0
  have g1 := HBr.out.frz 1
  have g2 := HBr.out.frz 2
  have g3 := HBr.out.frz 3
  have g4 := HBr.out.frz 4
  generalize hk : cnW ws = k at *
  have HK := hide hk
  clear hk
  by_cases e1 : k < 1
  · have HN : Hid (res = none) := HR.out.trans (rf_no1 (by rw [unhide HK]; exact e1))
    have e1' : (k : Int) < 1 := by omega
    go_wp2_with fail
    refine bodyPost_ret (v := .tuple #[.agg #[.slice none 0 0, .string ⟨#[]⟩, .slice none 0 0, .slice none 0 0, .slice none 0 0], .int .i64 700]) ?_ rfl ?_
    · simp [results, Tryz.results53, go_sem, r0, r1, r2, r3, r4]
    exact RSays.none (five_rb (unhide HRB) q02 _ _ _ _ _) HN.out
  have e1' : ¬ (k : Int) < 1 := by omega
  by_cases e2 : 8 < k
  · have HN : Hid (res = none) := HR.out.trans (rf_no2 (by rw [unhide HK]; exact e2))
    have e2' : (8 : Int) < k := by omega
    go_wp2_with fail
    refine bodyPost_ret (v := .tuple #[.agg #[.slice none 0 0, .string ⟨#[]⟩, .slice none 0 0, .slice none 0 0, .slice none 0 0], .int .i64 700]) ?_ rfl ?_
    · simp [results, Tryz.results53, go_sem, r0, r1, r2, r3, r4]
    exact RSays.none (five_rb (unhide HRB) q02 _ _ _ _ _) HN.out
  have e2' : ¬ (8 : Int) < k := by omega
  by_cases e3 : ws.length ≤ k + 1
  · have HN : Hid (res = none) := HR.out.trans (rf_no3 (by rw [unhide HK]; omega) (by rw [unhide HK]; exact e3))
    have e3' : (ws.length : Int) ≤ (k : Int) + 1 := by omega
    go_wp2_with fail
    refine bodyPost_ret (v := .tuple #[.agg #[.slice none 0 0, .string ⟨#[]⟩, .slice none 0 0, .slice none 0 0, .slice none 0 0], .int .i64 700]) ?_ rfl ?_
    · simp [results, Tryz.results53, go_sem, r0, r1, r2, r3, r4]
    exact RSays.none (five_rb (unhide HRB) q02 _ _ _ _ _) HN.out
  have e3' : ¬ (ws.length : Int) ≤ (k : Int) + 1 := by omega
  obtain ⟨x, hx⟩ : ∃ x, ws[k]? = some x := ⟨ws[k], List.getElem?_eq_getElem (by omega)⟩
  obtain ⟨y, hy⟩ : ∃ y, ws[k + 1]? = some y := ⟨ws[k + 1], List.getElem?_eq_getElem (by omega)⟩
  obtain ⟨hrow, hfar⟩ := HF2.out
  rcases hrow with he | ⟨g, o, rfl, hg, hc⟩
  · rw [he] at hx; simp at hx
  have cx : w3.cell? ⟨g, o + k, none⟩ = some (.string ⟨x.toArray⟩) := by simpa using hc k 0 x _ hx (by decide) rfl
  have cy : w3.cell? ⟨g, o + (k + 1), none⟩ = some (.string ⟨y.toArray⟩) := by simpa using hc (k + 1) 0 y _ hy (by decide) rfl
  have HX := hide (bl_mk x)
  have HY := hide (bl_mk y)
  generalize (⟨x.toArray⟩ : ByteArray) = X at cx HX
  generalize (⟨y.toArray⟩ : ByteArray) = Y at cy HY
  have hYz : Y.size ≤ maxLen := by rw [← bl_size, unhide HY]; have := HLN.out y (List.mem_of_getElem? hy); unfold maxLen; omega
  have HGX : Hid ((lg ws).head? = some x) := by show _ = _; rw [List.head?_eq_getElem?, lg_at, unhide HK, Nat.add_zero]; exact hx
  have HGY : Hid ((lg ws).tail.headD [] = y) := by
    show _ = _
    rw [List.headD_eq_head?_getD, List.head?_tail, lg_at, unhide HK, hy]; rfl
  have HYK := hide hy
  clear hc hx hy hfar hg
  by_cases e4 : x ≠ [58]
  · have HN : Hid (res = none) := HR.out.trans (rf_no4 (by rw [unhide HK]; omega) (by rw [HGX.out]; intro e; exact e4 (Option.some.inj e)))
    have d1 : (X.toList == [58]) = false := by rw [bl_toList, unhide HX]; exact beq_eq_false_iff_ne.2 e4
    have d2 : (X.toList != [58]) = true := by unfold bne; rw [d1]; rfl
    clear e4
    go_wp2_with fail
    refine bodyPost_ret (v := .tuple #[.agg #[.slice none 0 0, .string ⟨#[]⟩, .slice none 0 0, .slice none 0 0, .slice none 0 0], .int .i64 700]) ?_ rfl ?_
    · simp [results, Tryz.results53, go_sem, r0, r1, r2, r3, r4]
    exact RSays.none (five_rb (unhide HRB) q02 _ _ _ _ _) HN.out
  obtain rfl : x = [58] := Classical.not_not.1 e4
  obtain rfl : X = ⟨#[58]⟩ := of_bl (unhide HX)
  clear e4
  cases e5 : okN y
  · have HN : Hid (res = none) := HR.out.trans (rf_no5 (by rw [unhide HK]; omega) (by rw [HGY.out]; exact e5))
    have HM : Hid (mayB Y = false) := by show _ = _; rw [may_okN, unhide HY]; exact e5
    clear e5
    go_wp2_with fail
    refine (nameMay_any Y _ hYz).mono ?_
    rintro e w4 ⟨rfl, rfl⟩
    rw [HM.out]
    go_wp2_with fail
    refine bodyPost_ret (v := .tuple #[.agg #[.slice none 0 0, .string ⟨#[]⟩, .slice none 0 0, .slice none 0 0, .slice none 0 0], .int .i64 700]) ?_ rfl ?_
    · simp [results, Tryz.results53, go_sem, r0, r1, r2, r3, r4]
    exact RSays.none (five_rb (unhide HRB) q02 _ _ _ _ _) HN.out
  have HM : Hid (mayB Y = true) := by show _ = _; rw [may_okN, unhide HY]; exact e5
  have HE := hide (rf_end (ws := ws) (by rw [unhide HK]; omega) (by rw [unhide HK]; omega) HGX.out (by rw [HGY.out]; exact e5))
  rw [HGY.out, lg_two, unhide HK, ← unhide HY] at HE
  have HTG : Hid (tg ws = ws.take k) := by show _ = _; unfold tg; rw [unhide HK]
  rw [HTG.out, ← HR.out] at HE
  clear e5 HGX HX HTG HGY
  go_wp2_with fail
  refine (nameMay_any Y _ hYz).mono ?_
  rintro e w4 ⟨rfl, rfl⟩
  rw [HM.out]
  go_wp2_with fail
  clear HM
  have hkc : (k : Int) ≤ (cap : Int) := by omega
  have hrbb : rb < bb := by omega
  have H0 : Hid (St w w4 rb bb zV [(some ⟨g, o, none⟩, ws)]) := ⟨HBb.out, HBr.out, hrbb, q02, fun p hp => by rcases List.mem_singleton.1 hp with rfl; exact HF2.out⟩
  clear HBb HBr HF2 q02 r0 r1 r2 r3 r4 g0 g1 g2 g3 g4 cx cy
  have b0 : w4.cell? ⟨bb, 0, none⟩ = some (.slice none 0 0) := H0.out.b.c 0 (by decide)
  have fb0 := H0.out.b.frz 0
  go_cut [] from 7 (fun wc => ∃ (ao : Option Addr) (ac : Nat), Hid (St w wc rb bb (updV zV 0 (.slice ao k ac)) [(ao, ws.take k), (some ⟨g, o, none⟩, ws)]))
  case first =>
    go_region_law (refine step_new i0 hi hz0 hz1 hz2 rfl (.tmp 42) (.tmp 45) rfl (by rfl) (some ⟨g, o, none⟩) k cap (by rfl) (ws.take k) (by rw [List.length_take]; omega) ((H0.out.rows _ (List.mem_cons_self ..)).take k |>.q ((Q.refl _).drew)).1 (by omega) ?_; intro ao' cap' w5 ho5 hq5; have hB5 := hide ((H0.out.b.q ((Q.refl _).drew)).q hq5); have b5 : w5.cell? ⟨bb, 0, none⟩ = some (.slice none 0 0) := (unhide hB5).c 0 (by decide); have f5 := (unhide hB5).frz 0)
    have H1 := hide (H0.out.put (i := 0) hq5 ho5 (by decide) (.slice ao' k cap'))
    clear ho5 hq5 hB5
    go_wp2_with fail
    go_meet
    case rel => exact ⟨ao', cap', H1⟩
  case rest =>
    obtain ⟨ao, ac, H1⟩ := hcut
    clear H0 b0 fb0
    have cy : wc.cell? ⟨g, o + (k + 1), none⟩ = some (.string Y) := by
      rcases (H1.out.rows _ (List.mem_cons_of_mem _ (List.mem_cons_self ..))).1 with he | ⟨g', o', he, hg, hc⟩
      · exact absurd (show ws = [] from he) (by rintro rfl; simp at e3)
      · cases he
        have := hc (k + 1) 0 y _ (unhide HYK) (by decide) rfl
        rw [show (⟨y.toArray⟩ : ByteArray) = Y by rw [← unhide HY, (of_bl rfl : Y = ⟨(bl Y).toArray⟩).symm]] at this
        simpa using this
    have b1 : wc.cell? ⟨bb, 1, none⟩ = some (.string ⟨#[]⟩) := H1.out.b.c 1 (by decide)
    have fb1 := H1.out.b.frz 1
    have hk2 : (k : Int) + 2 ≤ (ws.length : Int) := by omega
    have H2 := hide (H1.out.set 1 (by decide) (.string Y))
    have hdl : (ws.drop (k + 2)).length = ws.length - (k + 2) := List.length_drop
    have HDL := hide hdl
    clear hdl H1
    go_upto_region 8 with fail
    obtain ⟨w6, hw6⟩ : ∃ w6 : World, w6 = wc.setCell ⟨bb, 1, none⟩ (.string Y) := ⟨_, rfl⟩
    rw [← hw6] at H2 ⊢
    clear hw6 cy b1 fb1
    go_cut [4] from 7 (fun s4 wx => ∃ (o1 c : Nat), s4 = .slice (some ⟨g, o1, none⟩) (ws.length - (k + 2)) c ∧ ws.length - (k + 2) ≤ c ∧ Hid (RowF rb bb w6 (some ⟨g, o1, none⟩) (ws.drop (k + 2))) ∧ wx = w6)
    case first =>
      have HRW := hide ((unhide H2).rows _ (List.mem_cons_of_mem _ (List.mem_cons_self ..)))
      by_cases hcj : cap = k + 2
      · have HC := hide (RowF.cutE (unhide HRW) (k + 2) (by show ws.length ≤ _; omega))
        go_wp2_with fail
        go_meet
        case rel => exact ⟨o, 0, rfl, by omega, HC, rfl⟩
      · have HC := hide (RowF.cutS (unhide HRW) (k + 2))
        go_wp2_with fail
        go_meet
        case rel => exact ⟨o + (k + 2), cap - (k + 2), rfl, by omega, HC, rfl⟩
    case rest =>
      obtain ⟨o1, c1, rfl, hc1, HZ, rfl⟩ := hcut
      rw [← unhide HDL] at *
      generalize hz : ws.drop (k + 2) = z at *
      have HZW := hide hz
      clear hz
      have HLZ : Hid (∀ x ∈ z, x.length ≤ 1099511627776) := fun x hx => HLN.out x (by rw [← unhide HZW] at hx; exact List.mem_of_mem_drop hx)
      have hzl : z.length ≤ ws.length := by have h := congrArg List.length (unhide HZW); rw [List.length_drop] at h; omega
      have H3 := hide ((unhide H2).add HZ.out)
      clear H2 HLN HYK HDL
      go_wp2_with fail
      refine (rnames_any (some ⟨g, o1, none⟩) c1 z.length z wc rfl HZ.out.1 (by omega) HLZ.out).mono ?_
      rintro e w7 ⟨rfl, rfl⟩
      clear HZ
      have hk2l := cn_le z
      have HTG : Hid (tg z = z.take (cnW z)) := rfl
      have HLG : Hid (lg z = z.drop (cnW z)) := rfl
      rw [HTG.out, HLG.out] at HE
      clear HTG HLG
      generalize cnW z = k2 at *
      go_wp2_with fail
      have hkc2 : (k2 : Int) ≤ (c1 : Int) := by omega
      have b2 : w7.cell? ⟨bb, 2, none⟩ = some (.slice none 0 0) := (unhide H3).b.c 2 (by decide)
      have fb2 := (unhide H3).b.frz 2
      go_cut [] from 7 (fun wc => ∃ (bo : Option Addr) (bc : Nat), Hid (St w wc rb bb (updV (updV (updV zV 0 (.slice ao k ac)) 1 (.string Y)) 2 (.slice bo k2 bc)) [(bo, z.take k2), (some ⟨g, o1, none⟩, z), (ao, ws.take k), (some ⟨g, o, none⟩, ws)]))
      case first =>
        go_region_law (refine step_new i0 hi hz0 hz1 hz2 rfl (.tmp 61) (.tmp 64) rfl (by rfl) (some ⟨g, o1, none⟩) k2 c1 (by rfl) (z.take k2) (by rw [List.length_take]; omega) (((unhide H3).rows _ (List.mem_cons_self ..)).take k2 |>.q ((Q.refl _).drew)).1 (by omega) ?_; intro ao' cap' w5 ho5 hq5; have hB5 := hide (((unhide H3).b.q ((Q.refl _).drew)).q hq5); have b5 : w5.cell? ⟨bb, 2, none⟩ = some (.slice none 0 0) := (unhide hB5).c 2 (by decide); have f5 := (unhide hB5).frz 2)
        have H1 := hide ((unhide H3).put (i := 2) hq5 ho5 (by decide) (.slice ao' k2 cap'))
        clear ho5 hq5 hB5
        go_wp2_with fail
        go_meet
        case rel => exact ⟨ao', cap', H1⟩
      case rest =>
        obtain ⟨bo, bc, H4⟩ := hcut
        clear H3 b2 fb2 e1' e2' e3' hk2 hkc hcap
        go_upto_region 11 with fail
        go_cut [4] from 7 (fun s4 wx => ∃ (o2 c : Nat), s4 = .slice (some ⟨g, o2, none⟩) (z.length - k2) c ∧ z.length - k2 ≤ c ∧ Hid (RowF rb bb wc (some ⟨g, o2, none⟩) (z.drop k2)) ∧ wx = wc)
        case first =>
          have HRW := hide ((unhide H4).rows _ (List.mem_cons_of_mem _ (List.mem_cons_self ..)))
          have hk2i : (k2 : Int) ≤ (z.length : Int) := by omega
          by_cases hcj : c1 = k2
          · have HC := hide (RowF.cutE (unhide HRW) k2 (by show z.length ≤ _; omega))
            go_wp2_with fail
            go_meet
            case rel => exact ⟨o1, 0, rfl, by omega, HC, rfl⟩
          · have HC := hide (RowF.cutS (unhide HRW) k2)
            go_wp2_with fail
            go_meet
            case rel => exact ⟨o1 + k2, c1 - k2, rfl, by omega, HC, rfl⟩
        case rest =>
          obtain ⟨o2, c2, rfl, hc2, HZ, rfl⟩ := hcut
          have hdl3 : (z.drop k2).length = z.length - k2 := List.length_drop
          rw [← hdl3] at *
          have HL3 : Hid (∀ x ∈ z.drop k2, x.length ≤ 1099511627776) := fun x hx => HLZ.out x (List.mem_of_mem_drop hx)
          have hz3l : (z.drop k2).length ≤ 4294967290 := by rw [List.length_drop]; omega
          have hc3 : (z.drop k2).length ≤ c2 := by rw [List.length_drop]; omega
          have HA := hide ((unhide H4).add HZ.out)
          clear hdl3 H4 HZ HLZ hc2
          generalize z.drop k2 = z3 at *
          apply_assumption
          exact words_12 HRB hkl hk2l HE HA hz3l hc3 HL3

end Go.Proofs.YtpddckgkaopnlaaGreatDoor
