/- The graphs that every statement on orders asks of first; two rows of numbers are held against each other; no conditions. -/
import Derived.Test.YtfadjppokbolhaaDoorOrOf
import Derived.Test.YtfadjppokbolhaaDoorGfGiven
import Derived.Test.YtfadjppokbolhaaDoorNmWalks
import Derived.Test.YtfadjppokbolhaaDoorAfQuiet
namespace Go.Proofs.YtfadjppokbolhaaDoor
open Go.RowKit

theorem take_eq_succ {α : Type} {xs ys : List α} {k : Nat} {x y : α} (hx : xs[k]? = some x) (hy : ys[k]? = some y) (h : xs.take k = ys.take k) (he : x = y) : xs.take (k + 1) = ys.take (k + 1) := by
  rw [List.take_add_one, List.take_add_one, hx, hy, h, he]
theorem take_ne {α : Type} {xs ys : List α} {k : Nat} {x y : α} (hx : xs[k]? = some x) (hy : ys[k]? = some y) (he : x ≠ y) : ¬ xs = ys := fun h => by
  rw [h, hy] at hx; exact he (Option.some.inj hx).symm

set_option maxHeartbeats 4000000 in
theorem sameI_any (xs ys : List Nat) (ao bo : Option Addr) (ac bc : Nat) (w : World) (hx : RowI w ao xs) (hy : RowI w bo ys) (hl : xs.length ≤ 4096) :
    Calls Tryd.prog 13 #[.slice ao xs.length ac, .slice bo ys.length bc] w fun e w' => e = .returned (.bool (decide (xs = ys))) ∧ Q w w' := by
  by_cases hn : xs.length = ys.length
  case neg =>
    have HO : Hid (decide (xs = ys) = false) := decide_eq_false (fun h => hn (by rw [h]))
    have hb : ((xs.length : Int) != (ys.length : Int)) = true := by simp; omega
    clear hn hx hy
    go_enter Tryd.func13, Tryd.ntmps13
    go_wp2_with fail
    go_ret
    exact ⟨ret_bool HO.out.symm, Q.refl _⟩
  case pos =>
    have hb : ((xs.length : Int) != (ys.length : Int)) = false := by simp; omega
    have HN := hide hn
    have HX := hide hx
    have HY := hide hy
    clear hn hx hy
    go_enter Tryd.func13, Tryd.ntmps13
    go_wp2_with fail
    go_loopw [5] (fun i wr => ∃ k : Nat, k ≤ xs.length ∧ i = .int .i64 k ∧ Hid (xs.take k = ys.take k) ∧ Q w wr) (fun i _ => xs.length - (intOf i).toNat)
    case atStart => exact ⟨0, Nat.zero_le _, rfl, rfl, Q.refl _⟩
    case round =>
      obtain ⟨k, hk, rfl, HA, hq⟩ := hrel
      by_cases hlt : k < xs.length
      · have hlt2 : k < ys.length := by have := HN.out; omega
        rcases (unhide HX).q hq with he | ⟨g, o, rfl, hg, hcell⟩
        · rw [he] at hlt; simp at hlt
        rcases (unhide HY).q hq with he | ⟨g2, o2, rfl, hg2, hcell2⟩
        · rw [he] at hlt2; simp at hlt2
        obtain ⟨a, ha⟩ : ∃ a, xs[k]? = some a := ⟨_, List.getElem?_eq_getElem hlt⟩
        obtain ⟨b, hbb⟩ : ∃ b, ys[k]? = some b := ⟨_, List.getElem?_eq_getElem hlt2⟩
        have ca : wr.cell? ⟨g, o + k, none⟩ = some (.int .i64 (a : Int)) := by have := hcell k 0 a _ ha (by decide) rfl; simpa using this
        have cb : wr.cell? ⟨g2, o2 + k, none⟩ = some (.int .i64 (b : Int)) := by have := hcell2 k 0 b _ hbb (by decide) rfl; simpa using this
        have hqq : ∀ n, Q w (wr.drewN n) := fun n => hq.drewN n
        have k1 : (k : Int) < (xs.length : Int) := by omega
        have k2 : (k : Int) < (ys.length : Int) := by omega
        have HT := hide (fun h => take_eq_succ ha hbb HA.out h)
        have HF := hide (fun h => take_ne ha hbb h)
        clear hcell hcell2 ha hbb
        by_cases hab : a = b
        · have HO : Hid (xs.take (k + 1) = ys.take (k + 1)) := unhide HT hab
          have hab2 : ((a : Int) != (b : Int)) = false := by simp; omega
          clear HT HF hab HA
          go_wp2_with fail
          go_quiet (fail)
          go_wp2_with fail
          go_roundw
          case rel => exact ⟨k + 1, by omega, by go_num, HO, hqq _⟩
          case measure => simp [intOf]; omega
        · have HO : Hid (decide (xs = ys) = false) := decide_eq_false (unhide HF hab)
          have hab2 : ((a : Int) != (b : Int)) = true := by simp; omega
          clear HT HF hab HA
          go_wp2_with fail
          go_quiet (fail)
          go_wp2_with fail
          go_ret
          exact ⟨ret_bool HO.out.symm, hqq _⟩
      · have HO : Hid (decide (xs = ys) = true) := by
          refine decide_eq_true ?_
          have h := HA.out
          rw [List.take_of_length_le (by omega), List.take_of_length_le (by have := HN.out; omega)] at h
          exact h
        clear HA
        go_wp2_with fail
        go_ret
        exact ⟨ret_bool HO.out.symm, hq⟩

/-- Any graph in memory, what Of answers of it. -/
def OSays (w : World) (v : Value) (g : Gh) : Prop :=
  ∀ w2, Q w w2 → Calls Tryd.prog 8 #[v] w2 fun e w' => ∃ ao cap, e = .returned (.tuple #[.slice ao (orL g).length cap, .int .i64 (orE g)]) ∧ OwnI w' w2.heap.size ao cap (orL g) ∧ Q w2 w'
theorem GfR.osays {w : World} {g : Gh} {es : List EdA} {eo po dd : Option Addr} (h : GfR w g es eo po dd) (ec pc dc : Nat) (hc : g.2.1.length ≤ pc) (hm : pc ≤ maxLen) : OSays w (.agg #[.slice eo es.length ec, .slice po g.2.1.length pc, .slice dd g.2.2.length dc]) g :=
  fun w2 q => orOf_any g es eo po dd ec pc dc w2 (h.q' q) hc hm
theorem OSays.at {w : World} {v : Value} {g : Gh} {n : Int} {r : List Nat} (h : OSays w v g) (h1 : orE g = n) (h2 : orL g = r) : ∀ w2, Q w w2 → Calls Tryd.prog 8 #[v] w2 fun e w' => ∃ ao cap, e = .returned (.tuple #[.slice ao r.length cap, .int .i64 n]) ∧ OwnI w' w2.heap.size ao cap r ∧ Q w2 w' := by
  have := h
  unfold OSays at this
  rwa [h1, h2] at this

abbrev gvV' (n : Nat) : Value := .agg #[.slice (at0 (n + 9)) 3 3, .slice (at0 (n + 10)) 1 1, .slice (at0 (n + 11)) 1 1]
def oaD : Ed := ([sAo, sAd], [sAc], [sAh], [sLib], [99, 99, 32, 97], true, sTwo)
def obD : Ed := ([sAo, sAd], [sAc], [sAh], [sLib], [], true, sTwo)
def oaG : Gh := ([gvD0, oaD, gvD2], [(sTwo, 2)], [sLib])
def obG : Gh := ([gvD0, obD, gvD2], [(sTwo, 2)], [sLib])
def oaX (n m : Nat) : EdA := (oaD, (at0 (n + 3), 2), (at0 (n + 4), 1), (at0 (n + 5), 1), (at0 m, 1))
def obX (n m : Nat) : EdA := (obD, (at0 (n + 3), 2), (at0 (n + 4), 1), (at0 (n + 5), 1), (at0 m, 1))
def oaC (n m : Nat) : Array Value := (gvEc n).setIfInBounds 10 (.slice (at0 m) 1 1)
theorem gv_osays {w : World} {n : Nat} (h : Gv w n (gvEc n) gvPc) : OSays w (gvV' n) gvG := h.gr.osays 3 1 1 (Nat.le_refl 1) (by decide)
theorem oa_osays {w : World} {n m : Nat} (h : Gv w n (oaC n m) gvPc) (hm : Blk w m #[.string ⟨sLib.toArray⟩] 9) : OSays w (gvV' n) oaG :=
  (gr_three (x0 := gvX0 n) (x1 := oaX n m) (x2 := gvX2 n) [(sTwo, 2)] h.e rfl h.p rfl h.dd h.x0 ⟨h.x1.a, h.x1.b, h.x1.c, tvR hm _ rfl⟩ h.x2 (ghz_of (show ghzB oaG = true by decide +kernel))).osays 3 1 1 (Nat.le_refl 1) (by decide)
theorem ob_osays {w : World} {n m : Nat} (h : Gv w n ((oaC n m).setIfInBounds 11 (.string ⟨#[]⟩)) gvPc) (hm : Blk w m #[.string ⟨sLib.toArray⟩] 9) : OSays w (gvV' n) obG :=
  (gr_three (x0 := gvX0 n) (x1 := obX n m) (x2 := gvX2 n) [(sTwo, 2)] h.e rfl h.p rfl h.dd h.x0 ⟨h.x1.a, h.x1.b, h.x1.c, tvR hm _ rfl⟩ h.x2 (ghz_of (show ghzB obG = true by decide +kernel))).osays 3 1 1 (Nat.le_refl 1) (by decide)
theorem or_gv : orE gvG = 0 ∧ orL gvG = [1, 2, 0] := by decide +kernel
theorem or_oa : orE oaG = 1001 ∧ orL oaG = [] := by decide +kernel
theorem or_ob : orE obG = 1000 ∧ orL obG = [] := by decide +kernel

def wOa (w : World) (n : Nat) : World := ((w.alloc (.cells #[.slice (at0 (n + 9)) 3 3, .slice (at0 (n + 10)) 1 1, .slice (at0 (n + 11)) 1 1] 26)).alloc (.cells #[.string ⟨#[108, 105, 98]⟩] 9)).setCell ⟨n + 9, 10, none⟩ (.slice (at0 (w.heap.size + 1)) 1 1)
theorem wOa_facts {w4 w : World} (q : Q w4 w) (h : Gv w w4.heap.size (gvEc w4.heap.size) gvPc) :
    Gv (wOa w w4.heap.size) w4.heap.size (oaC w4.heap.size (w.heap.size + 1)) gvPc ∧ Blk (wOa w w4.heap.size) (w.heap.size + 1) #[.string ⟨sLib.toArray⟩] 9 ∧ Blk (wOa w w4.heap.size) w.heap.size #[.slice (at0 (w4.heap.size + 9)) 3 3, .slice (at0 (w4.heap.size + 10)) 1 1, .slice (at0 (w4.heap.size + 11)) 1 1] 26 ∧ Q w4 (wOa w w4.heap.size) := by
  have hh := h.hi
  have h1 := (h.q ((Q.refl w).alloc (.cells #[.slice (at0 (w4.heap.size + 9)) 3 3, .slice (at0 (w4.heap.size + 10)) 1 1, .slice (at0 (w4.heap.size + 11)) 1 1] 26))).q ((Q.refl _).alloc (.cells #[.string ⟨#[108, 105, 98]⟩] 9))
  have hb := (Blk.new w #[.slice (at0 (w4.heap.size + 9)) 3 3, .slice (at0 (w4.heap.size + 10)) 1 1, .slice (at0 (w4.heap.size + 11)) 1 1] 26).q ((Q.refl _).alloc (.cells #[.string ⟨#[108, 105, 98]⟩] 9))
  have hl := Blk.new (w.alloc (.cells #[.slice (at0 (w4.heap.size + 9)) 3 3, .slice (at0 (w4.heap.size + 10)) 1 1, .slice (at0 (w4.heap.size + 11)) 1 1] 26)) #[.string ⟨#[108, 105, 98]⟩] 9
  rw [size_alloc] at hl
  exact ⟨h1.setE 10 _, hl.other (by omega) _ _, hb.other (by omega) _ _, ((q.alloc _).alloc _).setHi (by omega) _ _⟩
theorem wOb_facts {w4 w : World} {m b : Nat} (q : Q w4 w) (h : Gv w w4.heap.size (oaC w4.heap.size m) gvPc) (hm : Blk w m #[.string ⟨sLib.toArray⟩] 9) (hb : Blk w b #[.slice (at0 (w4.heap.size + 9)) 3 3, .slice (at0 (w4.heap.size + 10)) 1 1, .slice (at0 (w4.heap.size + 11)) 1 1] 26) :
    OSays (w.setCell ⟨w4.heap.size + 9, 11, none⟩ (.string ⟨#[]⟩)) (gvV' w4.heap.size) obG ∧ Blk (w.setCell ⟨w4.heap.size + 9, 11, none⟩ (.string ⟨#[]⟩)) b #[.slice (at0 (w4.heap.size + 9)) 3 3, .slice (at0 (w4.heap.size + 10)) 1 1, .slice (at0 (w4.heap.size + 11)) 1 1] 26 ∧ Q w4 (w.setCell ⟨w4.heap.size + 9, 11, none⟩ (.string ⟨#[]⟩)) :=
  ⟨ob_osays (h.setE 11 _) (hm.other (Blk.ne hm h.e (by decide)) _ _), hb.other (Blk.ne hb h.e (by decide)) _ _, q.setHi (by omega) _ _⟩

set_option maxRecDepth 20000 in
set_option maxHeartbeats 8000000 in
theorem oawake_any (w : World) :
    Calls Tryd.prog 7 #[] w fun e w' => e = .returned (.bool true) ∧ Q w w' := by
  go_enter Tryd.func7, Tryd.ntmps7
  go_wp2_with fail
  refine (given_any w).mono ?_
  rintro e w1 ⟨rfl, v1, q1⟩
  have H1 := hide ((gv_osays v1).at or_gv.1 or_gv.2 w1 (Q.refl _))
  clear v1
  go_wp2_with fail
  refine (unhide H1).mono ?_
  rintro e w2 ⟨ao, cap, rfl, own2, q2⟩
  have qw2 := q1.trans q2
  have HR := hide own2.row
  clear H1 q1 q2 own2
  go_wp2_with fail
  refine (given_any w2).mono ?_
  rintro e w3 ⟨rfl, v3, q3⟩
  have HF := hide (wOa_facts q3 v3)
  have f3 : ∀ o1 o2, ((w3.alloc o1).alloc o2).frozen? ⟨w2.heap.size + 9, 10, none⟩ = false := fun o1 o2 => (v3.e.q (((Q.refl _).alloc o1).alloc o2)).frz 10
  have d3 : ∀ o1 o2, ((w3.alloc o1).alloc o2).cell? ⟨w2.heap.size + 9, 10, none⟩ = some (.slice none 0 0) := fun o1 o2 => (v3.e.q (((Q.refl _).alloc o1).alloc o2)).cell 10 rfl
  clear v3 q3
  go_wp2_with fail
  change Calls _ _ _ (wOa w3 w2.heap.size) _
  obtain ⟨sb, lb, bb, qb⟩ := unhide HF
  have HSB := hide sb
  have HLB := hide lb
  have HBB := hide bb
  have H4 := hide ((oa_osays sb lb).at or_oa.1 or_oa.2 _ (Q.refl _))
  clear HF f3 d3 sb lb bb
  generalize wOa w3 w2.heap.size = w4 at *
  generalize w3.heap.size = b3 at *
  refine (unhide H4).mono ?_
  rintro e w5 ⟨ao5, cap5, rfl, _, q5⟩
  have qw5 := qb.trans q5
  have HF5 := hide (wOb_facts qw5 ((unhide HSB).q q5) ((unhide HLB).q q5) ((unhide HBB).q q5))
  have b0 : w5.cell? ⟨b3, 0, none⟩ = some (.slice (at0 (w2.heap.size + 9)) 3 3) := ((unhide HBB).q q5).cell 0 rfl
  have f5 : w5.frozen? ⟨w2.heap.size + 9, 11, none⟩ = false := ((unhide HSB).q q5).e.frz 11
  have d5 : w5.cell? ⟨w2.heap.size + 9, 11, none⟩ = some (.string ⟨#[99, 99, 32, 97]⟩) := ((unhide HSB).q q5).e.cell 11 rfl
  clear H4 HSB HLB HBB qb q5
  have z0 : (w5.setCell ⟨w2.heap.size + 9, 11, none⟩ (.string ⟨#[]⟩)).cell? ⟨b3, 0, none⟩ = some (.slice (at0 (w2.heap.size + 9)) 3 3) := (unhide HF5).2.1.cell 0 rfl
  have z1 : (w5.setCell ⟨w2.heap.size + 9, 11, none⟩ (.string ⟨#[]⟩)).cell? ⟨b3, 1, none⟩ = some (.slice (at0 (w2.heap.size + 10)) 1 1) := (unhide HF5).2.1.cell 1 rfl
  have z2 : (w5.setCell ⟨w2.heap.size + 9, 11, none⟩ (.string ⟨#[]⟩)).cell? ⟨b3, 2, none⟩ = some (.slice (at0 (w2.heap.size + 11)) 1 1) := (unhide HF5).2.1.cell 2 rfl
  have HQ6 := hide (unhide HF5).2.2
  have H6 := hide ((unhide HF5).1.at or_ob.1 or_ob.2 _ (Q.refl _))
  clear HF5 qw5
  go_wp2_with fail
  refine (unhide H6).mono ?_
  rintro e w7 ⟨ao7, cap7, rfl, _, q7⟩
  have q27 := (unhide HQ6).trans q7
  have HS := hide (sameI_any [1, 2, 0] [1, 2, 0] ao (some ⟨w7.heap.size, 0, none⟩) cap 3 (w7.alloc (.cells #[.int .i64 1, .int .i64 2, .int .i64 0] 3)) ((unhide HR).q (q27.alloc _)) (rowB iv_len (Blk.new w7 #[.int .i64 1, .int .i64 2, .int .i64 0] 3) [1, 2, 0] rfl) (by decide))
  clear H6 HQ6 HR q7 z0 z1 z2 b0 d5 f5
  go_wp2_with fail
  refine (unhide HS).mono ?_
  rintro e w8 ⟨rfl, q8⟩
  have q28 := (q27.alloc _).trans q8
  clear HS q8
  go_wp2_with (go_at_call 9; refine (num_any _ _).mono ?_; rintro e w9 ⟨rfl, rfl⟩)
  go_ret
  exact ⟨rfl, qw2.trans q28⟩

end Go.Proofs.YtfadjppokbolhaaDoor
