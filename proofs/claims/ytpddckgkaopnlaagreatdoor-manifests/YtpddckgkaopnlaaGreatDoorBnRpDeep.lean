/- Several texts of mine in one: RpFlat, RpDeep. -/
import Derived.Test.YtpddckgkaopnlaaGreatDoorRpBuild
/- The document's own parser: a line that is not deep, behind what was over; a deep line below a build line; the conditions: the parser lies in memory. -/
namespace Go.Proofs.YtpddckgkaopnlaaGreatDoor
open Go.RowKit

theorem rflat_any (B P : Nat) (s : Sm) (l : ByteArray) (w : World) (h : RS B w P s) (hun : s.un = none) (hB : B ≤ w.heap.size) (hl : l.size ≤ 2049) :
    Calls Tryz.prog 16 #[.pointer (some ⟨P, 0, none⟩), .string l] w (RL B P (fwL s (bl l)) w) := by
  obtain ⟨ok, hm, ps, A, op, b0, b1, b2, b3, b4, vo, h, hu⟩ := h
  unfold UnP at hu
  rw [hun] at hu
  obtain ⟨rfl, hps, hrs⟩ := hu
  by_cases h1 : (hdL (bl l)).1 = kRule
  · exact rflat_rule B P s ps A b0 b1 b2 b3 b4 vo l w h hps hrs ok hm hB hl h1
  · by_cases h2 : (hdL (bl l)).1 = kPool
    · exact rflat_pool B P s ps A b0 b1 b2 b3 b4 vo l w h hps hrs ok hm hB hl h2
    · by_cases h3 : (hdL (bl l)).1 = kBuild
      · exact rflat_build B P s ps A b0 b1 b2 b3 b4 vo l w h hps hrs ok hm hB hl h3
      · by_cases h4 : (hdL (bl l)).1 = kDefault
        · exact rflat_default B P s ps A b0 b1 b2 b3 b4 vo l w h hps hrs ok hm hB hl h4
        · exact rflat_bind B P s ps A b0 b1 b2 b3 b4 vo l w h hps hrs ok hm hB hl h1 h2 h3 h4

/-- A build line's own scope is set. -/
theorem own_rs {B P : Nat} {w2 : World} {s : Sm} {ps : List Pl} {A : RpA} {op : Int} {b0 b1 b2 b3 b4 vo : Value} {x : Ed × Rl × List Bd} {bs : List Bd} {ao : Option Addr} {cap : Nat} (hun : s.un = some (.inr (.inr x))) (h : Rp B w2 P s ps A op b0 b1 b2 b3 b4 vo) (hu : UnP B w2 s ps A op b0 b1 b2 b3 b4 vo) (ho : OwnD w2 B ao cap bs)
    (ok : SmOk ⟨s.es, s.ps, s.ds, s.rs, s.bs, some (.inr (.inr (x.1, x.2.1, bs)))⟩) (hm : SmMay ⟨s.es, s.ps, s.ds, s.rs, s.bs, some (.inr (.inr (x.1, x.2.1, bs)))⟩) :
    RS B (w2.setCell ⟨P, 11, none⟩ (.slice ao bs.length cap)) P ⟨s.es, s.ps, s.ds, s.rs, s.bs, some (.inr (.inr (x.1, x.2.1, bs)))⟩ := by
  have hr := h.ro.set h.blk 11 (.slice ao bs.length cap)
  unfold UnP at hu
  rw [hun] at hu
  obtain ⟨h1, h2, h3, y, no, nc, h4, h5, h6, h7, h8, h9, h10, h11, h12, h13, h14, h15⟩ := hu
  exact ⟨ok, hm, ps, A, op, b0, b1, b2, b3, b4, .slice ao bs.length cap, ⟨h.blk.set 11 _, h.lo, ⟨hr.e, hr.em, hr.p, hr.d, hr.r, hr.o, hr.q, hr.nd⟩⟩, ⟨h1, h2, h3, y, ao, cap, h4, h5, h6, h7, h8, h9, h10.set h.blk 11 _, h11, rfl, own_setP ho h.blk (by decide) 11 _, h14, h15⟩⟩

set_option maxRecDepth 20000 in
set_option maxHeartbeats 4000000 in
theorem rdeep_build (B P : Nat) (s : Sm) (l : ByteArray) (x : Ed × Rl × List Bd) (w : World) (h : RS B w P s) (hun : s.un = some (.inr (.inr x))) (hB : B ≤ w.heap.size) (hl : l.size ≤ 2049) (hpl : plainL (bl l) = true) :
    Calls Tryz.prog 14 #[.pointer (some ⟨P, 0, none⟩), .string l] w (RL B P (dpL s (bl l)) w) := by
  obtain ⟨ok, hm, ps, A, op, b0, b1, b2, b3, b4, vo, h, hu⟩ := h
  have hu2 := hu
  unfold UnP at hu2
  rw [hun] at hu2
  obtain ⟨h1, h2, h3, y, no, nc, h4, h5, h6, h7, h8, h9, h10, h11, h12, h13, h14, h15⟩ := hu2
  have hso : scOk x.2.2 = true := by
    have := ok.un
    unfold UnOk at this
    rw [hun] at this
    exact this.2.2.2.2
  have c5 := h.cells.c5
  rw [h1] at c5
  have hk11 : (rpC A s ps op b0 b1 b2 b3 b4 vo)[11]? = some (.slice no x.2.2.length nc) := by rw [h12]; rfl
  have HC := hide (rbind_own P l x.2.2 no nc s.bs A.oo A.oc w h.blk rfl hk11 (read_own h.ro.o ok.bs) (read_own h13 hso) (by omega))
  have HFIN : Hid (∀ e w', BdSays P 11 x.2.2 s.bs (bl l) w e w' → RL B P (dpL s (bl l)) w e w') := by
    intro e w' hb
    unfold BdSays at hb
    cases hbn : bnL (bl l) with
    | none =>
      rw [hbn] at hb
      obtain ⟨rfl, q'⟩ := hb
      exact RL.err (by unfold dpL; rw [hbn]) (q'.mono hB)
    | some z =>
      rw [hbn] at hb
      simp only at hb
      have hd : dpL s (bl l) = match stL x.2.2 s.bs z.1 z.2 with | .error n => .error n | .ok own => .ok ⟨s.es, s.ps, s.ds, s.rs, s.bs, some (.inr (.inr (x.1, x.2.1, own)))⟩ := by
        unfold dpL tkL
        rw [hbn]
        simp only
        rw [hun]
        simp only
        all_goals (cases stL x.2.2 s.bs z.1 z.2 <;> rfl)
      cases hst : stL x.2.2 s.bs z.1 z.2 with
      | error n =>
        rw [hst] at hb hd
        obtain ⟨rfl, q'⟩ := hb
        exact RL.err hd (q'.mono hB)
      | ok bs =>
        rw [hst] at hb hd
        simp only at hd
        obtain ⟨rfl, w3, ao, cap, q3, ho, rfl⟩ := hb
        have hp3 := h.q q3
        have htk : tkL s z.1 z.2 = .ok ⟨s.es, s.ps, s.ds, s.rs, s.bs, some (.inr (.inr (x.1, x.2.1, bs)))⟩ := by
          have : dpL s (bl l) = tkL s z.1 z.2 := by unfold dpL; rw [hbn]
          rw [← this]; exact hd
        have hzl : z.2.length ≤ 4096 := by have := (bnL_len hbn).2.1; rw [bl_size] at this; omega
        refine RL.ok hd ?_ (own_rs hun hp3 (hu.q q3) (own_low ho hB) (ok_tk htk ok hzl) (tk_may htk hm (bn_plain hbn hpl).1))
        exact Below.trans (q3.mono hB) (hp3.below (Nat.le_trans hB q3.size) 11 _)
  generalize dpL s (bl l) = RES at *
  clear h hu ok hm h1 h2 h3 h4 h5 h6 h7 h8 h9 h10 h11 h12 h13 h14 h15 hso hk11 hun
  go_enter Tryz.func14, Tryz.ntmps14
  go_wp2_with fail
  refine (unhide HC).mono ?_
  intro e w3 hb
  have hR := HFIN.out e w3 hb
  have he : ∃ n, e = .returned (.int .i64 n) := by
    unfold RL at hR
    obtain ⟨_, h⟩ := hR
    split at h
    · exact ⟨_, h⟩
    · exact ⟨_, h.1⟩
  obtain ⟨n, rfl⟩ := he
  have HR := hide hR
  clear hR hb
  go_wp2_with fail
  go_ret
  exact unhide HR

end Go.Proofs.YtpddckgkaopnlaaGreatDoor

/- The document's own parser: a deep line with nothing under way; the conditions: the parser lies in memory. -/
namespace Go.Proofs.YtpddckgkaopnlaaGreatDoor
open Go.RowKit

theorem dp_none {s : Sm} {l : Tx} (h : s.un = none) : dpL s l = .error 800 := by
  unfold dpL tkL
  rw [h]
  cases bnL l <;> rfl

set_option maxRecDepth 20000 in
set_option maxHeartbeats 2000000 in
theorem rdeep_none (B P : Nat) (s : Sm) (l : ByteArray) (w : World) (h : RS B w P s) (hun : s.un = none) (hB : B ≤ w.heap.size) (hl : l.size ≤ 2049) :
    Calls Tryz.prog 14 #[.pointer (some ⟨P, 0, none⟩), .string l] w (RL B P (dpL s (bl l)) w) := by
  obtain ⟨ok, hm, ps, A, op, b0, b1, b2, b3, b4, vo, h, hu⟩ := h
  unfold UnP at hu
  rw [hun] at hu
  obtain ⟨rfl, hps, hrs⟩ := hu
  have HX := hide (dp_none (l := bl l) hun)
  have HL := hide (bindLine_any l w (by unfold maxLen; omega))
  have HC5 : Hid (∀ w2, Q w w2 → w2.cell? ⟨P, 5, none⟩ = some (.int .i64 0)) := fun w2 q => (h.q q).cells.c5
  have c5 := h.cells.c5
  have HBW : Hid (∀ w', Q w w' → Below B w w') := fun w' q => q.mono hB
  clear ok hm hps hrs h hun
  generalize dpL s (bl l) = RES at *
  generalize (⟨(bnR (bl l)).1.toArray⟩ : ByteArray) = n1 at *
  generalize (⟨(bnR (bl l)).2.1.toArray⟩ : ByteArray) = n2 at *
  generalize (bnR (bl l)).2.2 = n3 at *
  go_enter Tryz.func14, Tryz.ntmps14
  go_wp2_with fail
  refine (unhide HL).mono ?_
  rintro e w1 ⟨rfl, q1⟩
  have y5 := HC5.out w1 q1
  clear c5
  cases n3
  · go_wp2_with fail
    go_ret
    exact RL.err (unhide HX) (HBW.out _ q1)
  · go_wp2_with fail
    go_ret
    exact RL.err (unhide HX) (HBW.out _ q1)

end Go.Proofs.YtpddckgkaopnlaaGreatDoor
