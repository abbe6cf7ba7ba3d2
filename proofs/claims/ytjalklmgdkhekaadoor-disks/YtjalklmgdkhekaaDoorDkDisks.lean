/- What the statement on the document's own answers leans on; no conditions. -/
import Derived.Test.YtjalklmgdkhekaaDoorDkCopy
import Derived.Test.YtjalklmgdkhekaaDoorDkRPutAll
import Derived.Test.YtjalklmgdkhekaaDoorDkOther
namespace Go.Proofs.YtjalklmgdkhekaaDoor
open Go.RowKit

theorem rput_any' {c' m : Int} {fs' : List Fl} {k : Nat} (c : Int) (fs : List Fl) (ao : Option Addr) (cap : Nat) (n : ByteArray) (x : Int) (w : World) (h : putC c fs (bl n) x = c' ∧ putF c fs (bl n) x = fs' ∧ putE c fs (bl n) x = m ∧ fs'.length = k) (hr : RowK w ao fs) (hz : FlZ fs) (hs : fs.length ≤ cap) (hcap : cap ≤ maxLen) (hn : n.size ≤ maxLen) :
    Calls Tryd.prog 6 #[.agg #[.int .i64 c, .slice ao fs.length cap], .string n, .int .i64 x] w fun e w' => ∃ ao' cap', e = .returned (.tuple #[.agg #[.int .i64 c', .slice ao' k cap'], .int .i64 m]) ∧ OwnK w' w.heap.size ao' cap' fs' ∧ Q w w' := by
  obtain ⟨rfl, rfl, rfl, rfl⟩ := h
  exact rput_any c fs ao cap n x w hr hz hs hcap hn
theorem rrem_any' {c' m : Int} {fs' : List Fl} {k : Nat} (c : Int) (fs : List Fl) (ao : Option Addr) (cap : Nat) (n : ByteArray) (w : World) (h : remC c fs (bl n) = c' ∧ remF c fs (bl n) = fs' ∧ remE c fs (bl n) = m ∧ fs'.length = k) (hr : RowK w ao fs) (hz : FlZ fs) (hs : fs.length ≤ cap) (hcap : cap ≤ maxLen) (hn : n.size ≤ maxLen) :
    Calls Tryd.prog 8 #[.agg #[.int .i64 c, .slice ao fs.length cap], .string n] w fun e w' => ∃ ao' cap', e = .returned (.tuple #[.agg #[.int .i64 c', .slice ao' k cap'], .int .i64 m]) ∧ OwnK w' w.heap.size ao' cap' fs' ∧ Q w w' := by
  obtain ⟨rfl, rfl, rfl, rfl⟩ := h
  exact rrem_any c fs ao cap n w hr hz hs hcap hn
theorem rfind_lit {f : Fl} {v : Bool} {t : ByteArray} {x y : Int} (c : Int) (fs : List Fl) (ao : Option Addr) (cap : Nat) (n : ByteArray) (w : World) (h : fdV c fs (bl n) = f ∧ (fdF c fs (bl n)).isSome = v) (ht : (⟨f.1.toArray⟩ : ByteArray) = t) (hx : f.2.1 = x) (hy : f.2.2 = y) (hr : RowK w ao fs) (hz : FlZ fs) (hs : fs.length ≤ cap) (hcap : cap ≤ maxLen) :
    Calls Tryd.prog 10 #[.agg #[.int .i64 c, .slice ao fs.length cap], .string n] w fun e w' => e = .returned (.tuple #[.agg #[.string t, .int .i64 x, .int .i64 y], .bool v]) ∧ Q w w' := by
  obtain ⟨rfl, rfl⟩ := h
  subst ht hx hy
  exact rfind_any c fs ao cap n w hr hz hs hcap
theorem rmay_lit {v : Bool} (c : Int) (fs : List Fl) (ao : Option Addr) (cap : Nat) (w : World) (h : dkOk c fs = v) (hr : RowK w ao fs) (hz : FlZ fs) (hs : fs.length ≤ cap) (hcap : cap ≤ maxLen) :
    Calls Tryd.prog 14 #[.agg #[.int .i64 c, .slice ao fs.length cap]] w fun e w' => e = .returned (.bool v) ∧ Q w w' := by
  obtain rfl := h
  exact rdkMay_any c fs ao cap w hr hz hs hcap
theorem cpd_any' (c : Int) (fs : List Fl) (ao : Option Addr) (cap : Nat) (w : World) (hr : RowK w ao fs) (hb : fs.length * 32 ≤ 140737488355328) :
    Calls Tryd.prog 4 #[.agg #[.int .i64 c, .slice ao fs.length cap]] w fun e w' => ∃ so sc, e = .returned (.agg #[.int .i64 c, .slice so fs.length sc]) ∧ OwnK w' w.heap.size so sc fs ∧ Q w w' := cpd_any c fs ao cap w hr hb

theorem putF_le {c : Int} {fs : List Fl} {n : Tx} {x : Int} : (putF c fs n x).length ≤ 64 := by
  unfold putF
  split
  · rename_i h; exact (put_may h).n
  · decide
theorem remF_le {c : Int} {fs : List Fl} {n : Tx} : (remF c fs n).length ≤ 64 := by
  unfold remF
  split
  · rename_i h; exact (rem_may (rem_ok h).1.1).n
  · decide

/-- A row that is owned, to be carried along. -/
structure OwS (w : World) (B : Nat) (ao : Option Addr) (cap : Nat) (fs : List Fl) : Prop where
  h : OwnK w B ao cap fs
theorem OwS.q {w w' : World} {B cap : Nat} {ao : Option Addr} {fs : List Fl} (h : OwS w B ao cap fs) (q : Q w w') : OwS w' B ao cap fs := ⟨own_q h.h q⟩

set_option maxHeartbeats 4000000 in
theorem spoilF2_any (ao : Option Addr) (cap B : Nat) (ps : List Fl) (w : World) (hown : OwnK w B ao cap ps) (hn : ps.length ≤ 4096) :
    Calls Tryd.prog 15 #[.slice ao ps.length cap] w fun e w' => e = .returned (.tuple #[]) ∧ Fr (fun k => (Value.slice ao ps.length cap).ownBlock = some k) w w' := by
  go_enter Tryd.func15, Tryd.ntmps15
  go_wp2_with fail
  go_loopw [2] (fun i wr => ∃ (k : Nat) (qs : List Fl), k ≤ ps.length ∧ i = .int .i64 k ∧ Hid (qs.length = ps.length ∧ ∀ j, k ≤ j → qs[j]? = ps[j]?) ∧ Hid (OwnK wr B ao cap qs) ∧ Hid (Fr (fun k => (Value.slice ao ps.length cap).ownBlock = some k) w wr)) (fun i _ => ps.length - (intOf i).toNat)
  case atStart => exact ⟨0, ps, Nat.zero_le _, rfl, ⟨rfl, fun _ _ => rfl⟩, hown, Fr.refl _ _⟩
  case round =>
    obtain ⟨k, qs, hk, rfl, HL, HO, HF⟩ := hrel
    by_cases hlt : k < ps.length
    · obtain ⟨⟨p1, p2, p3⟩, hp⟩ : ∃ p, ps[k]? = some p := ⟨ps[k], List.getElem?_eq_getElem hlt⟩
      have hqp : qs[k]? = some (p1, p2, p3) := (HL.out.2 k (Nat.le_refl _)).trans hp
      have hql := HL.out.1
      obtain ⟨g, rfl, hgB, hg, hf, hc⟩ := own_some fv_len (by decide) (by omega) HO.out
      have c2 : wr.cell? ⟨g, k * 3 + 2, none⟩ = some (.int .i64 p3) := hc k 2 _ _ hqp (by decide) rfl
      have hfr := hf (k * 3 + 2)
      clear hf hc hp
      go_wp2_with fail
      generalize bits BinOp.xor IntKind.i64 p3 90 = y3
      have HX := hide (own_set fv_len HO.out k 2 (p1, p2, p3) (p1, p2, y3) (.int .i64 y3) hqp (by decide) rfl)
      have HL2 : Hid ((qs.set k (p1, p2, y3)).length = ps.length ∧ ∀ j, k + 1 ≤ j → (qs.set k (p1, p2, y3))[j]? = ps[j]?) :=
        ⟨by rw [List.length_set]; exact hql, fun j hj => by rw [List.getElem?_set_ne (by omega)]; exact HL.out.2 j (by omega)⟩
      have HO2 : Hid (OwnK (wr.setCell ⟨g, k * 3 + 2, none⟩ (.int .i64 y3)) B (some ⟨g, 0, none⟩) cap (qs.set k (p1, p2, y3))) := by
        show World.ownsRow _ _ _ _ (.slice _ (qs.set _ _).length _) (qs.set _ _).length _
        rw [List.length_set]; exact unhide HX
      have HF2 := hide ((unhide HF).trans ((Fr.set wr g (k * 3 + 2) (.int .i64 y3)).mono (fun j hj => show some g = some j by rw [hj])))
      go_roundw
      case rel => exact ⟨k + 1, qs.set k (p1, p2, y3), by omega, by go_num, HL2, HO2, HF2⟩
      case measure => simp [intOf]; omega
    · go_wp2_with fail
      go_end0
      exact ⟨rfl, unhide HF⟩

end Go.Proofs.YtjalklmgdkhekaaDoor
