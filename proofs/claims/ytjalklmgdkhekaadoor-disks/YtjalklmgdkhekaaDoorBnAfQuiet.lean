/- Several texts of mine in one: AfQuiet, GfRPth. -/
import Derived.Deep.QuietTactic
import Derived.BigQuiet
import Derived.Test.YtjalklmgdkhekaaDoorNmPlain
import Derived.Test.YtjalklmgdkhekaaDoorBnGfBase
import Derived.Test.YtjalklmgdkhekaaDoorPtRef
import Derived.Test.YtjalklmgdkhekaaDoorPlSmall
/- A region that draws its order, and whose callees make memory but turn nothing that was there: one walk in the order of the text serves every order; no conditions. -/
namespace Go.Proofs.YtjalklmgdkhekaaDoor
open Go.RowKit

/-- A world behind w in which all that w held is as it was. -/
def Aft (w : World) : Type := {w' : World // Q w w'}
def Aft.to {w : World} (u : Aft w) : World := u.1
def Aft.of {w w' : World} (h : Q w w') : Aft w := ⟨w', h⟩
theorem Aft.ne (w : World) : Nonempty (Aft w) := ⟨.of (Q.refl w)⟩
theorem Aft.q {w : World} (u : Aft w) : Q w u.to := u.2

theorem wp_region_aft {P : Program} {id : Nat} {R : Exit → Act → World → Prop} {a : Act} {w : World} {l : List Oper} (hm : P.follows .mixedOrders = true) (hB : Region.lexB .any l.toArray = true)
    (h : wpQuiet P l.toArray (fun w' => ∃ u : Aft w, w' = u.to) (fun a' => ∀ w', (∃ u : Aft w, w' = u.to) → R .normal a' w') l a) : (Code.region id l.toArray true).wp P R a w :=
  wp_region_quiet (C := fun w' => ∃ u : Aft w, w' = u.to) hm hB ⟨.of (Q.refl w).drew, rfl⟩ (by simpa using h)

theorem Calls.aft {P : Program} {f : FuncId} {args : Array Value} {w : World} {u : Aft w} {v : Value}
    (h : Calls P f args u.to fun e w' => e = .returned v ∧ Q u.to w') : Calls P f args u.to fun e w'' => e = .returned v ∧ ∃ m : Aft w, w'' = m.to :=
  h.mono fun _ _ ⟨he, q⟩ => ⟨he, .of (u.q.trans q), rfl⟩

theorem Aft.cell {w : World} {p : Addr} {v : Value} (h : w.cell? p = some v) (hp : p.block < w.heap.size) (u : Aft w) : u.to.cell? p = some v := (u.q.cell hp).trans h

end Go.Proofs.YtjalklmgdkhekaaDoor

/- May a text be a path, as the document's own PathMay answers; the conditions: the text is no longer than a string can be. -/
namespace Go.Proofs.YtjalklmgdkhekaaDoor
open Go.RowKit

set_option maxHeartbeats 1000000 in
theorem rpth_any (s : ByteArray) (w : World) (hs : s.size ≤ maxLen) :
    Calls Tryd.prog 23 #[.string s] w fun e w' => e = .returned (.bool (pthB (bl s))) ∧ Q w w' := by
  have HC := hide (cleanPath_any s w hs)
  cases hc : cleanL (bl s) with
  | none =>
    obtain ⟨h1, h2⟩ := clean_of_none hc
    rw [h1, h2] at HC
    have HO : Hid (pthB (bl s) = false) := by show _ = false; unfold pthB; rw [hc]; rfl
    clear hc h1 h2
    go_enter Tryd.func23, Tryd.ntmps23
    go_wp2_with fail
    refine (unhide HC).mono ?_
    rintro e w1 ⟨rfl, q⟩
    go_wp2_with fail
    go_ret
    exact ⟨ret_bool HO.out.symm, q⟩
  | some a =>
    obtain ⟨h1, h2⟩ := clean_of_cleanL hc
    rw [h1, h2] at HC
    have HO : Hid (pthB (bl s) = (a == bl s)) := by
      show _ = _
      unfold pthB; rw [hc]; simp [Option.some_beq_some]
    have hx := txt_beq a s
    generalize (⟨a.toArray⟩ : ByteArray) = x1 at HC hx
    clear hc h1 h2
    cases hok : (a == bl s)
    · rw [hok] at hx HO
      clear hok
      go_enter Tryd.func23, Tryd.ntmps23
      go_wp2_with fail
      refine (unhide HC).mono ?_
      rintro e w1 ⟨rfl, q⟩
      go_wp2_with fail
      go_ret
      exact ⟨ret_bool HO.out.symm, q⟩
    · rw [hok] at hx HO
      clear hok
      go_enter Tryd.func23, Tryd.ntmps23
      go_wp2_with fail
      refine (unhide HC).mono ?_
      rintro e w1 ⟨rfl, q⟩
      go_wp2_with fail
      go_ret
      exact ⟨ret_bool HO.out.symm, q⟩

end Go.Proofs.YtjalklmgdkhekaaDoor
