/- An append within a statement that draws its order; no conditions. -/
import Derived.Test.YtghfohhlcfelhaaDoorGfBase
import Derived.Test.YtghfohhlcfelhaaDoorStAppend
import Derived.Deep.RegionLaw
namespace Go.Proofs.YtghfohhlcfelhaaDoor
open Go.RowKit

theorem step_row {P : Program} {w : World} {ops : Array Oper} {o : Oper} {a : Act} {K : Act → World → Prop} {Q' : Exit → Act → World → Prop} {E : Prop} (hg : o.guard = none) (s x : Operand) (t : TypeId)
    (ho : o.op = .call { callee := .builtin .append, args := #[s, x], argTypes := #[t, t] })
    (base : Nat) (e : TypeId) (i : TypeInfo) (z : Value) (size bytes : Nat) (ht : P.underlying t = some (.slice e)) (hi : P.info? e = some i) (hz : i.zero = some z)
    (hsize : i.size = size) (hby : i.bytes = bytes) (hzs : z.cells.size = size) (hsz : 0 < size)
    (ao : Option Addr) (n cap : Nat) (xs : List Value) (hs : a.eval s = .slice ao n cap) (hown : w.ownsRow base e size (.slice ao n cap) n xs)
    (bo : Option Addr) (m c : Nat) (news : List Value) (hx : a.eval x = .slice bo m c) (hsrc : SrcRow w size bo m news) (h1 : ∀ u ∈ news, u.oneCell' = true)
    (h63 : n + m ≤ maxLen) (hbytes : (n + m) * bytes ≤ 140737488355328) (hbase : base ≤ w.heap.size)
    (h : ∀ ao' cap' w', w'.ownsRow base e size (.slice ao' (n + m) cap') (n + m) (xs ++ news) → w.grownBy w' (Value.slice ao n cap).ownBlock → K (a.put o.dst (.slice ao' (n + m) cap')) w') :
    if Region.wanted o (yielded ops a.tmps) = true then Oper.wp P o a w K Q' else E := by
  have hw : Region.wanted o (yielded ops a.tmps) = true := by simp [Region.wanted, hg]
  rw [if_pos hw]
  exact wp_append_row s x t ho base e i z size bytes ht hi hz hsize hby hzs hsz ao n cap xs hs hown bo m c news hx hsrc h1 h63 hbytes hbase h

theorem SrcRow.new (w : World) (cs : Array Value) (t : TypeId) (size : Nat) (h : cs.size = 1 * size) : SrcRow (w.alloc (.cells cs t)) size (some ⟨w.heap.size, 0, none⟩) 1 cs.toList :=
  ⟨by simpa using h, Or.inr ⟨_, rfl, news_new w cs t⟩⟩

theorem Blk.grown {w w1 w' : World} {row : Option Nat} {g : Nat} {cs : Array Value} {t : TypeId} (h : Blk w g cs t) (hq : Q w w1) (hg : w1.grownBy w' row) (hn : ∀ k, row = some k → k ≠ g) : Blk w' g cs t :=
  (h.q hq).fr (Fr.grown hg) (fun e => hn g e rfl)

/-- What was grown lies in no block of another type. -/
theorem own_new_ne {w : World} {B e size n : Nat} {v : Value} {xs : List Value} {g : Nat} {cs : Array Value} {t : TypeId} (h : w.ownsRow B e size v n xs) (hb : Blk w g cs t) (hne : t ≠ e := by decide) : ∀ k, v.ownBlock = some k → ¬ k = g := fun k hk => hb.row h hne k hk

end Go.Proofs.YtghfohhlcfelhaaDoor
