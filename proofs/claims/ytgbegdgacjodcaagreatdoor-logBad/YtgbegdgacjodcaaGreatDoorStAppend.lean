/- A law of append for a row that the call owns, whatever row, empty or not, is appended to it: what the walk asks; the conditions: the lengths. -/
import Derived.Deep.AppendLies
import Derived.Deep.Upon
import Derived.Test.YtgbegdgacjodcaaGreatDoorBdPlain
namespace Go.Proofs.YtgbegdgacjodcaaGreatDoor
open Go.RowKit

/-- Cells that are to be appended. -/
def SrcRow (w : World) (size : Nat) (bo : Option Addr) (m : Nat) (news : List Value) : Prop :=
  news.length = m * size ∧ ((m = 0 ∧ news = []) ∨ ∃ ad, bo = some ad ∧ ∀ j u, news[j]? = some u → w.cell? (ad.add j) = some u)

theorem SrcRow.row {α : Type} {f : α → List Value} {sz : Nat} (hf : ∀ x, (f x).length = sz) (hz : 0 < sz) {w : World} {bo : Option Addr} {xs : List α} (h : RowG f sz w bo xs) : SrcRow w sz bo xs.length (lay f xs) := by
  refine ⟨lay_length hf xs, ?_⟩
  rcases h with h | ⟨g, o, e, hg, hc⟩
  · left; rw [h]; exact ⟨rfl, rfl⟩
  · right
    refine ⟨_, e, ?_⟩
    intro j u hj
    have hjl : j < xs.length * sz := by rw [← lay_length hf]; exact (List.getElem?_eq_some_iff.1 hj).1
    have hd : j / sz < xs.length := (Nat.div_lt_iff_lt_mul hz).2 hjl
    have hm : j % sz < sz := Nat.mod_lt _ hz
    have e2 : j / sz * sz + j % sz = j := by rw [Nat.mul_comm]; exact Nat.div_add_mod j sz
    have hg2 := lay_get hf xs (j / sz) (j % sz) xs[j / sz] (List.getElem?_eq_getElem hd) hm
    rw [e2, hj] at hg2
    have := hc (j / sz) (j % sz) xs[j / sz] u (List.getElem?_eq_getElem hd) hm hg2.symm
    rw [e2] at this
    rw [← this]
    congr 1
    unfold Addr.add
    split
    · rename_i h; rw [h]; rfl
    · rfl

section
variable {P : Program} {w : World}

theorem wp_append_row {o : Oper} {a : Act} {K : Act → World → Prop} {Q : Exit → Act → World → Prop} (s x : Operand) (t : TypeId)
    (ho : o.op = .call { callee := .builtin .append, args := #[s, x], argTypes := #[t, t] })
    (base : Nat) (e : TypeId) (i : TypeInfo) (z : Value) (size bytes : Nat) (ht : P.underlying t = some (.slice e)) (hi : P.info? e = some i) (hz : i.zero = some z)
    (hsize : i.size = size) (hby : i.bytes = bytes) (hzs : z.cells.size = size) (hsz : 0 < size)
    (ao : Option Addr) (n cap : Nat) (xs : List Value) (hs : a.eval s = .slice ao n cap) (hown : w.ownsRow base e size (.slice ao n cap) n xs)
    (bo : Option Addr) (m c : Nat) (news : List Value) (hx : a.eval x = .slice bo m c) (hsrc : SrcRow w size bo m news) (h1 : ∀ u ∈ news, u.oneCell' = true)
    (h63 : n + m ≤ maxLen) (hbytes : (n + m) * bytes ≤ 140737488355328) (hbase : base ≤ w.heap.size)
    (h : ∀ ao' cap' w', w'.ownsRow base e size (.slice ao' (n + m) cap') (n + m) (xs ++ news) → w.grownBy w' (Value.slice ao n cap).ownBlock → K (a.put o.dst (.slice ao' (n + m) cap')) w') : o.wp P a w K Q := by
  obtain ⟨hl, hs2⟩ := hsrc
  by_cases hm : m = 0
  · subst hm
    have hn : news = [] := List.eq_nil_of_length_eq_zero (by rw [hl, Nat.zero_mul])
    subst hn
    have hle := (own_le hown).1
    have src : Src P i.size t (.slice bo 0 c) 0 [] w := by
      cases bo with
      | none => exact Src.ofNil w ht c
      | some ad => exact Src.ofSlice w ht ad 0 c [] (by simp) (fun j u hj => by simp at hj) (fun u hu => by simp at hu)
    have hr := run_append_nothing (P := P) w t t o.type e i ht hi ao n cap hle (.slice bo 0 c) src
    unfold Oper.wp execOp
    simp only [ho, resolve, invoke, builtin, Sem.run_bind, Sem.run_pure, Result.andThen_ok, List.map_toArray, List.map_cons, List.map_nil, hs, hx, hr]
    exact h ao cap w (by rw [List.append_nil]; exact hown) ⟨rfl, rfl, rfl, Nat.le_refl _, fun _ _ _ => rfl⟩
  · rcases hs2 with ⟨h0, _⟩ | ⟨ad, rfl, hnews⟩
    · exact absurd h0 hm
    · exact wp_append_lies w s x t ho base e i z size bytes ht hi hz hsize hby hzs hsz (.slice ao n cap) n xs hs hown ad m c news hx hl hnews h1 (by omega) h63 hbytes hbase w.heap.size rfl
        (fun g cp w' h2 h3 _ _ => h (some ⟨g, 0, none⟩) cp w' h2 h3)

theorem wpList_append_row {ops : Array Oper} {rest : List Oper} {o : Oper} {a : Act} {Q : Exit → Act → World → Prop} (hgd : o.guard = none) (s x : Operand) (t : TypeId)
    (ho : o.op = .call { callee := .builtin .append, args := #[s, x], argTypes := #[t, t] })
    (base : Nat) (e : TypeId) (i : TypeInfo) (z : Value) (size bytes : Nat) (ht : P.underlying t = some (.slice e)) (hi : P.info? e = some i) (hz : i.zero = some z)
    (hsize : i.size = size) (hby : i.bytes = bytes) (hzs : z.cells.size = size) (hsz : 0 < size)
    (ao : Option Addr) (n cap : Nat) (xs : List Value) (hs : a.eval s = .slice ao n cap) (hown : w.ownsRow base e size (.slice ao n cap) n xs)
    (bo : Option Addr) (m c : Nat) (news : List Value) (hx : a.eval x = .slice bo m c) (hsrc : SrcRow w size bo m news) (h1 : ∀ u ∈ news, u.oneCell' = true)
    (h63 : n + m ≤ maxLen) (hbytes : (n + m) * bytes ≤ 140737488355328) (hbase : base ≤ w.heap.size)
    (h : ∀ ao' cap' w', w'.ownsRow base e size (.slice ao' (n + m) cap') (n + m) (xs ++ news) → w.grownBy w' (Value.slice ao n cap).ownBlock → wpList P ops Q rest (a.put o.dst (.slice ao' (n + m) cap')) w') : wpList P ops Q (o :: rest) a w :=
  wpList_plain hgd fun _ hK => wp_append_row s x t ho base e i z size bytes ht hi hz hsize hby hzs hsz ao n cap xs hs hown bo m c news hx hsrc h1 h63 hbytes hbase fun ao' cap' w' h2 h3 => hK _ _ (h ao' cap' w' h2 h3)

end

end Go.Proofs.YtgbegdgacjodcaaGreatDoor
