/- Several texts of mine in one: EvPlain, MfPlain. -/
import Derived.Lib.UnsafeStr
import Derived.Lib.Builder
import Derived.Test.YtjalklmgdkhekaaDoorPcMore
import Derived.Test.YtjalklmgdkhekaaDoorScPlain
import Derived.Test.YtjalklmgdkhekaaDoorBnLnPlain
import Derived.Test.YtjalklmgdkhekaaDoorWdPlain
/- Plain facts on values, with no program in them: a text's pieces, each told, one behind the other; no conditions. -/
namespace Go.Proofs.YtjalklmgdkhekaaDoor
open Go.RowKit

theorem mk_bl (x : ByteArray) : (⟨(bl x).toArray⟩ : ByteArray) = x := (of_bl rfl).symm

/-- What a piece stands for. -/
def txt (ins outs : List Bd) (p : Pc) : List UInt8 :=
  if p.1 then (if bl (getB ins ⟨p.2.toArray⟩) = [] then bl (getB outs ⟨p.2.toArray⟩) else bl (getB ins ⟨p.2.toArray⟩)) else p.2

/-- What pieces stand for. -/
def evT (ins outs : List Bd) (ps : List Pc) : List UInt8 := ps.flatMap (txt ins outs)

def evOk (l : List UInt8) (ins outs : List Bd) : Bool := decide (cutE l = 0) && scOk ins && scOk outs

/-- The value, or none; the number. -/
def evS (l : List UInt8) (ins outs : List Bd) : List UInt8 :=
  if evOk l ins outs && decide ((evT ins outs (cutP l)).length ≤ 256) then evT ins outs (cutP l) else []
def evE (l : List UInt8) (ins outs : List Bd) : Int :=
  if evOk l ins outs then (if (evT ins outs (cutP l)).length ≤ 256 then 0 else 501) else 500

theorem txt_text {ins outs : List Bd} {l : List UInt8} : txt ins outs (false, l) = l := by simp [txt]
theorem txt_of {ins outs : List Bd} {p : Pc} (h : p.1 = false) : txt ins outs p = p.2 := by simp [txt, h]
theorem txt_out {ins outs : List Bd} {p : Pc} (h : p.1 = true) (h0 : bl (getB ins ⟨p.2.toArray⟩) = []) : txt ins outs p = bl (getB outs ⟨p.2.toArray⟩) := by simp [txt, h, h0]
theorem txt_in {ins outs : List Bd} {p : Pc} (h : p.1 = true) (h0 : bl (getB ins ⟨p.2.toArray⟩) ≠ []) : txt ins outs p = bl (getB ins ⟨p.2.toArray⟩) := by simp [txt, h, h0]

theorem evT_nil (ins outs : List Bd) : evT ins outs [] = [] := rfl
theorem evT_app (ins outs : List Bd) (ps qs : List Pc) : evT ins outs (ps ++ qs) = evT ins outs ps ++ evT ins outs qs := by unfold evT; rw [List.flatMap_append]
theorem evT_snoc (ins outs : List Bd) (ps : List Pc) (p : Pc) : evT ins outs (ps ++ [p]) = evT ins outs ps ++ txt ins outs p := by rw [evT_app]; simp [evT]
theorem evT_take (ins outs : List Bd) {ps : List Pc} {k : Nat} {p : Pc} (h : ps[k]? = some p) : evT ins outs (ps.take (k + 1)) = evT ins outs (ps.take k) ++ txt ins outs p := by
  rw [List.take_add_one, h]; exact evT_snoc _ _ _ _
theorem evT_take_le (ins outs : List Bd) (ps : List Pc) (k : Nat) : (evT ins outs (ps.take k)).length ≤ (evT ins outs ps).length := by
  conv => rhs; rw [← List.take_append_drop k ps, evT_app, List.length_append]
  omega

theorem get_size {bs : List Bd} (n : ByteArray) : (bl (getB bs n)).length ≤ 256 := by
  unfold getB
  split
  · rename_i h
    split
    · split
      · rename_i b hb
        rw [bl_size]
        exact (mayBd_size ((scOk_parts h).2 _ b hb).1).2
      · decide
    · decide
  · decide
theorem txt_le {ins outs : List Bd} {n : Nat} {p : Pc} (hn : 256 ≤ n) (h : p.2.length ≤ n) : (txt ins outs p).length ≤ n := by
  unfold txt
  have h1 := get_size (bs := ins) ⟨p.2.toArray⟩
  have h2 := get_size (bs := outs) ⟨p.2.toArray⟩
  split
  · split <;> omega
  · exact h
theorem txt_cut {ins outs : List Bd} {l : List UInt8} {k : Nat} {p : Pc} (h : (cutP l)[k]? = some p) : (txt ins outs p).length ≤ 2064 :=
  txt_le (by omega) ((cutP_facts l).2 p (List.mem_of_getElem? h))

theorem ev_bad {l : List UInt8} {ins outs : List Bd} (h : evOk l ins outs = false) : evS l ins outs = [] ∧ evE l ins outs = 500 := by
  unfold evS evE; rw [h]; exact ⟨rfl, rfl⟩
theorem ev_long {l : List UInt8} {ins outs : List Bd} (h : evOk l ins outs = true) (h2 : 256 < (evT ins outs (cutP l)).length) : evS l ins outs = [] ∧ evE l ins outs = 501 := by
  unfold evS evE; rw [h, if_neg (by simp; omega), if_pos rfl, if_neg (by omega)]; exact ⟨rfl, rfl⟩
theorem ev_good {l : List UInt8} {ins outs : List Bd} (h : evOk l ins outs = true) (h2 : (evT ins outs (cutP l)).length ≤ 256) : evS l ins outs = evT ins outs (cutP l) ∧ evE l ins outs = 0 := by
  unfold evS evE; rw [h, if_pos (by simp; omega), if_pos rfl, if_pos h2]; exact ⟨rfl, rfl⟩
theorem evOk_cut {l : List UInt8} {ins outs : List Bd} (h : cutE l ≠ 0) : evOk l ins outs = false := by unfold evOk; rw [decide_eq_false h]; rfl
theorem evOk_in {l : List UInt8} {ins outs : List Bd} (h : scOk ins = false) : evOk l ins outs = false := by unfold evOk; rw [h]; simp
theorem evOk_out {l : List UInt8} {ins outs : List Bd} (h : scOk outs = false) : evOk l ins outs = false := by unfold evOk; rw [h]; simp
theorem evOk_all {l : List UInt8} {ins outs : List Bd} (h0 : cutE l = 0) (h1 : scOk ins = true) (h2 : scOk outs = true) : evOk l ins outs = true := by unfold evOk; rw [h1, h2, decide_eq_true h0]; rfl

theorem cut_no_or (l : List UInt8) : cutE l = 0 ∨ cutE l = 300 := by unfold cutE; split <;> simp

/-- A builder stays as it was where nothing old has turned. -/
theorem builder_q {T e B b : Nat} {bs : List Value} {w w' : World} (h : Lib.IsBuilder T e B b bs w) (q : Q w w') : Lib.IsBuilder T e B b bs w' := by
  have go : ∀ p, Lib.BuilderAt T e B b p bs w → Lib.BuilderAt T e B b p bs w' := by
    rintro p ⟨hB, v, hb, hown, hne⟩
    exact ⟨hB, v, (q.block b (Array.getElem?_eq_some_iff.1 hb).1).trans hb, own_q hown q, hne⟩
  rcases h with h | h
  · exact Or.inl (go _ h)
  · exact Or.inr (go _ h)

end Go.Proofs.YtjalklmgdkhekaaDoor

/- Plain facts on manifests, with no program in them: what a text's lines say, one after the other, and the graph that they make; no conditions. -/
namespace Go.Proofs.YtjalklmgdkhekaaDoor
open Go.RowKit

abbrev Tx := List UInt8
/-- An edge: outs, ins, implicit, order, command, deps, pool. -/
abbrev Ed := Ws × Ws × Ws × Ws × Tx × Bool × Tx
abbrev Pl := Tx × Nat
/-- A rule: name, command, deps, pool. -/
abbrev Rl := Tx × Tx × Bool × Tx
abbrev Gr := List Ed × List Pl × Ws
/-- What is under way: nothing, a rule, a pool, a build line (its edge without a command, its rule, its binds). -/
abbrev Un := Option (Rl ⊕ (Pl ⊕ (Ed × Rl × List Bd)))

structure Sm where
  es : List Ed
  ps : List Pl
  ds : Ws
  rs : List Rl
  bs : List Bd
  un : Un

def mkB (l : Tx) : ByteArray := ⟨l.toArray⟩

/-- Cut at the first sign. -/
def ctL (c : UInt8) : Tx → Option (Tx × Tx)
  | [] => none
  | x :: r => if x = c then some ([], r) else (ctL c r).map fun y => (x :: y.1, y.2)

/-- A bind line: its name, its value. -/
def bnL (l : Tx) : Option (Tx × Tx) := match ctL 61 l with
  | none => none
  | some x => if mayL (trL x.1) then some (trL x.1, trL x.2) else none

/-- The first word, what is behind it. -/
def hdL (l : Tx) : Tx × Tx := (ctL 32 l).getD (l, [])

def rlAt (rs : List Rl) (n : Tx) : Option Rl := rs.find? fun r => r.1 == n
def plHas (ps : List Pl) (n : Tx) : Bool := ps.any fun p => p.1 == n

/-- All as paths. -/
def clL : Ws → Option Ws
  | [] => some []
  | x :: r => match cleanL x, clL r with
    | some a, some b => some (a :: b)
    | _, _ => none

/-- A scope's number, here. -/
def rfE (e : Int) : Int := if e = 0 then 0 else if e = 401 then 801 else 800

/-- A bind is set to what a text stands for in the outer scope. -/
def stL (bs ou : List Bd) (k v : Tx) : Except Int (List Bd) :=
  if evE v ou ou ≠ 0 then .error 800 else
  if setE bs (mkB k) (mkB (evS v ou ou)) ≠ 0 then .error (rfE (setE bs (mkB k) (mkB (evS v ou ou)))) else .ok (setB bs (mkB k) (mkB (evS v ou ou)))

def kIn : Tx := [105, 110]
def kOut : Tx := [111, 117, 116]
def kRule : Tx := [114, 117, 108, 101]
def kPool : Tx := [112, 111, 111, 108]
def kBuild : Tx := [98, 117, 105, 108, 100]
def kDefault : Tx := [100, 101, 102, 97, 117, 108, 116]
def kCommand : Tx := [99, 111, 109, 109, 97, 110, 100]
def kDeps : Tx := [100, 101, 112, 115]
def kDepth : Tx := [100, 101, 112, 116, 104]

/-- The inner scope of an edge that is over. -/
def inS (e : Ed) (own : List Bd) : List Bd := setB own (mkB kIn) (mkB (Lib.join e.2.1 [32]))
def inE (e : Ed) (own : List Bd) : Int := setE own (mkB kIn) (mkB (Lib.join e.2.1 [32]))
def ouS (e : Ed) (own : List Bd) : List Bd := setB (inS e own) (mkB kOut) (mkB (Lib.join e.1 [32]))
def ouE (e : Ed) (own : List Bd) : Int := setE (inS e own) (mkB kOut) (mkB (Lib.join e.1 [32]))

/-- The command of an edge that is over. -/
def cmL (e : Ed) (r : Rl) (own ou : List Bd) : Except Int Tx :=
  if inE e own ≠ 0 then .error (rfE (inE e own)) else
  if ouE e own ≠ 0 then .error (rfE (ouE e own)) else
  if evE r.2.1 (ouS e own) ou ≠ 0 ∨ evS r.2.1 (ouS e own) ou = [] then .error 800 else .ok (evS r.2.1 (ouS e own) ou)

def withC (e : Ed) (c : Tx) : Ed := (e.1, e.2.1, e.2.2.1, e.2.2.2.1, c, e.2.2.2.2.2)

/-- What is under way is over. -/
def ovL (s : Sm) : Except Int Sm := match s.un with
  | none => .ok s
  | some (.inl r) => if r.2.1 = [] then .error 800 else .ok ⟨s.es, s.ps, s.ds, s.rs ++ [r], s.bs, none⟩
  | some (.inr (.inl p)) => if p.2 = 0 then .error 800 else .ok ⟨s.es, s.ps ++ [p], s.ds, s.rs, s.bs, none⟩
  | some (.inr (.inr x)) => match cmL x.1 x.2.1 x.2.2 s.bs with
    | .error n => .error n
    | .ok c => .ok ⟨s.es ++ [withC x.1 c], s.ps, s.ds, s.rs, s.bs, none⟩

/-- The depth that a digit tells; 0: none. -/
def dpth : Tx → Nat
  | [c] => if 49 ≤ c.toNat ∧ c.toNat ≤ 56 then c.toNat - 48 else 0
  | _ => 0

/-- What a bind line below a rule tells. -/
def rlT (ps : List Pl) (r : Rl) (k v : Tx) : Option Rl :=
  if k = kCommand ∧ r.2.1 = [] ∧ v ≠ [] then some (r.1, v, r.2.2)
  else if k = kDeps ∧ r.2.2.1 = false ∧ v = [49] then some (r.1, r.2.1, true, r.2.2.2)
  else if k = kPool ∧ r.2.2.2 = [] ∧ plHas ps v = true then some (r.1, r.2.1, r.2.2.1, v)
  else none

/-- What a bind line below the line under way tells. -/
def tkL (s : Sm) (k v : Tx) : Except Int Sm := match s.un with
  | none => .error 800
  | some (.inl r) => match rlT s.ps r k v with
    | none => .error 800
    | some r' => .ok ⟨s.es, s.ps, s.ds, s.rs, s.bs, some (.inl r')⟩
  | some (.inr (.inl p)) => if k = kDepth ∧ p.2 = 0 ∧ dpth v ≠ 0 then .ok ⟨s.es, s.ps, s.ds, s.rs, s.bs, some (.inr (.inl (p.1, dpth v)))⟩ else .error 800
  | some (.inr (.inr x)) => match stL x.2.2 s.bs k v with
    | .error n => .error n
    | .ok own => .ok ⟨s.es, s.ps, s.ds, s.rs, s.bs, some (.inr (.inr (x.1, x.2.1, own)))⟩

def dpL (s : Sm) (l : Tx) : Except Int Sm := match bnL l with
  | none => .error 800
  | some x => tkL s x.1 x.2

/-- The edge of a build line, without its command, and its rule. -/
def edL (rs : List Rl) (l : Tx) : Option (Ed × Rl) := match bdR l with
  | none => none
  | some b => match rlAt rs b.2.1 with
    | none => none
    | some r => match clL b.1, clL b.2.2.1, clL b.2.2.2.1, clL b.2.2.2.2 with
      | some o, some i, some m, some d => some ((o, i, m, d, [], r.2.2.1, r.2.2.2), r)
      | _, _, _, _ => none

def ruL (s : Sm) (n : Tx) : Except Int Sm :=
  if mayL n = false ∨ (rlAt s.rs n).isSome = true then .error 800 else if s.rs.length = 8 then .error 801 else .ok ⟨s.es, s.ps, s.ds, s.rs, s.bs, some (.inl (n, [], false, []))⟩
def poL (s : Sm) (n : Tx) : Except Int Sm :=
  if mayL n = false ∨ plHas s.ps n = true then .error 800 else if s.ps.length = 4 then .error 801 else .ok ⟨s.es, s.ps, s.ds, s.rs, s.bs, some (.inr (.inl (n, 0)))⟩
def buL (s : Sm) (l : Tx) : Except Int Sm := match edL s.rs l with
  | none => .error 800
  | some x => if s.es.length = 16 then .error 801 else .ok ⟨s.es, s.ps, s.ds, s.rs, s.bs, some (.inr (.inr (x.1, x.2, [])))⟩
def deL (s : Sm) (ws : Ws) : Except Int Sm := match clL ws with
  | none => .error 800
  | some ds => if ws = [] then .error 800 else if 8 < s.ds.length + ds.length then .error 801 else .ok ⟨s.es, s.ps, s.ds ++ ds, s.rs, s.bs, none⟩
def biL (s : Sm) (l : Tx) : Except Int Sm := match bnL l with
  | none => .error 800
  | some x => match stL s.bs s.bs x.1 x.2 with
    | .error n => .error n
    | .ok bs => .ok ⟨s.es, s.ps, s.ds, s.rs, bs, none⟩

/-- A line that is not deep, behind what was over. -/
def fwL (s : Sm) (l : Tx) : Except Int Sm :=
  if (hdL l).1 = kRule then ruL s (trL (hdL l).2) else
  if (hdL l).1 = kPool then poL s (trL (hdL l).2) else
  if (hdL l).1 = kBuild then buL s (hdL l).2 else
  if (hdL l).1 = kDefault then deL s (wdL (hdL l).2) else biL s l

def flL (s : Sm) (l : Tx) : Except Int Sm := match ovL s with
  | .error n => .error n
  | .ok s => fwL s l

/-- One line. -/
def liL (s : Sm) (x : Ln) : Except Int Sm := if x.1 then dpL s x.2 else flL s x.2

def lsL : Sm → List Ln → Except Int Sm
  | s, [] => .ok s
  | s, x :: r => match liL s x with
    | .error n => .error n
    | .ok s => lsL s r

def sm0 : Sm := ⟨[], [], [], [], [], none⟩

def grOf (s : Sm) : Gr := (s.es, s.ps, s.ds)

/-- A text's graph, or the number. -/
def mfL (l : Tx) : Except Int Gr := match lnC l with
  | none => .error 800
  | some ls => match lsL sm0 ls with
    | .error n => .error n
    | .ok s => match ovL s with
      | .error n => .error n
      | .ok s => .ok (grOf s)

def gr0 : Gr := ([], [], [])
def mfG (l : Tx) : Gr := match mfL l with | .ok g => g | .error _ => gr0
def mfE (l : Tx) : Int := match mfL l with | .ok _ => 0 | .error n => n

theorem lsL_app (s : Sm) : ∀ (a b : List Ln), lsL s (a ++ b) = match lsL s a with | .error n => .error n | .ok t => lsL t b
  | [], b => rfl
  | x :: r, b => by
    show (match liL s x with | .error n => _ | .ok s => lsL s (r ++ b)) = _
    rw [lsL]
    cases liL s x with
    | error n => rfl
    | ok t => exact lsL_app t r b

end Go.Proofs.YtjalklmgdkhekaaDoor
