/- Plain facts on manifests, with no program in them: what a text's lines say, one after the other, and the graph that they make; no conditions. -/
import Derived.Test.YtgbegdgacjodcaaDoorLnPlain
import Derived.Test.YtgbegdgacjodcaaDoorWdPlain
import Derived.Test.YtgbegdgacjodcaaDoorEvPlain
namespace Go.Proofs.YtgbegdgacjodcaaDoor
open Go.RowKit

abbrev Tx := List UInt8
/-- An edge: outs, ins, implicit, order, command, deps, pool. -/
abbrev Ed := Ws × Ws × Ws × Ws × Tx × Bool × Tx
abbrev Pl := Tx × Nat
/-- A rule: name, command, deps, pool. -/
abbrev Rl := Tx × Tx × Bool × Tx
abbrev Gr := List Ed × List Pl × Ws
/-- What is under way: nothing, a rule, a pool, a build line (its edge without a command, its rule, its binds). -/
abbrev Un := Option (Rl ⊕ (Pl ⊕ (Ed × Rl × List Bd)))

structure Sm where
  es : List Ed
  ps : List Pl
  ds : Ws
  rs : List Rl
  bs : List Bd
  un : Un

def mkB (l : Tx) : ByteArray := ⟨l.toArray⟩

/-- Cut at the first sign. -/
def ctL (c : UInt8) : Tx → Option (Tx × Tx)
  | [] => none
  | x :: r => if x = c then some ([], r) else (ctL c r).map fun y => (x :: y.1, y.2)

/-- A bind line: its name, its value. -/
def bnL (l : Tx) : Option (Tx × Tx) := match ctL 61 l with
  | none => none
  | some x => if mayL (trL x.1) then some (trL x.1, trL x.2) else none

/-- The first word, what is behind it. -/
def hdL (l : Tx) : Tx × Tx := (ctL 32 l).getD (l, [])

def rlAt (rs : List Rl) (n : Tx) : Option Rl := rs.find? fun r => r.1 == n
def plHas (ps : List Pl) (n : Tx) : Bool := ps.any fun p => p.1 == n

/-- All as paths. -/
def clL : Ws → Option Ws
  | [] => some []
  | x :: r => match cleanL x, clL r with
    | some a, some b => some (a :: b)
    | _, _ => none

/-- A scope's number, here. -/
def rfE (e : Int) : Int := if e = 0 then 0 else if e = 401 then 801 else 800

/-- A bind is set to what a text stands for in the outer scope. -/
def stL (bs ou : List Bd) (k v : Tx) : Except Int (List Bd) :=
  if evE v ou ou ≠ 0 then .error 800 else
  if setE bs (mkB k) (mkB (evS v ou ou)) ≠ 0 then .error (rfE (setE bs (mkB k) (mkB (evS v ou ou)))) else .ok (setB bs (mkB k) (mkB (evS v ou ou)))

def kIn : Tx := [105, 110]
def kOut : Tx := [111, 117, 116]
def kRule : Tx := [114, 117, 108, 101]
def kPool : Tx := [112, 111, 111, 108]
def kBuild : Tx := [98, 117, 105, 108, 100]
def kDefault : Tx := [100, 101, 102, 97, 117, 108, 116]
def kCommand : Tx := [99, 111, 109, 109, 97, 110, 100]
def kDeps : Tx := [100, 101, 112, 115]
def kDepth : Tx := [100, 101, 112, 116, 104]

/-- The inner scope of an edge that is over. -/
def inS (e : Ed) (own : List Bd) : List Bd := setB own (mkB kIn) (mkB (Lib.join e.2.1 [32]))
def inE (e : Ed) (own : List Bd) : Int := setE own (mkB kIn) (mkB (Lib.join e.2.1 [32]))
def ouS (e : Ed) (own : List Bd) : List Bd := setB (inS e own) (mkB kOut) (mkB (Lib.join e.1 [32]))
def ouE (e : Ed) (own : List Bd) : Int := setE (inS e own) (mkB kOut) (mkB (Lib.join e.1 [32]))

/-- The command of an edge that is over. -/
def cmL (e : Ed) (r : Rl) (own ou : List Bd) : Except Int Tx :=
  if inE e own ≠ 0 then .error (rfE (inE e own)) else
  if ouE e own ≠ 0 then .error (rfE (ouE e own)) else
  if evE r.2.1 (ouS e own) ou ≠ 0 ∨ evS r.2.1 (ouS e own) ou = [] then .error 800 else .ok (evS r.2.1 (ouS e own) ou)

def withC (e : Ed) (c : Tx) : Ed := (e.1, e.2.1, e.2.2.1, e.2.2.2.1, c, e.2.2.2.2.2)

/-- What is under way is over. -/
def ovL (s : Sm) : Except Int Sm := match s.un with
  | none => .ok s
  | some (.inl r) => if r.2.1 = [] then .error 800 else .ok ⟨s.es, s.ps, s.ds, s.rs ++ [r], s.bs, none⟩
  | some (.inr (.inl p)) => if p.2 = 0 then .error 800 else .ok ⟨s.es, s.ps ++ [p], s.ds, s.rs, s.bs, none⟩
  | some (.inr (.inr x)) => match cmL x.1 x.2.1 x.2.2 s.bs with
    | .error n => .error n
    | .ok c => .ok ⟨s.es ++ [withC x.1 c], s.ps, s.ds, s.rs, s.bs, none⟩

/-- The depth that a digit tells; 0: none. -/
def dpth : Tx → Nat
  | [c] => if 49 ≤ c.toNat ∧ c.toNat ≤ 56 then c.toNat - 48 else 0
  | _ => 0

/-- What a bind line below a rule tells. -/
def rlT (ps : List Pl) (r : Rl) (k v : Tx) : Option Rl :=
  if k = kCommand ∧ r.2.1 = [] ∧ v ≠ [] then some (r.1, v, r.2.2)
  else if k = kDeps ∧ r.2.2.1 = false ∧ v = [49] then some (r.1, r.2.1, true, r.2.2.2)
  else if k = kPool ∧ r.2.2.2 = [] ∧ plHas ps v = true then some (r.1, r.2.1, r.2.2.1, v)
  else none

/-- What a bind line below the line under way tells. -/
def tkL (s : Sm) (k v : Tx) : Except Int Sm := match s.un with
  | none => .error 800
  | some (.inl r) => match rlT s.ps r k v with
    | none => .error 800
    | some r' => .ok ⟨s.es, s.ps, s.ds, s.rs, s.bs, some (.inl r')⟩
  | some (.inr (.inl p)) => if k = kDepth ∧ p.2 = 0 ∧ dpth v ≠ 0 then .ok ⟨s.es, s.ps, s.ds, s.rs, s.bs, some (.inr (.inl (p.1, dpth v)))⟩ else .error 800
  | some (.inr (.inr x)) => match stL x.2.2 s.bs k v with
    | .error n => .error n
    | .ok own => .ok ⟨s.es, s.ps, s.ds, s.rs, s.bs, some (.inr (.inr (x.1, x.2.1, own)))⟩

def dpL (s : Sm) (l : Tx) : Except Int Sm := match bnL l with
  | none => .error 800
  | some x => tkL s x.1 x.2

/-- The edge of a build line, without its command, and its rule. -/
def edL (rs : List Rl) (l : Tx) : Option (Ed × Rl) := match bdR l with
  | none => none
  | some b => match rlAt rs b.2.1 with
    | none => none
    | some r => match clL b.1, clL b.2.2.1, clL b.2.2.2.1, clL b.2.2.2.2 with
      | some o, some i, some m, some d => some ((o, i, m, d, [], r.2.2.1, r.2.2.2), r)
      | _, _, _, _ => none

def ruL (s : Sm) (n : Tx) : Except Int Sm :=
  if mayL n = false ∨ (rlAt s.rs n).isSome = true then .error 800 else if s.rs.length = 8 then .error 801 else .ok ⟨s.es, s.ps, s.ds, s.rs, s.bs, some (.inl (n, [], false, []))⟩
def poL (s : Sm) (n : Tx) : Except Int Sm :=
  if mayL n = false ∨ plHas s.ps n = true then .error 800 else if s.ps.length = 4 then .error 801 else .ok ⟨s.es, s.ps, s.ds, s.rs, s.bs, some (.inr (.inl (n, 0)))⟩
def buL (s : Sm) (l : Tx) : Except Int Sm := match edL s.rs l with
  | none => .error 800
  | some x => if s.es.length = 16 then .error 801 else .ok ⟨s.es, s.ps, s.ds, s.rs, s.bs, some (.inr (.inr (x.1, x.2, [])))⟩
def deL (s : Sm) (ws : Ws) : Except Int Sm := match clL ws with
  | none => .error 800
  | some ds => if ws = [] then .error 800 else if 8 < s.ds.length + ds.length then .error 801 else .ok ⟨s.es, s.ps, s.ds ++ ds, s.rs, s.bs, none⟩
def biL (s : Sm) (l : Tx) : Except Int Sm := match bnL l with
  | none => .error 800
  | some x => match stL s.bs s.bs x.1 x.2 with
    | .error n => .error n
    | .ok bs => .ok ⟨s.es, s.ps, s.ds, s.rs, bs, none⟩

/-- A line that is not deep, behind what was over. -/
def fwL (s : Sm) (l : Tx) : Except Int Sm :=
  if (hdL l).1 = kRule then ruL s (trL (hdL l).2) else
  if (hdL l).1 = kPool then poL s (trL (hdL l).2) else
  if (hdL l).1 = kBuild then buL s (hdL l).2 else
  if (hdL l).1 = kDefault then deL s (wdL (hdL l).2) else biL s l

def flL (s : Sm) (l : Tx) : Except Int Sm := match ovL s with
  | .error n => .error n
  | .ok s => fwL s l

/-- One line. -/
def liL (s : Sm) (x : Ln) : Except Int Sm := if x.1 then dpL s x.2 else flL s x.2

def lsL : Sm → List Ln → Except Int Sm
  | s, [] => .ok s
  | s, x :: r => match liL s x with
    | .error n => .error n
    | .ok s => lsL s r

def sm0 : Sm := ⟨[], [], [], [], [], none⟩

def grOf (s : Sm) : Gr := (s.es, s.ps, s.ds)

/-- A text's graph, or the number. -/
def mfL (l : Tx) : Except Int Gr := match lnC l with
  | none => .error 800
  | some ls => match lsL sm0 ls with
    | .error n => .error n
    | .ok s => match ovL s with
      | .error n => .error n
      | .ok s => .ok (grOf s)

def gr0 : Gr := ([], [], [])
def mfG (l : Tx) : Gr := match mfL l with | .ok g => g | .error _ => gr0
def mfE (l : Tx) : Int := match mfL l with | .ok _ => 0 | .error n => n

theorem lsL_app (s : Sm) : ∀ (a b : List Ln), lsL s (a ++ b) = match lsL s a with | .error n => .error n | .ok t => lsL t b
  | [], b => rfl
  | x :: r, b => by
    show (match liL s x with | .error n => _ | .ok s => lsL s (r ++ b)) = _
    rw [lsL]
    cases liL s x with
    | error n => rfl
    | ok t => exact lsL_app t r b

end Go.Proofs.YtgbegdgacjodcaaDoor
