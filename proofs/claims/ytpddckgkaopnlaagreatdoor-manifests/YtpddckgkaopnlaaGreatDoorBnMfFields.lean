/- Several texts of mine in one: MfRdDef, MfFields, MfTab. -/
import Derived.Test.YtpddckgkaopnlaaGreatDoorBnMfOk
import Derived.Deep.Upon
import Derived.Test.YtpddckgkaopnlaaGreatDoorMfDeep
import Derived.Test.YtpddckgkaopnlaaGreatDoorBnMfRdBuild
import Derived.Shelf.Strings.Fields
import Derived.Lib.LaidTab
import Derived.LaidSub
import Derived.MakeChecks
/- What package manifest's readDefaults answers; the conditions: the reader and the names lie in memory, apart. -/
namespace Go.Proofs.YtpddckgkaopnlaaGreatDoor
open Go.RowKit

def Sm.wD (s : Sm) (ds : Ws) : Sm := ⟨s.es, s.ps, ds, s.rs, s.bs, none⟩
def Ad.wDd (A : Ad) (dd : Option Addr) (dc : Nat) : Ad := ⟨A.es, A.eo, A.ec, A.po, A.pc, dd, dc, A.ro, A.rc, A.oo, A.oc⟩

section
variable {P : Program} {w : World}

theorem wp_append_row2 {o : Oper} {a : Act} {K : Act → World → Prop} {Q : Exit → Act → World → Prop} (s x : Operand) (t : TypeId)
    (ho : o.op = .call { callee := .builtin .append, args := #[s, x], argTypes := #[t, t] })
    (base : Nat) (e : TypeId) (i : TypeInfo) (z : Value) (size bytes : Nat) (ht : P.underlying t = some (.slice e)) (hi : P.info? e = some i) (hz : i.zero = some z)
    (hsize : i.size = size) (hby : i.bytes = bytes) (hzs : z.cells.size = size) (hsz : 0 < size)
    (ao : Option Addr) (n cap : Nat) (xs : List Value) (hs : a.eval s = .slice ao n cap) (hown : w.ownsRow base e size (.slice ao n cap) n xs)
    (bo : Option Addr) (m c : Nat) (news : List Value) (hx : a.eval x = .slice bo m c) (hsrc : SrcRow w size bo m news) (h1 : ∀ u ∈ news, u.oneCell' = true)
    (h63 : n + m ≤ maxLen) (hbytes : (n + m) * bytes ≤ 140737488355328) (hbase : base ≤ w.heap.size)
    (h : ∀ ao' cap' w', w'.ownsRow base e size (.slice ao' (n + m) cap') (n + m) (xs ++ news) → w.grownBy w' (Value.slice ao n cap).ownBlock → ((Value.slice ao' (n + m) cap').ownBlock = (Value.slice ao n cap).ownBlock ∨ ∀ k, (Value.slice ao' (n + m) cap').ownBlock = some k → w.heap.size ≤ k) → K (a.put o.dst (.slice ao' (n + m) cap')) w') : o.wp P a w K Q := by
  obtain ⟨hl, hs2⟩ := hsrc
  by_cases hm : m = 0
  · subst hm
    have hn : news = [] := List.eq_nil_of_length_eq_zero (by rw [hl, Nat.zero_mul])
    subst hn
    have hle := (own_le hown).1
    have src : Src P i.size t (.slice bo 0 c) 0 [] w := by
      cases bo with
      | none => exact Src.ofNil w ht c
      | some ad => exact Src.ofSlice w ht ad 0 c [] (by simp) (fun j u hj => by simp at hj) (fun u hu => by simp at hu)
    have hr := run_append_nothing (P := P) w t t o.type e i ht hi ao n cap hle (.slice bo 0 c) src
    unfold Oper.wp execOp
    simp only [ho, resolve, invoke, builtin, Sem.run_bind, Sem.run_pure, Result.andThen_ok, List.map_toArray, List.map_cons, List.map_nil, hs, hx, hr]
    exact h ao cap w (by rw [List.append_nil]; exact hown) ⟨rfl, rfl, rfl, Nat.le_refl _, fun _ _ _ => rfl⟩ (Or.inl rfl)
  · rcases hs2 with ⟨h0, _⟩ | ⟨ad, rfl, hnews⟩
    · exact absurd h0 hm
    · exact wp_append_lies w s x t ho base e i z size bytes ht hi hz hsize hby hzs hsz (.slice ao n cap) n xs hs hown ad m c news hx hl hnews h1 (by omega) h63 hbytes hbase w.heap.size rfl
        (fun g cp w' h2 h3 h4 _ => h (some ⟨g, 0, none⟩) cp w' h2 h3 (h4.elim (fun e => Or.inl e.symm) (fun e => Or.inr (fun k hk => by cases hk; exact Nat.le_of_eq e.symm))))

theorem wpList_append_row2 {ops : Array Oper} {rest : List Oper} {o : Oper} {a : Act} {Q : Exit → Act → World → Prop} (hgd : o.guard = none) (s x : Operand) (t : TypeId)
    (ho : o.op = .call { callee := .builtin .append, args := #[s, x], argTypes := #[t, t] })
    (base : Nat) (e : TypeId) (i : TypeInfo) (z : Value) (size bytes : Nat) (ht : P.underlying t = some (.slice e)) (hi : P.info? e = some i) (hz : i.zero = some z)
    (hsize : i.size = size) (hby : i.bytes = bytes) (hzs : z.cells.size = size) (hsz : 0 < size)
    (ao : Option Addr) (n cap : Nat) (xs : List Value) (hs : a.eval s = .slice ao n cap) (hown : w.ownsRow base e size (.slice ao n cap) n xs)
    (bo : Option Addr) (m c : Nat) (news : List Value) (hx : a.eval x = .slice bo m c) (hsrc : SrcRow w size bo m news) (h1 : ∀ u ∈ news, u.oneCell' = true)
    (h63 : n + m ≤ maxLen) (hbytes : (n + m) * bytes ≤ 140737488355328) (hbase : base ≤ w.heap.size)
    (h : ∀ ao' cap' w', w'.ownsRow base e size (.slice ao' (n + m) cap') (n + m) (xs ++ news) → w.grownBy w' (Value.slice ao n cap).ownBlock → ((Value.slice ao' (n + m) cap').ownBlock = (Value.slice ao n cap).ownBlock ∨ ∀ k, (Value.slice ao' (n + m) cap').ownBlock = some k → w.heap.size ≤ k) → wpList P ops Q rest (a.put o.dst (.slice ao' (n + m) cap')) w') : wpList P ops Q (o :: rest) a w :=
  wpList_plain hgd fun _ hK => wp_append_row2 s x t ho base e i z size bytes ht hi hz hsize hby hzs hsz ao n cap xs hs hown bo m c news hx hsrc h1 h63 hbytes hbase fun ao' cap' w' h2 h3 h4 => hK _ _ (h ao' cap' w' h2 h3 h4)

end


/-- The names under way are written. -/
theorem Rd.own2 {B : Nat} {w w' : World} {R : Nat} {s : Sm} {A : Ad} {vT vV v : Value} {n : Nat} {xs : List Value} (h : Rd B w R s A vT vV) (hw : Own2 v w w') (ho : w.ownsRow B 9 1 v n xs) (hap : ∀ k, v.ownBlock = some k → k ∉ adB A s) : Rd B w' R s A vT vV := by
  have hf := Fr.own2 hw
  refine ⟨h.blk.fr hf (fun e => h.blk.row ho (by decide) R e rfl), ?_, h.lo⟩
  exact h.ro.fr hf (fun k hk hp => own_ne h.ro.e ho (by decide) k hk hp) (fun k hk hp => own_ne h.ro.p ho (by decide) k hk hp) (fun k hk hp => own_ne h.ro.r ho (by decide) k hk hp) (fun k hk hp => own_ne h.ro.o ho (by decide) k hk hp) (fun k hk hp => hap k hp hk)

/-- The defaults are added to. -/
theorem Rd.defs {B : Nat} {w w' : World} {R : Nat} {s : Sm} {A : Ad} {vT vV : Value} (h : Rd B w R s A vT vV) (ds : Ws) (a : Option Addr) (c : Nat) (hg : w.grownBy w' (A.vD s).ownBlock) (ho : w'.ownsRow B 9 1 (.slice a ds.length c) ds.length (lay tv ds)) (hnew : (Value.slice a ds.length c).ownBlock = (A.vD s).ownBlock ∨ ∀ k, (Value.slice a ds.length c).ownBlock = some k → w.heap.size ≤ k) :
    Rd B (w'.setCell ⟨R, 2, none⟩ (.slice a ds.length c)) R (s.wD ds) (A.wDd a c) vT vV := by
  have hf := Fr.grown hg
  have hnR : ∀ k, (A.vD s).ownBlock = some k → k ≠ R := h.blk.row h.ro.d (by decide)
  have hb' : Blk w' R (rdC A s vT vV) 49 := h.blk.fr hf (fun e => hnR R e rfl)
  have hnd := h.ro.nd
  have hmem := h.ro.mem
  have hes : ∀ x ∈ A.es, ∀ k ∈ edB x, (A.vD s).ownBlock ≠ some k := by
    intro x hx k hk e
    unfold adB at hnd
    have := (List.nodup_append.1 hnd).2.2 k (by rw [e]; simp) k (List.mem_flatMap.2 ⟨x, hx, hk⟩)
    exact this rfl
  have hfs := Fr.set w' R 2 (.slice a ds.length c)
  refine ⟨hb'.set 2 _, ?_, h.lo⟩
  refine ⟨?_, h.ro.em, ?_, ?_, ?_, ?_, ?_, ?_⟩
  · have := own_fr h.ro.e hf (fun k hk hp => own_ne h.ro.e h.ro.d (by decide) k hk hp)
    exact own_fr this hfs (own_new_ne this hb')
  · have := own_fr h.ro.p hf (fun k hk hp => own_ne h.ro.p h.ro.d (by decide) k hk hp)
    exact own_fr this hfs (own_new_ne this hb')
  · exact own_fr ho hfs (own_new_ne ho hb')
  · have := own_fr h.ro.r hf (fun k hk hp => own_ne h.ro.r h.ro.d (by decide) k hk hp)
    exact own_fr this hfs (own_new_ne this hb')
  · have := own_fr h.ro.o hf (fun k hk hp => own_ne h.ro.o h.ro.d (by decide) k hk hp)
    exact own_fr this hfs (own_new_ne this hb')
  · intro x hx
    have h1 := (h.ro.q x hx).fr hf (fun k hk hp => hes x hx k hk hp)
    exact h1.fr hfs (fun k hk e => (h1.blk hb' (by decide)) k hk e)
  · show ((Value.slice a ds.length c).ownBlock.toList ++ A.es.flatMap edB).Nodup
    rcases hnew with e | hlo
    · rw [e]; exact hnd
    · unfold adB at hnd
      refine List.nodup_append.2 ⟨by cases (Value.slice a ds.length c).ownBlock <;> simp, (List.nodup_append.1 hnd).2.1, ?_⟩
      intro x hx y hy e
      subst e
      have h1 := hlo x (Option.mem_toList.1 hx)
      have h2 := (hmem x (List.mem_append_right _ hy)).2
      omega

set_option maxRecDepth 20000 in
set_option maxHeartbeats 4000000 in
theorem readDefaults_any (B R : Nat) (s : Sm) (A : Ad) (vT vV : Value) (xo : Option Addr) (xc : Nat) (xs : Ws) (w : World) (h : Rd B w R s A vT vV) (hu : vT = .func (.func 28) #[] #[] ∧ vV = .func (.func 29) #[] #[]) (hB : B ≤ w.heap.size) (ok : SmOk s)
    (hown : OwnT w B xo xc xs) (hap : ∀ k, (Value.slice xo xs.length xc).ownBlock = some k → k ∉ adB A s) (hl : xs.length ≤ 4096) (hm : ∀ p ∈ xs, p.length ≤ 4096) :
    Calls Tryz.prog 36 #[.pointer (some ⟨R, 0, none⟩), .slice xo xs.length xc] w (LSays B R (deL s xs) w) := by
  obtain ⟨i0, hi, hz0, hz1, hz2⟩ := info_parts Tryz.infoS
  have HC := hide (mclean_any xo xc B xs w hown hl hm)
  have HD := hide (fun w' (hw : Own2 (.slice xo xs.length xc) w w') => h.own2 hw hown hap)
  have HBL := hide (fun w' (hw : Own2 (.slice xo xs.length xc) w w') => hw.below hB hown)
  have hRlo := h.lo
  have HOK := hide ok
  have HU := hide hu
  have hld := ok.ld
  clear h ok hu hown hap hm
  by_cases h0 : xs = []
  · have HX : Hid (deL s xs = .error 800) := by show _ = _; unfold deL; rw [h0]; rfl
    have g0 : ((xs.length : Int) == 0) = true := by rw [h0]; rfl
    clear h0
    go_enter Tryz.func36, Tryz.ntmps36
    go_wp2_with fail
    go_ret
    exact LSays.err HX.out (Below.refl _ _)
  have g0 : ((xs.length : Int) == 0) = false := by
    cases xs with
    | nil => exact absurd rfl h0
    | cons a b => simp; omega
  cases hc : clL xs with
  | none =>
    have HX : Hid (deL s xs = .error 800) := by show _ = _; unfold deL; rw [hc]
    rw [hc] at HC
    change Hid (Calls _ _ _ _ fun e w' => e = .returned (.bool false) ∧ _) at HC
    clear h0 hc
    go_enter Tryz.func36, Tryz.ntmps36
    go_wp2_with fail
    refine (unhide HC).mono ?_
    rintro e w2 ⟨rfl, _, h2⟩
    go_wp2_with fail
    go_ret
    exact LSays.err HX.out (unhide HBL _ h2)
  | some ds =>
    have hdl := clL_len hc
    rw [hc] at HC
    change Hid (Calls _ _ _ _ fun e w' => e = .returned (.bool true) ∧ _) at HC
    by_cases h8 : 8 < s.ds.length + ds.length
    · have HX : Hid (deL s xs = .error 801) := by show _ = _; unfold deL; rw [hc]; simp only; rw [if_neg h0, if_pos h8]
      have g8 : (8 : Int) < (s.ds.length : Int) + (xs.length : Int) := by omega
      have HDL := hide hdl
      clear h0 hc h8 hdl
      go_enter Tryz.func36, Tryz.ntmps36
      go_wp2_with fail
      refine (unhide HC).mono ?_
      rintro e w2 ⟨rfl, _, h2⟩
      have c2 := (unhide HD w2 h2).cells.c2
      go_wp2_with fail
      go_ret
      exact LSays.err HX.out (unhide HBL _ h2)
    · have HX : Hid (deL s xs = .ok (s.wD (s.ds ++ ds))) := by show _ = _; unfold deL; rw [hc]; simp only; rw [if_neg h0, if_neg h8]; rfl
      have g8 : (s.ds.length : Int) + (xs.length : Int) ≤ 8 := by omega
      have HDL := hide hdl
      clear h0 hc hdl
      go_enter Tryz.func36, Tryz.ntmps36
      go_wp2_with fail
      refine (unhide HC).mono ?_
      rintro e w2 ⟨rfl, ho2, h2⟩
      have hD2 := unhide HD w2 h2
      have c2 := hD2.cells.c2
      have HO2 := hide (ho2 ds rfl)
      have HB2 := hide (unhide HBL _ h2)
      have HD2 := hide hD2
      have hBs2 : B ≤ w2.heap.size := Nat.le_trans hB h2.size
      have HDO : Hid (w2.ownsRow B 9 1 (.slice A.dd s.ds.length A.dc) s.ds.length (lay tv s.ds)) := hD2.ro.d
      have HDR : Hid (SrcRow w2 1 xo xs.length (lay tv ds)) := by
        show SrcRow _ _ _ _ _
        have := SrcRow.row tv_len (by decide) (unhide HO2).row
        rwa [unhide HDL] at this
      clear ho2 hD2 h2 HD HBL
      go_wp2_with (at_builtin; refine wpList_append_row2 rfl _ _ 24 rfl B 9 i0 (.string ByteArray.empty) 1 16 Tryz.underlying24 hi hz0 hz1 hz2 rfl (by decide) A.dd s.ds.length A.dc (lay tv s.ds) rfl (unhide HDO) xo xs.length xc (lay tv ds) rfl (unhide HDR) (one_layT ds) (by unfold maxLen; omega) (by omega) hBs2 ?_)
      intro ao' cap' w5 ho5 hg5 hn5
      have hB5 := (unhide HD2).blk.grown (Q.refl w2) hg5 ((unhide HD2).blk.row (unhide HDO) (by decide))
      have b5 : w5.cell? ⟨R, 2, none⟩ = some (.slice A.dd s.ds.length A.dc) := hB5.cell 2 rfl
      have f5 := hB5.frz 2
      have hLen : (s.ds ++ ds).length = s.ds.length + xs.length := by rw [List.length_append, unhide HDL]
      have HRD : Hid (Rd B (w5.setCell ⟨R, 2, none⟩ (.slice ao' (s.ds.length + xs.length) cap')) R (s.wD (s.ds ++ ds)) (A.wDd ao' cap') vT vV) := by
        have h1 := (unhide HD2).defs (s.ds ++ ds) ao' cap' hg5 (by rw [hLen, lay_app]; exact ho5) (by rw [hLen]; exact hn5)
        rw [hLen] at h1; exact h1
      have HBF : Hid (Below B w (w5.setCell ⟨R, 2, none⟩ (.slice ao' (s.ds.length + xs.length) cap'))) :=
        (Below.trans (unhide HB2) ((Fr.grown hg5).below hBs2 (fun k hk => ((unhide HDO).lt k hk).1))).setCell hRlo _
      clear ho5 hg5 hn5 hB5 hLen HDO HDR
      go_wp2_with fail
      go_ret
      have ok := unhide HOK
      have hdl2 := unhide HDL
      refine LSays.ok HX.out HBF.out ⟨⟨ok.le, ok.lp, ?_, ok.lr, ok.bs, ok.rl, trivial⟩, A.wDd ao' cap', vT, vV, HRD.out, unhide HU⟩
      show (s.ds ++ ds).length ≤ 8
      rw [List.length_append]; omega

end Go.Proofs.YtpddckgkaopnlaaGreatDoor

/- What the library's Fields answers for a plain text, and package manifest's alone; the conditions: the table of blanks lies in memory. -/
namespace Go.Proofs.YtpddckgkaopnlaaGreatDoor
open Go.RowKit

/-- The table of blanks lies below B. -/
def TabB (B : Nat) (w : World) : Prop := Tryz.lays157_ren.g 0 < B ∧ ∀ c : Nat, c < 256 → w.cell? ⟨Tryz.lays157_ren.g 0, c, none⟩ = some (.int .u8 (if Lib.isSp (UInt8.ofNat c) then 1 else 0))
theorem TabB.below {B : Nat} {w w' : World} (h : TabB B w) (hb : Below B w w') : TabB B w' := ⟨h.1, fun c hc => (hb.cell (p := ⟨Tryz.lays157_ren.g 0, c, none⟩) h.1).trans (h.2 c hc)⟩
theorem TabB.up {B B' : Nat} {w : World} (h : TabB B w) (hb : B ≤ B') : TabB B' w := ⟨Nat.lt_of_lt_of_le h.1 hb, h.2⟩

theorem plain_sp {c : UInt8} (h : (decide (32 ≤ (c.toNat : Int)) && decide ((c.toNat : Int) ≤ 126)) = true) : Lib.isSp c = (c == 32) := by
  simp only [Bool.and_eq_true, decide_eq_true_eq] at h
  unfold Lib.isSp
  have e : ∀ n : UInt8, n.toNat < 32 → (c == n) = false := fun n hn => by
    simp only [beq_eq_false_iff_ne, ne_eq]
    rintro rfl
    omega
  rw [e 9 (by decide), e 10 (by decide), e 11 (by decide), e 12 (by decide), e 13 (by decide)]
  simp

theorem fieldsGo_wd : ∀ (l cur : Tx), plainL l = true → Lib.fieldsGo cur l = one (cur ++ (spc 32 l).headD []) ++ ((spc 32 l).tail.filter fun x => !x.isEmpty)
  | [], cur, _ => by
    rw [Lib.fieldsGo, spc]
    cases cur <;> simp [one]
  | c :: r, cur, h => by
    have hc := plain_sp (c := c) (by unfold plainL at h; simp only [List.all_cons, Bool.and_eq_true] at h ⊢; exact h.1)
    have hr : plainL r = true := by unfold plainL at h ⊢; simp only [List.all_cons, Bool.and_eq_true] at h; exact h.2
    have hn : spc 32 r = (spc 32 r).headD [] :: (spc 32 r).tail := by
      cases hs : spc 32 r with
      | nil => exact absurd hs (spc_ne 32 r)
      | cons a b => rfl
    rw [Lib.fieldsGo, hc, spc]
    by_cases h32 : c = 32
    · have ih := fieldsGo_wd r [] hr
      rw [List.nil_append] at ih
      have hf : ((spc 32 r).filter fun x => !x.isEmpty) = Lib.fieldsGo [] r := by
        rw [ih]
        conv => lhs; rw [hn]
        rw [List.filter_cons]
        unfold one
        cases (spc 32 r).headD [] <;> simp
      rw [if_pos h32]
      simp only [List.headD_cons, List.append_nil, List.tail_cons, hf]
      cases cur with
      | nil => simp [one, h32]
      | cons a b => simp [one, h32]
    · have ih := fieldsGo_wd r (cur ++ [c]) hr
      rw [if_neg h32]
      have e : (c == 32) = false := by simpa using h32
      rw [e]
      simp only [Bool.false_eq_true, if_false, List.headD_cons, List.tail_cons]
      rw [ih, List.append_assoc]; rfl

theorem fields_wd {l : Tx} (h : plainL l = true) : Lib.fields l = wdL l := by
  unfold Lib.fields
  rw [fieldsGo_wd l [] h, List.nil_append]
  unfold wdL
  have hn : spc 32 l = (spc 32 l).headD [] :: (spc 32 l).tail := by
    cases hs : spc 32 l with
    | nil => exact absurd hs (spc_ne 32 l)
    | cons a b => rfl
  conv => rhs; rw [hn]
  rw [List.filter_cons]
  unfold one
  cases (spc 32 l).headD [] <;> simp

theorem spc_lens (d : UInt8) : ∀ l : Tx, (spc d l).length ≤ l.length + 1 ∧ ∀ x ∈ spc d l, x.length ≤ l.length
  | [] => ⟨by simp [spc], fun x hx => by simp [spc] at hx; subst hx; simp⟩
  | c :: r => by
    obtain ⟨h1, h2⟩ := spc_lens d r
    unfold spc
    cases hs : spc d r with
    | nil => exact absurd hs (spc_ne d r)
    | cons a b =>
      rw [hs] at h1 h2
      have h3 := h2 a (by simp)
      simp only [List.length_cons] at h1
      split
      · refine ⟨by simp only [List.length_cons]; omega, fun x hx => ?_⟩
        rcases List.mem_cons.1 hx with rfl | hx
        · simp
        · have := h2 x hx; simp only [List.length_cons]; omega
      · refine ⟨by simp only [List.length_cons, List.tail_cons]; omega, fun x hx => ?_⟩
        rcases List.mem_cons.1 hx with rfl | hx
        · simp only [List.headD_cons, List.length_cons]; omega
        · have := h2 x (List.mem_cons_of_mem _ hx); simp only [List.length_cons]; omega
theorem wdL_len (l : Tx) : (wdL l).length ≤ l.length + 1 := Nat.le_trans (List.length_filter_le _ _) (spc_lens 32 l).1
theorem wdL_mem {l x : Tx} (h : x ∈ wdL l) : x.length ≤ l.length := (spc_lens 32 l).2 x (List.mem_filter.1 h).1
theorem lay_tvm (xs : Ws) : lay tv xs = xs.map fun l => Value.string ⟨l.toArray⟩ := by
  induction xs with
  | nil => rfl
  | cons y r ih => rw [lay_cons, ih, List.map_cons]; rfl

theorem fields_any (B : Nat) (s : ByteArray) (w : World) (hs : s.size ≤ 4096) (hp : plainL (bl s) = true) (ht : TabB B w) :
    Calls Tryz.prog 37 #[.string s] w fun e w' => e = .returned (.slice (some ⟨w.heap.size, 0, none⟩) (wdL (bl s)).length (wdL (bl s)).length) ∧ OwnT w' w.heap.size (some ⟨w.heap.size, 0, none⟩) (wdL (bl s)).length (wdL (bl s)) ∧ Q w w' := by
  have hf : Lib.fields s.data.toList = wdL (bl s) := fields_wd hp
  refine (Any.strings_Fields_core Tryz.lays157 Tryz.infoS s w (by omega) ?_ ht.2).mono ?_
  · intro j b hb
    have h1 := List.all_eq_true.1 hp b (List.mem_of_getElem? hb)
    simp only [Bool.and_eq_true, decide_eq_true_eq] at h1
    omega
  · rintro e w' ⟨rfl, rfl⟩
    rw [hf]
    refine ⟨rfl, ?_, (Q.refl w).alloc _⟩
    have hl : (wdL (bl s)).length ≤ 4097 := by
      have := wdL_len (bl s)
      rw [bl_size] at this; omega
    refine ⟨lay_length tv_len _, Or.inr ⟨w.heap.size, (wdL (bl s)).length, ((wdL (bl s)).map fun l => Value.string ⟨l.toArray⟩).toArray, rfl, Nat.le_refl _, heap_alloc_new w _, Nat.le_refl _, by unfold maxLen; omega, by simp, ?_⟩⟩
    rw [lay_tvm]; simp only [Nat.mul_one]
    exact List.take_of_length_le (by simp)

theorem alone_any (w : World) :
    Calls Tryz.prog 11 #[] w fun e w' => e = .returned (.agg #[.func (.func 28) #[] #[], .func (.func 29) #[] #[]]) ∧ Q w w' := by
  go_enter Tryz.func11, Tryz.ntmps11
  go_wp2_with fail
  exact bodyPost_ret (v := .agg #[.func (.func 28) #[] #[], .func (.func 29) #[] #[]]) (by simp [results, Tryz.results11, go_sem]) rfl ⟨rfl, (Q.refl w).alloc _⟩

theorem ovL_un {s s1 : Sm} (h : ovL s = .ok s1) : s1.un = none := by
  unfold ovL at h
  split at h
  · rename_i e; cases h; exact e
  · split at h
    · cases h
    · cases h; rfl
  · split at h
    · cases h
    · cases h; rfl
  · split at h
    · cases h
    · cases h; rfl
theorem wU_none {s : Sm} (h : s.un = none) : s.wU none = s := by
  cases s; unfold Sm.wU; simp only at h ⊢; rw [h]

end Go.Proofs.YtpddckgkaopnlaaGreatDoor

/- The table of blanks, out of a row's own condition; no conditions. -/
namespace Go.Proofs.YtpddckgkaopnlaaGreatDoor
open Go.RowKit

def spZ : List Int := (List.range 256).map fun c => if Lib.isSp (UInt8.ofNat c) then 1 else 0
theorem tab_of_laid {laid : List (String × DataW Unit)} {W : World} (e : (laid.filter fun x => x.1 == "strings.asciiSpace") = [("strings.asciiSpace", Lib.tabData .u8 spZ)]) (h : laidMetH Tryz.prog laid W) : TabB W.heap.size W := by
  have h1 := h.filter fun x => x.1 == "strings.asciiSpace"
  rw [e, MakeChecks.laidMetH_plain _ _ _ (by kernel_rfl)] at h1
  have hg : Tryz.prog.globalNamed "strings.asciiSpace" = some (Tryz.lays157_ren.g 0) := by kernel_rfl
  have hT := Lib.tabIs_of_head (n := 256) (e := 5) (t := 126) hg (by kernel_rfl) (by kernel_rfl) (by kernel_rfl) (by kernel_rfl) (by kernel_rfl) h1
  have hl : spZ.length = 256 := by simp [spZ]
  have hc : ∀ c : Nat, c < 256 → W.cell? ⟨Tryz.lays157_ren.g 0, c, none⟩ = some (.int .u8 (spZ.getD c 0)) := fun c hc => hT.cell hg c (by omega)
  refine ⟨World.block_lt_of_cell? _ _ (hc 0 (by decide)), fun c hc0 => ?_⟩
  rw [hc c hc0]
  have : spZ.getD c 0 = if Lib.isSp (UInt8.ofNat c) then 1 else 0 := by
    unfold spZ
    rw [List.getD_eq_getElem?_getD, List.getElem?_map, List.getElem?_range hc0]; rfl
  rw [this]

end Go.Proofs.YtpddckgkaopnlaaGreatDoor
