/- What the document's own PutFile answers; the conditions: the files lie in memory, no name is longer than a string can be. -/
import Derived.Test.YtjalklmgdkhekaaDoorDkRRem
import Derived.Test.YtjalklmgdkhekaaDoorDkPutAll
namespace Go.Proofs.YtjalklmgdkhekaaDoor
open Go.RowKit

theorem mk_blK (x : ByteArray) : (⟨(bl x).toArray⟩ : ByteArray) = x := (of_bl rfl).symm
theorem ltT_txt (a : Tx) (n : ByteArray) : Op.bytesLess (⟨a.toArray⟩ : ByteArray).toList n.toList = ltT a (bl n) := by
  have := lt_txt a (bl n)
  rwa [mk_blK] at this
theorem fv_mk (n : ByteArray) (x t : Int) : fv (bl n, x, t) = [.string n, .int .i64 x, .int .i64 t] := by
  show [Value.string ⟨(bl n).toArray⟩, _, _] = _
  rw [mk_blK]
theorem pst_len (n : Tx) (f g : Fl) (s : List Fl × Bool) : (pst n f s g).1.length ≤ s.1.length + 2 := by
  unfold pst
  dsimp only
  split <;> split <;> simp
theorem psts_le (n : Tx) (f : Fl) : ∀ (fs : List Fl) (s : List Fl × Bool), (fs.foldl (pst n f) s).1.length ≤ s.1.length + 2 * fs.length
  | [], s => by simp
  | g :: r, s => by
    have h1 := psts_le n f r (pst n f s g)
    have h2 := pst_len n f g s
    rw [List.foldl_cons, List.length_cons]
    omega

/-- The disk that is being made. -/
structure PS (F : Nat) (C : Int) (wz wr : World) (so : Option Addr) (sc : Nat) (rj : List Fl) : Prop where
  o : Blk wr (F + 1) #[.int .i64 C, .slice so rj.length sc] 24
  w : OwnK wr (F + 1) so sc rj
  f : Fr (fun k => F < k) wz wr
theorem PS.app {F : Nat} {C : Int} {wz wr wx w5 : World} {so : Option Addr} {sc g5 cp5 : Nat} {rj : List Fl} {f : Fl} (h : PS F C wz wr so sc rj) (q : Q wr wx) (hg : wx.grownBy w5 (Value.slice so rj.length sc).ownBlock)
    (hown : w5.ownsRow (F + 1) 34 3 (.slice (some ⟨g5, 0, none⟩) (rj.length + 1) cp5) (rj.length + 1) (lay fv rj ++ fv f)) :
    (w5.cell? ⟨F + 1, 1, none⟩ = some (.slice so rj.length sc) ∧ w5.frozen? ⟨F + 1, 1, none⟩ = false) ∧ PS F C wz (w5.setCell ⟨F + 1, 1, none⟩ (.slice (some ⟨g5, 0, none⟩) (rj.length + 1) cp5)) (some ⟨g5, 0, none⟩) cp5 (rj ++ [f]) := by
  have h5 := (h.o.q q).fr (Fr.grown hg) (fun e => h.o.row h.w (by decide) _ e rfl)
  refine ⟨⟨h5.cell 1 rfl, h5.frz 1⟩, ?_, ?_, ?_⟩
  · rw [List.length_append]; exact h5.set 1 _
  · exact own_fr (OwnK.snoc hown) (Fr.set w5 _ 1 _) (fun k hk => h5.row hown (by decide) k hk)
  · exact (h.f.grownP q hg (fun k hk => by have := (h.w.lt k hk).1; omega)).trans ((Fr.set w5 _ 1 _).mono (fun k hk => by omega))
theorem PS.cell {F : Nat} {C : Int} {wz wr : World} {so : Option Addr} {sc : Nat} {rj : List Fl} (h : PS F C wz wr so sc rj) : wr.cell? ⟨F + 1, 0, none⟩ = some (.int .i64 C) ∧ wr.cell? ⟨F + 1, 1, none⟩ = some (.slice so rj.length sc) ∧ wr.frozen? ⟨F + 1, 1, none⟩ = false := ⟨h.o.cell 0 rfl, h.o.cell 1 rfl, h.o.frz 1⟩
theorem one_three (n : ByteArray) (x y : Int) : ∀ u ∈ [Value.string n, .int .i64 x, .int .i64 y], u.oneCell' = true := by intro u hu; simp at hu; rcases hu with rfl | rfl | rfl <;> rfl

theorem ful_put {c : Int} {fs : List Fl} {n : Tx} {x : Int} (hd : DkOk c fs) : fulB c fs n = (decide (1048576 < c + 1) || decide (64 < (putL fs n x (c + 1)).length)) := by
  have hl := put_len (n := n) (x := x) (t := c + 1) hd.u
  have h1 := hd.c1
  have h2 := hd.n
  unfold fulB
  rw [hl, Bool.eq_iff_iff]
  simp only [Bool.or_eq_true, Bool.and_eq_true, decide_eq_true_eq]
  cases (fnF fs n).isNone <;> simp <;> omega

set_option maxRecDepth 20000 in
set_option maxHeartbeats 16000000 in
theorem rput_go (c : Int) (fs : List Fl) (ao : Option Addr) (cap : Nat) (n : ByteArray) (x : Int) (w : World) (hr : RowK w ao fs) (hz : FlZ fs) (hs : fs.length ≤ cap) (hcap : cap ≤ maxLen) (hn : n.size ≤ maxLen) (hok : dkOk c fs = true) (hok2 : pthB (bl n) = true) (hok3 : coOk x = true) :
    Calls Tryd.prog 6 #[dkV c ao fs.length cap, .string n, .int .i64 x] w (PutSays c fs (bl n) x w) := by
  obtain ⟨i0, hi, hz0, hz1, hz2⟩ := info_parts Tryd.infoK
  have hd := dk_parts hok
  have b1 : Blk (w.alloc (.cells #[.int .i64 c, .slice ao fs.length cap] 24)) w.heap.size #[.int .i64 c, .slice ao fs.length cap] 24 := Blk.new w _ _
  have q1 := (Q.refl w).alloc (.cells #[.int .i64 c, .slice ao fs.length cap] 24)
  have b2 := Blk.new (w.alloc (.cells #[.int .i64 c, .slice ao fs.length cap] 24)) #[.int .i64 0, .slice none 0 0] 24
  rw [size_alloc] at b2
  have q2 := (Q.refl (w.alloc (.cells #[.int .i64 c, .slice ao fs.length cap] 24))).alloc (.cells #[.int .i64 0, .slice none 0 0] 24)
  have HB1 := hide (b1.q q2)
  have HB2 := hide b2
  have HQ := hide (q1.trans q2)
  have HM := hide (fun w' (q : Q w w') => rdkMay_any c fs ao cap w' (hr.q q) hz hs hcap)
  have HP := hide (fun w' => rpth_any n w' hn)
  have HPUT := hide (pst_put (n := bl n) (x := x) (t := c + 1) hd.u)
  have HFB := hide (ful_put (n := bl n) (x := x) hd)
  have HFN := hide (fv_mk n x (c + 1))
  have hl64 := hd.n
  have HLE := hide (fun k => psts_le (bl n) (bl n, x, c + 1) (fs.take k) ([], false))
  clear b1 b2 q1 q2
  rw [hok] at HM
  rw [hok2] at HP
  have HU : Hid ((decide (0 ≤ x) && decide (x ≤ 2147483647)) = true) := hok3
  have hcw : IntKind.i64.wrap (c + 1) = c + 1 := by have h1 := hd.c0; have h2 := hd.c1; rw [IntKind.wrap_i64]; omega
  clear hd
  unfold dkV at HM ⊢
  go_enter Tryd.func6, Tryd.ntmps6
  go_wp2_with fail
  generalize (w.alloc (.cells #[.int .i64 c, .slice ao fs.length cap] 24)).alloc (.cells #[.int .i64 0, .slice none 0 0] 24) = wb at *
  refine (unhide HM _ (unhide HQ)).mono ?_
  rintro e w0 ⟨rfl, q0⟩
  go_wp2_with fail
  refine (unhide HP _).mono ?_
  rintro e w1 ⟨rfl, q1⟩
  go_wp2_with fail
  refine (upTo_lit x 0 2147483647 _ (unhide HU)).mono ?_
  rintro e w2 ⟨rfl, q2⟩
  have hq2 := hide ((q0.trans q1).trans q2)
  have hx2 := (unhide HB1).q (unhide hq2)
  have b0 : w2.cell? ⟨w.heap.size, 0, none⟩ = some (.int .i64 c) := hx2.cell 0 rfl
  have b0A : (w2.alloc (.cells #[.string n, .int .i64 x, .int .i64 (c + 1)] 34)).cell? ⟨w.heap.size, 0, none⟩ = some (.int .i64 c) := (hx2.q ((Q.refl w2).alloc (.cells #[.string n, .int .i64 x, .int .i64 (c + 1)] 34))).cell 0 rfl
  have bF := Blk.new w2 #[.string n, .int .i64 x, .int .i64 (c + 1)] 34
  have bO := Blk.new (w2.alloc (.cells #[.string n, .int .i64 x, .int .i64 (c + 1)] 34)) #[.int .i64 (c + 1), .slice none 0 0] 24
  rw [size_alloc] at bO
  have qo := (Q.refl (w2.alloc (.cells #[.string n, .int .i64 x, .int .i64 (c + 1)] 34))).alloc (.cells #[.int .i64 (c + 1), .slice none 0 0] 24)
  have qz := ((Q.refl w2).alloc (.cells #[.string n, .int .i64 x, .int .i64 (c + 1)] 34)).trans qo
  have HBD := hide (hx2.q qz)
  have HBR := hide (((unhide HB2).q (unhide hq2)).q qz)
  have HBF := hide (bF.q qo)
  have HBO := hide bO
  have HQZ := hide ((unhide HQ).trans ((unhide hq2).trans qz))
  have hcF : w.heap.size + 1 < w2.heap.size := ((unhide HB2).q (unhide hq2)).hi
  clear hx2 bF bO qo qz q0 q1 q2 HB1 HB2 HM HP HU HQ
  go_wp2_with fail
  generalize (w2.alloc (.cells #[.string n, .int .i64 x, .int .i64 (c + 1)] 34)).alloc (.cells #[.int .i64 (c + 1), .slice none 0 0] 24) = wz at *
  generalize w2.heap.size = F at *
  clear b0 b0A hq2 hcw
  go_loopw [10, 11] (fun b i wr => ∃ (k : Nat) (so : Option Addr) (sc : Nat), k ≤ fs.length ∧ b = .bool (psts (bl n) (bl n, x, c + 1) (fs.take k)).2 ∧ i = .int .i64 k ∧ Hid (PS F (c + 1) wz wr so sc (psts (bl n) (bl n, x, c + 1) (fs.take k)).1)) (fun _ i _ => fs.length - (intOf i).toNat)
  case atStart => exact ⟨0, none, 0, Nat.zero_le _, rfl, rfl, ⟨unhide HBO, World.ownsRow_nil _ _ _ _, Fr.refl _ _⟩⟩
  case round =>
    obtain ⟨k, so, sc, hk, rfl, rfl, HPS⟩ := hrel
    have HRL : Hid ((psts (bl n) (bl n, x, c + 1) (fs.take k)).1.length ≤ 2000) := by
      show _ ≤ _
      have h1 := unhide HLE k
      rw [List.length_take] at h1
      show (List.foldl (pst (bl n) (bl n, x, c + 1)) ([], false) (fs.take k)).1.length ≤ 2000
      simp only [List.length_nil] at h1
      omega
    by_cases hlt : k < fs.length
    · rcases hr.q (Fr.below' (unhide HQZ) (unhide HPS).f (by omega)) with he | ⟨g, o, rfl, hg, hcell⟩
      · rw [he] at hlt; simp at hlt
      obtain ⟨⟨f1, f2, f3⟩, hf⟩ : ∃ f, fs[k]? = some f := ⟨fs[k], List.getElem?_eq_getElem hlt⟩
      have HCE : Hid (∀ w', Q w w' → w'.cell? ⟨g, o + k * 3, none⟩ = some (.string ⟨f1.toArray⟩) ∧ w'.cell? ⟨g, o + k * 3 + 1, none⟩ = some (.int .i64 f2) ∧ w'.cell? ⟨g, o + k * 3 + 2, none⟩ = some (.int .i64 f3)) := fun w' q => by
        rcases hr.q q with he | ⟨g', o', e', hg', hcell'⟩
        · rw [he] at hlt; simp at hlt
        · cases e'
          exact ⟨hcell' k 0 _ _ hf (by decide) rfl, hcell' k 1 _ _ hf (by decide) rfl, hcell' k 2 _ _ hf (by decide) rfl⟩
      have HSU := hide (psts_succ (n := bl n) (f := (bl n, x, c + 1)) hf)
      have hv := ltT_txt f1 n
      have htx := txt_beq f1 n
      have HV : Hid (fv (f1, f2, f3) = [.string ⟨f1.toArray⟩, .int .i64 f2, .int .i64 f3]) := rfl
      have k0 : (0 : Int) ≤ (k : Int) := Int.natCast_nonneg _
      have k1 : (k : Int) < (fs.length : Int) := by omega
      have hge := geq_str
      generalize (⟨f1.toArray⟩ : ByteArray) = x1 at *
      clear hcell hf hg
      generalize psts (bl n) (bl n, x, c + 1) (fs.take k) = st at *
      obtain ⟨rj, b⟩ := st
      dsimp only at HPS HRL ⊢
      cases b
      · cases hl : ltT f1 (bl n)
        · rw [hl] at hv
          cases hnm : (f1 == bl n)
          · rw [hnm] at htx
            have x1c : wr.cell? ⟨w.heap.size, 1, none⟩ = some (.slice (some ⟨g, o, none⟩) fs.length cap) := ((unhide HBD).fr (unhide HPS).f (by omega)).cell 1 rfl
            obtain ⟨c0, c1, c2⟩ := unhide HCE wr (Fr.below' (unhide HQZ) (unhide HPS).f (by omega))
            have fz := (unhide HBF).fr (unhide HPS).f (by omega)
            have p0 : wr.cell? ⟨F, 0, none⟩ = some (.string n) := fz.cell 0 rfl
            have p1 : wr.cell? ⟨F, 1, none⟩ = some (.int .i64 x) := fz.cell 1 rfl
            have p2 : wr.cell? ⟨F, 2, none⟩ = some (.int .i64 (c + 1)) := fz.cell 2 rfl
            obtain ⟨o0, o1, ofz⟩ := (unhide HPS).cell
            clear fz
            go_wp2_with (at_builtin; refine wpList_append_lies _ rfl _ _ 22 rfl (F + 1) 34 i0 _ 3 32 Tryd.underlying22 hi hz0 hz1 hz2 rfl (by decide) _ rj.length (lay fv rj) rfl (own_q (unhide HPS).w ((Q.refl wr).alloc (.cells #[.string n, .int .i64 x, .int .i64 (c + 1)] 34))) ⟨wr.heap.size, 0, none⟩ 1 1 [.string n, .int .i64 x, .int .i64 (c + 1)] rfl rfl (news_new wr #[.string n, .int .i64 x, .int .i64 (c + 1)] _) (one_three _ _ _) (by decide) (by have := unhide HRL; unfold maxLen; omega) (by have := unhide HRL; omega) (le_alloc (Nat.le_of_lt (unhide HPS).o.hi) _) (wr.heap.size + 1) (size_alloc _ _) ?_)
            intro g5 cp5 w5 hown5 hgrow5 hor5 hlt5
            rw [← unhide HFN] at hown5
            obtain ⟨⟨y1, y2⟩, ps⟩ := (unhide HPS).app ((Q.refl wr).alloc (.cells #[.string n, .int .i64 x, .int .i64 (c + 1)] 34)) hgrow5 hown5
            obtain ⟨rj1, hr1⟩ : ∃ l, l = rj ++ [(bl n, x, c + 1)] := ⟨_, rfl⟩
            have hl1 : rj.length + 1 = rj1.length := by rw [hr1, List.length_append]; rfl
            rw [hl1, ← hr1] at ps
            rw [hl1]
            have HP1 : Hid (PS F (c + 1) wz (w5.setCell ⟨F + 1, 1, none⟩ (.slice (some ⟨g5, 0, none⟩) rj1.length cp5)) (some ⟨g5, 0, none⟩) cp5 rj1) := ps
            have HRL1 : Hid (rj1.length ≤ 4000) := by show _ ≤ _; have := unhide HRL; omega
            clear ps hown5 hgrow5 hor5 p0 p1 p2 o0 o1 ofz
            clear x1c c0 c1 c2
            have HST : Hid (psts (bl n) (bl n, x, c + 1) (fs.take (k + 1)) = (rj ++ [(bl n, x, c + 1)] ++ [(f1, f2, f3)], true)) := by show _ = _; rw [unhide HSU]; unfold pst; simp [hl, hnm]
            rw [← hr1] at HST
            clear hl hnm hr1 hl1
            have x1c : (w5.setCell ⟨F + 1, 1, none⟩ (.slice (some ⟨g5, 0, none⟩) rj1.length cp5)).cell? ⟨w.heap.size, 1, none⟩ = some (.slice (some ⟨g, o, none⟩) fs.length cap) := ((unhide HBD).fr (unhide HP1).f (by omega)).cell 1 rfl
            obtain ⟨c0, c1, c2⟩ := unhide HCE (w5.setCell ⟨F + 1, 1, none⟩ (.slice (some ⟨g5, 0, none⟩) rj1.length cp5)) (Fr.below' (unhide HQZ) (unhide HP1).f (by omega))
            have HDX := hide ((unhide HBD).fr (unhide HP1).f (by omega))
            have o1 : (w5.setCell ⟨F + 1, 1, none⟩ (.slice (some ⟨g5, 0, none⟩) rj1.length cp5)).cell? ⟨F + 1, 1, none⟩ = some (.slice (some ⟨g5, 0, none⟩) rj1.length cp5) := (unhide HP1).cell.2.1
            have oA : ∀ ob, ((w5.setCell ⟨F + 1, 1, none⟩ (.slice (some ⟨g5, 0, none⟩) rj1.length cp5)).alloc ob).cell? ⟨F + 1, 1, none⟩ = some (.slice (some ⟨g5, 0, none⟩) rj1.length cp5) := fun ob => ((unhide HP1).o.q ((Q.refl (w5.setCell ⟨F + 1, 1, none⟩ (.slice (some ⟨g5, 0, none⟩) rj1.length cp5))).alloc ob)).cell 1 rfl
            have xA : ∀ ob, ((w5.setCell ⟨F + 1, 1, none⟩ (.slice (some ⟨g5, 0, none⟩) rj1.length cp5)).alloc ob).cell? ⟨w.heap.size, 1, none⟩ = some (.slice (some ⟨g, o, none⟩) fs.length cap) := fun ob => ((unhide HDX).q ((Q.refl (w5.setCell ⟨F + 1, 1, none⟩ (.slice (some ⟨g5, 0, none⟩) rj1.length cp5))).alloc ob)).cell 1 rfl
            go_wp2_with fail
            go_region_law (refine step_append_lies _ rfl (.tmp 70) (.tmp 76) 22 rfl (F + 1) 34 i0 _ 3 32 Tryd.underlying22 hi hz0 hz1 hz2 rfl (by decide) (.slice (some ⟨g5, 0, none⟩) rj1.length cp5) rj1.length (lay fv rj1) (by simp [Act.eval]) (own_q (unhide HP1).w ((Q.refl (w5.setCell ⟨F + 1, 1, none⟩ (.slice (some ⟨g5, 0, none⟩) rj1.length cp5))).alloc (.cells #[.string x1, .int .i64 f2, .int .i64 f3] 34)).drew) ⟨(w5.setCell ⟨F + 1, 1, none⟩ (.slice (some ⟨g5, 0, none⟩) rj1.length cp5)).heap.size, 0, none⟩ 1 1 [.string x1, .int .i64 f2, .int .i64 f3] (by simp [Act.eval]) rfl (fun jj u hjj => news_at (w := (w5.setCell ⟨F + 1, 1, none⟩ (.slice (some ⟨g5, 0, none⟩) rj1.length cp5))) (by rfl) #[.string x1, .int .i64 f2, .int .i64 f3] 34 jj u hjj) (one_three _ _ _) (by decide) (by have := unhide HRL1; unfold maxLen; omega) (by have := unhide HRL1; omega) (by have := (unhide HP1).o.hi; have h9 := size_alloc (w5.setCell ⟨F + 1, 1, none⟩ (.slice (some ⟨g5, 0, none⟩) rj1.length cp5)) (.cells #[.string x1, .int .i64 f2, .int .i64 f3] 34); show F + 1 ≤ (World.alloc _ _).heap.size; rw [h9]; omega) ((w5.setCell ⟨F + 1, 1, none⟩ (.slice (some ⟨g5, 0, none⟩) rj1.length cp5)).heap.size + 1) (size_alloc _ _) ?_; intro g6 cp6 w6 hown6 hgrow6 hor6 hlt6; rw [← unhide HV] at hown6; obtain ⟨⟨v1, v2⟩, ps6⟩ := (unhide HP1).app (f := (f1, f2, f3)) ((Q.refl (w5.setCell ⟨F + 1, 1, none⟩ (.slice (some ⟨g5, 0, none⟩) rj1.length cp5))).alloc (.cells #[.string x1, .int .i64 f2, .int .i64 f3] 34)).drew hgrow6 hown6; have HP6 := hide ps6)
            all_goals
              clear hown6 hgrow6 hor6 v1 v2 ps6 o1 oA xA c0 c1 c2 x1c
              generalize (w6.setCell ⟨F + 1, 1, none⟩ (.slice (some ⟨g6, 0, none⟩) (rj1.length + 1) cp6)) = w7 at *
              go_wp2_with fail
              go_roundw
              case rel => exact ⟨k + 1, some ⟨g6, 0, none⟩, cp6, by omega, by rw [unhide HST], by go_num, by show PS _ _ _ _ _ _ _; rw [unhide HST]; exact unhide HP6⟩
              case measure => simp [intOf]; omega
          · rw [hnm] at htx
            have x1c : wr.cell? ⟨w.heap.size, 1, none⟩ = some (.slice (some ⟨g, o, none⟩) fs.length cap) := ((unhide HBD).fr (unhide HPS).f (by omega)).cell 1 rfl
            obtain ⟨c0, c1, c2⟩ := unhide HCE wr (Fr.below' (unhide HQZ) (unhide HPS).f (by omega))
            have fz := (unhide HBF).fr (unhide HPS).f (by omega)
            have p0 : wr.cell? ⟨F, 0, none⟩ = some (.string n) := fz.cell 0 rfl
            have p1 : wr.cell? ⟨F, 1, none⟩ = some (.int .i64 x) := fz.cell 1 rfl
            have p2 : wr.cell? ⟨F, 2, none⟩ = some (.int .i64 (c + 1)) := fz.cell 2 rfl
            obtain ⟨o0, o1, ofz⟩ := (unhide HPS).cell
            clear fz
            go_wp2_with (at_builtin; refine wpList_append_lies _ rfl _ _ 22 rfl (F + 1) 34 i0 _ 3 32 Tryd.underlying22 hi hz0 hz1 hz2 rfl (by decide) _ rj.length (lay fv rj) rfl (own_q (unhide HPS).w ((Q.refl wr).alloc (.cells #[.string n, .int .i64 x, .int .i64 (c + 1)] 34))) ⟨wr.heap.size, 0, none⟩ 1 1 [.string n, .int .i64 x, .int .i64 (c + 1)] rfl rfl (news_new wr #[.string n, .int .i64 x, .int .i64 (c + 1)] _) (one_three _ _ _) (by decide) (by have := unhide HRL; unfold maxLen; omega) (by have := unhide HRL; omega) (le_alloc (Nat.le_of_lt (unhide HPS).o.hi) _) (wr.heap.size + 1) (size_alloc _ _) ?_)
            intro g5 cp5 w5 hown5 hgrow5 hor5 hlt5
            rw [← unhide HFN] at hown5
            obtain ⟨⟨y1, y2⟩, ps⟩ := (unhide HPS).app ((Q.refl wr).alloc (.cells #[.string n, .int .i64 x, .int .i64 (c + 1)] 34)) hgrow5 hown5
            obtain ⟨rj1, hr1⟩ : ∃ l, l = rj ++ [(bl n, x, c + 1)] := ⟨_, rfl⟩
            have hl1 : rj.length + 1 = rj1.length := by rw [hr1, List.length_append]; rfl
            rw [hl1, ← hr1] at ps
            rw [hl1]
            have HP1 : Hid (PS F (c + 1) wz (w5.setCell ⟨F + 1, 1, none⟩ (.slice (some ⟨g5, 0, none⟩) rj1.length cp5)) (some ⟨g5, 0, none⟩) cp5 rj1) := ps
            have HRL1 : Hid (rj1.length ≤ 4000) := by show _ ≤ _; have := unhide HRL; omega
            clear ps hown5 hgrow5 hor5 p0 p1 p2 o0 o1 ofz
            clear x1c c0 c1 c2
            have HST : Hid (psts (bl n) (bl n, x, c + 1) (fs.take (k + 1)) = (rj ++ [(bl n, x, c + 1)], true)) := by show _ = _; rw [unhide HSU]; unfold pst; simp [hl, hnm]
            rw [← hr1] at HST
            clear hl hnm hr1 hl1
            have x1c : (w5.setCell ⟨F + 1, 1, none⟩ (.slice (some ⟨g5, 0, none⟩) rj1.length cp5)).cell? ⟨w.heap.size, 1, none⟩ = some (.slice (some ⟨g, o, none⟩) fs.length cap) := ((unhide HBD).fr (unhide HP1).f (by omega)).cell 1 rfl
            obtain ⟨c0, c1, c2⟩ := unhide HCE (w5.setCell ⟨F + 1, 1, none⟩ (.slice (some ⟨g5, 0, none⟩) rj1.length cp5)) (Fr.below' (unhide HQZ) (unhide HP1).f (by omega))
            go_wp2_with fail
            go_roundw
            case rel => exact ⟨k + 1, some ⟨g5, 0, none⟩, cp5, by omega, by rw [unhide HST], by go_num, by show PS _ _ _ _ _ _ _; rw [unhide HST]; exact unhide HP1⟩
            case measure => simp [intOf]; omega
        · rw [hl] at hv
          have hnm : (f1 == bl n) = false := lt_ne hl
          rw [hnm] at htx
          have x1c : wr.cell? ⟨w.heap.size, 1, none⟩ = some (.slice (some ⟨g, o, none⟩) fs.length cap) := ((unhide HBD).fr (unhide HPS).f (by omega)).cell 1 rfl
          obtain ⟨c0, c1, c2⟩ := unhide HCE wr (Fr.below' (unhide HQZ) (unhide HPS).f (by omega))
          have HST : Hid (psts (bl n) (bl n, x, c + 1) (fs.take (k + 1)) = (rj ++ [(f1, f2, f3)], false)) := by show _ = _; rw [unhide HSU]; unfold pst; simp [hl, hnm]
          clear hl hnm
          have HDX := hide ((unhide HBD).fr (unhide HPS).f (by omega))
          have o1 : wr.cell? ⟨F + 1, 1, none⟩ = some (.slice so rj.length sc) := (unhide HPS).cell.2.1
          have oA : ∀ ob, (wr.alloc ob).cell? ⟨F + 1, 1, none⟩ = some (.slice so rj.length sc) := fun ob => ((unhide HPS).o.q ((Q.refl wr).alloc ob)).cell 1 rfl
          have xA : ∀ ob, (wr.alloc ob).cell? ⟨w.heap.size, 1, none⟩ = some (.slice (some ⟨g, o, none⟩) fs.length cap) := fun ob => ((unhide HDX).q ((Q.refl wr).alloc ob)).cell 1 rfl
          go_wp2_with fail
          go_region_law (refine step_append_lies _ rfl (.tmp 70) (.tmp 76) 22 rfl (F + 1) 34 i0 _ 3 32 Tryd.underlying22 hi hz0 hz1 hz2 rfl (by decide) (.slice so rj.length sc) rj.length (lay fv rj) (by simp [Act.eval]) (own_q (unhide HPS).w ((Q.refl wr).alloc (.cells #[.string x1, .int .i64 f2, .int .i64 f3] 34)).drew) ⟨wr.heap.size, 0, none⟩ 1 1 [.string x1, .int .i64 f2, .int .i64 f3] (by simp [Act.eval]) rfl (fun jj u hjj => news_at (w := wr) (by rfl) #[.string x1, .int .i64 f2, .int .i64 f3] 34 jj u hjj) (one_three _ _ _) (by decide) (by have := unhide HRL; unfold maxLen; omega) (by have := unhide HRL; omega) (by have := (unhide HPS).o.hi; have h9 := size_alloc wr (.cells #[.string x1, .int .i64 f2, .int .i64 f3] 34); show F + 1 ≤ (World.alloc _ _).heap.size; rw [h9]; omega) (wr.heap.size + 1) (size_alloc _ _) ?_; intro g6 cp6 w6 hown6 hgrow6 hor6 hlt6; rw [← unhide HV] at hown6; obtain ⟨⟨v1, v2⟩, ps6⟩ := (unhide HPS).app (f := (f1, f2, f3)) ((Q.refl wr).alloc (.cells #[.string x1, .int .i64 f2, .int .i64 f3] 34)).drew hgrow6 hown6; have HP6 := hide ps6)
          all_goals
            clear hown6 hgrow6 hor6 v1 v2 ps6 o1 oA xA c0 c1 c2 x1c
            generalize (w6.setCell ⟨F + 1, 1, none⟩ (.slice (some ⟨g6, 0, none⟩) (rj.length + 1) cp6)) = w7 at *
            go_wp2_with fail
            go_roundw
            case rel => exact ⟨k + 1, some ⟨g6, 0, none⟩, cp6, by omega, by rw [unhide HST], by go_num, by show PS _ _ _ _ _ _ _; rw [unhide HST]; exact unhide HP6⟩
            case measure => simp [intOf]; omega
      · clear hv
        cases hnm : (f1 == bl n)
        · rw [hnm] at htx
          have x1c : wr.cell? ⟨w.heap.size, 1, none⟩ = some (.slice (some ⟨g, o, none⟩) fs.length cap) := ((unhide HBD).fr (unhide HPS).f (by omega)).cell 1 rfl
          obtain ⟨c0, c1, c2⟩ := unhide HCE wr (Fr.below' (unhide HQZ) (unhide HPS).f (by omega))
          have HST : Hid (psts (bl n) (bl n, x, c + 1) (fs.take (k + 1)) = (rj ++ [(f1, f2, f3)], true)) := by show _ = _; rw [unhide HSU]; unfold pst; simp [hnm]
          clear hnm
          have HDX := hide ((unhide HBD).fr (unhide HPS).f (by omega))
          have o1 : wr.cell? ⟨F + 1, 1, none⟩ = some (.slice so rj.length sc) := (unhide HPS).cell.2.1
          have oA : ∀ ob, (wr.alloc ob).cell? ⟨F + 1, 1, none⟩ = some (.slice so rj.length sc) := fun ob => ((unhide HPS).o.q ((Q.refl wr).alloc ob)).cell 1 rfl
          have xA : ∀ ob, (wr.alloc ob).cell? ⟨w.heap.size, 1, none⟩ = some (.slice (some ⟨g, o, none⟩) fs.length cap) := fun ob => ((unhide HDX).q ((Q.refl wr).alloc ob)).cell 1 rfl
          go_wp2_with fail
          go_region_law (refine step_append_lies _ rfl (.tmp 70) (.tmp 76) 22 rfl (F + 1) 34 i0 _ 3 32 Tryd.underlying22 hi hz0 hz1 hz2 rfl (by decide) (.slice so rj.length sc) rj.length (lay fv rj) (by simp [Act.eval]) (own_q (unhide HPS).w ((Q.refl wr).alloc (.cells #[.string x1, .int .i64 f2, .int .i64 f3] 34)).drew) ⟨wr.heap.size, 0, none⟩ 1 1 [.string x1, .int .i64 f2, .int .i64 f3] (by simp [Act.eval]) rfl (fun jj u hjj => news_at (w := wr) (by rfl) #[.string x1, .int .i64 f2, .int .i64 f3] 34 jj u hjj) (one_three _ _ _) (by decide) (by have := unhide HRL; unfold maxLen; omega) (by have := unhide HRL; omega) (by have := (unhide HPS).o.hi; have h9 := size_alloc wr (.cells #[.string x1, .int .i64 f2, .int .i64 f3] 34); show F + 1 ≤ (World.alloc _ _).heap.size; rw [h9]; omega) (wr.heap.size + 1) (size_alloc _ _) ?_; intro g6 cp6 w6 hown6 hgrow6 hor6 hlt6; rw [← unhide HV] at hown6; obtain ⟨⟨v1, v2⟩, ps6⟩ := (unhide HPS).app (f := (f1, f2, f3)) ((Q.refl wr).alloc (.cells #[.string x1, .int .i64 f2, .int .i64 f3] 34)).drew hgrow6 hown6; have HP6 := hide ps6)
          all_goals
            clear hown6 hgrow6 hor6 v1 v2 ps6 o1 oA xA c0 c1 c2 x1c
            generalize (w6.setCell ⟨F + 1, 1, none⟩ (.slice (some ⟨g6, 0, none⟩) (rj.length + 1) cp6)) = w7 at *
            go_wp2_with fail
            go_roundw
            case rel => exact ⟨k + 1, some ⟨g6, 0, none⟩, cp6, by omega, by rw [unhide HST], by go_num, by show PS _ _ _ _ _ _ _; rw [unhide HST]; exact unhide HP6⟩
            case measure => simp [intOf]; omega
        · rw [hnm] at htx
          have x1c : wr.cell? ⟨w.heap.size, 1, none⟩ = some (.slice (some ⟨g, o, none⟩) fs.length cap) := ((unhide HBD).fr (unhide HPS).f (by omega)).cell 1 rfl
          obtain ⟨c0, c1, c2⟩ := unhide HCE wr (Fr.below' (unhide HQZ) (unhide HPS).f (by omega))
          have HST : Hid (psts (bl n) (bl n, x, c + 1) (fs.take (k + 1)) = (rj, true)) := by show _ = _; rw [unhide HSU]; unfold pst; simp [hnm]
          clear hnm
          go_wp2_with fail
          go_roundw
          case rel => exact ⟨k + 1, so, sc, by omega, by rw [unhide HST], by go_num, by show PS _ _ _ _ _ _ _; rw [unhide HST]; exact unhide HPS⟩
          case measure => simp [intOf]; omega
    · have hkl : k = fs.length := by omega
      subst hkl
      have HT : Hid (fs.take fs.length = fs) := List.take_length
      rw [unhide HT] at HPS HRL ⊢
      have k1 : ¬ ((fs.length : Int) < (fs.length : Int)) := by omega
      have x1c : wr.cell? ⟨w.heap.size, 1, none⟩ = some (.slice ao fs.length cap) := ((unhide HBD).fr (unhide HPS).f (by omega)).cell 1 rfl
      generalize psts (bl n) (bl n, x, c + 1) fs = st at *
      obtain ⟨rj, b⟩ := st
      dsimp only at HPS HRL ⊢
      cases b
      · have HRP0 : Hid (rj ++ [(bl n, x, c + 1)] = putL fs (bl n) x (c + 1)) := unhide HPUT
        have fz := (unhide HBF).fr (unhide HPS).f (by omega)
        have p0 : wr.cell? ⟨F, 0, none⟩ = some (.string n) := fz.cell 0 rfl
        have p1 : wr.cell? ⟨F, 1, none⟩ = some (.int .i64 x) := fz.cell 1 rfl
        have p2 : wr.cell? ⟨F, 2, none⟩ = some (.int .i64 (c + 1)) := fz.cell 2 rfl
        obtain ⟨o0, o1, ofz⟩ := (unhide HPS).cell
        clear fz
        go_wp2_with (at_builtin; refine wpList_append_lies _ rfl _ _ 22 rfl (F + 1) 34 i0 _ 3 32 Tryd.underlying22 hi hz0 hz1 hz2 rfl (by decide) _ rj.length (lay fv rj) rfl (own_q (unhide HPS).w ((Q.refl wr).alloc (.cells #[.string n, .int .i64 x, .int .i64 (c + 1)] 34))) ⟨wr.heap.size, 0, none⟩ 1 1 [.string n, .int .i64 x, .int .i64 (c + 1)] rfl rfl (news_new wr #[.string n, .int .i64 x, .int .i64 (c + 1)] _) (one_three _ _ _) (by decide) (by have := unhide HRL; unfold maxLen; omega) (by have := unhide HRL; omega) (le_alloc (Nat.le_of_lt (unhide HPS).o.hi) _) (wr.heap.size + 1) (size_alloc _ _) ?_)
        intro g5 cp5 w5 hown5 hgrow5 hor5 hlt5
        rw [← unhide HFN] at hown5
        obtain ⟨⟨y1, y2⟩, ps⟩ := (unhide HPS).app ((Q.refl wr).alloc (.cells #[.string n, .int .i64 x, .int .i64 (c + 1)] 34)) hgrow5 hown5
        obtain ⟨rj1, hr1⟩ : ∃ l, l = rj ++ [(bl n, x, c + 1)] := ⟨_, rfl⟩
        have hl1 : rj.length + 1 = rj1.length := by rw [hr1, List.length_append]; rfl
        rw [hl1, ← hr1] at ps
        rw [hl1]
        have HP1 : Hid (PS F (c + 1) wz (w5.setCell ⟨F + 1, 1, none⟩ (.slice (some ⟨g5, 0, none⟩) rj1.length cp5)) (some ⟨g5, 0, none⟩) cp5 rj1) := ps
        have HRL1 : Hid (rj1.length ≤ 4000) := by show _ ≤ _; have := unhide HRL; omega
        clear ps hown5 hgrow5 hor5 p0 p1 p2 o0 o1 ofz
        have HRP : Hid (rj1 = putL fs (bl n) x (c + 1)) := hr1.trans (unhide HRP0)
        clear hr1 hl1 HRP0 x1c
        by_cases hcc : (1048576 : Int) < c + 1
        · obtain ⟨o0, o1, ofz⟩ := (unhide HP1).cell
          have h2 := (unhide HBR).fr (unhide HP1).f (by omega)
          have d0 := h2.cell 0 rfl
          have d1 := h2.cell 1 rfl
          have e0 := h2.frz 0
          have e1 := h2.frz 1
          have H2 := hide h2
          have HQU := hide (Fr.below' (unhide HQZ) (unhide HP1).f (by omega))
          clear h2
          have HE : Hid (putE c fs (bl n) x = 1201) := by show _ = _; unfold putE; rw [hok, hok2, hok3, unhide HFB, ← unhide HRP, decide_eq_true hcc, Bool.true_or]; rfl
          go_wp2_with fail
          obtain ⟨hb, fr⟩ := put2 (unhide H2) (.int .i64 0) (.slice none 0 0)
          have HX := hide (Below.trans (unhide HQU) (fr.below (unhide HQU).size (fun k hk => by omega)))
          have g0 := hb.cell 0 rfl
          have g1 := hb.cell 1 rfl
          generalize (World.setCell (World.setCell _ ⟨w.heap.size + 1, 0, none⟩ (.int .i64 0)) ⟨w.heap.size + 1, 1, none⟩ (.slice none 0 0)) = wf at *
          exact bodyPost_ret (v := .tuple #[.agg #[.int .i64 0, .slice none 0 0], .int .i64 1201]) (by simp [results, Tryd.results6, go_sem, g0, g1]) rfl (put_no (unhide HE) (by decide) (unhide HX))
        · by_cases hll : 64 < rj1.length
          · obtain ⟨o0, o1, ofz⟩ := (unhide HP1).cell
            have h2 := (unhide HBR).fr (unhide HP1).f (by omega)
            have d0 := h2.cell 0 rfl
            have d1 := h2.cell 1 rfl
            have e0 := h2.frz 0
            have e1 := h2.frz 1
            have H2 := hide h2
            have HQU := hide (Fr.below' (unhide HQZ) (unhide HP1).f (by omega))
            clear h2
            have HE : Hid (putE c fs (bl n) x = 1201) := by show _ = _; unfold putE; rw [hok, hok2, hok3, unhide HFB, ← unhide HRP, decide_eq_true hll, Bool.or_true]; rfl
            have hll' : (64 : Int) < (rj1.length : Int) := by omega
            go_wp2_with fail
            obtain ⟨hb, fr⟩ := put2 (unhide H2) (.int .i64 0) (.slice none 0 0)
            have HX := hide (Below.trans (unhide HQU) (fr.below (unhide HQU).size (fun k hk => by omega)))
            have g0 := hb.cell 0 rfl
            have g1 := hb.cell 1 rfl
            generalize (World.setCell (World.setCell _ ⟨w.heap.size + 1, 0, none⟩ (.int .i64 0)) ⟨w.heap.size + 1, 1, none⟩ (.slice none 0 0)) = wf at *
            exact bodyPost_ret (v := .tuple #[.agg #[.int .i64 0, .slice none 0 0], .int .i64 1201]) (by simp [results, Tryd.results6, go_sem, g0, g1]) rfl (put_no (unhide HE) (by decide) (unhide HX))
          · obtain ⟨o0, o1, ofz⟩ := (unhide HP1).cell
            have h2 := (unhide HBR).fr (unhide HP1).f (by omega)
            have d0 := h2.cell 0 rfl
            have d1 := h2.cell 1 rfl
            have e0 := h2.frz 0
            have e1 := h2.frz 1
            have H2 := hide h2
            have HQU := hide (Fr.below' (unhide HQZ) (unhide HP1).f (by omega))
            clear h2
            have HE : Hid (putE c fs (bl n) x = 0) := by show _ = _; unfold putE; rw [hok, hok2, hok3, unhide HFB, ← unhide HRP, decide_eq_false hcc, decide_eq_false hll]; rfl
            have hll' : ¬ ((64 : Int) < (rj1.length : Int)) := by omega
            go_wp2_with fail
            obtain ⟨hb, fr⟩ := put2 (unhide H2) (.int .i64 (c + 1)) (.slice (some ⟨g5, 0, none⟩) rj1.length cp5)
            have HX := hide (Below.trans (unhide HQU) (fr.below (unhide HQU).size (fun k hk => by omega)))
            have HOX := hide (own_low (own_fr (unhide HP1).w fr (fun k hk => by have := ((unhide HP1).w.lt k hk).1; omega)) (show w.heap.size ≤ F + 1 by omega))
            have g0 := hb.cell 0 rfl
            have g1 := hb.cell 1 rfl
            generalize (World.setCell (World.setCell _ ⟨w.heap.size + 1, 0, none⟩ (.int .i64 (c + 1))) ⟨w.heap.size + 1, 1, none⟩ (.slice (some ⟨g5, 0, none⟩) rj1.length cp5)) = wf at *
            exact bodyPost_ret (v := .tuple #[.agg #[.int .i64 (c + 1), .slice (some ⟨g5, 0, none⟩) rj1.length cp5], .int .i64 0]) (by simp [results, Tryd.results6, go_sem, g0, g1]) rfl (by have h := put_yes (n := bl n) (x := x) (ao := (some ⟨g5, 0, none⟩)) (cap := cp5) (unhide HE) (by rw [← unhide HRP]; exact unhide HOX) (unhide HX); rw [← unhide HRP] at h; exact h)
      · have HRP : Hid (rj = putL fs (bl n) x (c + 1)) := unhide HPUT
        by_cases hcc : (1048576 : Int) < c + 1
        · obtain ⟨o0, o1, ofz⟩ := (unhide HPS).cell
          have h2 := (unhide HBR).fr (unhide HPS).f (by omega)
          have d0 := h2.cell 0 rfl
          have d1 := h2.cell 1 rfl
          have e0 := h2.frz 0
          have e1 := h2.frz 1
          have H2 := hide h2
          have HQU := hide (Fr.below' (unhide HQZ) (unhide HPS).f (by omega))
          clear h2
          have HE : Hid (putE c fs (bl n) x = 1201) := by show _ = _; unfold putE; rw [hok, hok2, hok3, unhide HFB, ← unhide HRP, decide_eq_true hcc, Bool.true_or]; rfl
          go_wp2_with fail
          obtain ⟨hb, fr⟩ := put2 (unhide H2) (.int .i64 0) (.slice none 0 0)
          have HX := hide (Below.trans (unhide HQU) (fr.below (unhide HQU).size (fun k hk => by omega)))
          have g0 := hb.cell 0 rfl
          have g1 := hb.cell 1 rfl
          generalize (World.setCell (World.setCell _ ⟨w.heap.size + 1, 0, none⟩ (.int .i64 0)) ⟨w.heap.size + 1, 1, none⟩ (.slice none 0 0)) = wf at *
          exact bodyPost_ret (v := .tuple #[.agg #[.int .i64 0, .slice none 0 0], .int .i64 1201]) (by simp [results, Tryd.results6, go_sem, g0, g1]) rfl (put_no (unhide HE) (by decide) (unhide HX))
        · by_cases hll : 64 < rj.length
          · obtain ⟨o0, o1, ofz⟩ := (unhide HPS).cell
            have h2 := (unhide HBR).fr (unhide HPS).f (by omega)
            have d0 := h2.cell 0 rfl
            have d1 := h2.cell 1 rfl
            have e0 := h2.frz 0
            have e1 := h2.frz 1
            have H2 := hide h2
            have HQU := hide (Fr.below' (unhide HQZ) (unhide HPS).f (by omega))
            clear h2
            have HE : Hid (putE c fs (bl n) x = 1201) := by show _ = _; unfold putE; rw [hok, hok2, hok3, unhide HFB, ← unhide HRP, decide_eq_true hll, Bool.or_true]; rfl
            have hll' : (64 : Int) < (rj.length : Int) := by omega
            go_wp2_with fail
            obtain ⟨hb, fr⟩ := put2 (unhide H2) (.int .i64 0) (.slice none 0 0)
            have HX := hide (Below.trans (unhide HQU) (fr.below (unhide HQU).size (fun k hk => by omega)))
            have g0 := hb.cell 0 rfl
            have g1 := hb.cell 1 rfl
            generalize (World.setCell (World.setCell _ ⟨w.heap.size + 1, 0, none⟩ (.int .i64 0)) ⟨w.heap.size + 1, 1, none⟩ (.slice none 0 0)) = wf at *
            exact bodyPost_ret (v := .tuple #[.agg #[.int .i64 0, .slice none 0 0], .int .i64 1201]) (by simp [results, Tryd.results6, go_sem, g0, g1]) rfl (put_no (unhide HE) (by decide) (unhide HX))
          · obtain ⟨o0, o1, ofz⟩ := (unhide HPS).cell
            have h2 := (unhide HBR).fr (unhide HPS).f (by omega)
            have d0 := h2.cell 0 rfl
            have d1 := h2.cell 1 rfl
            have e0 := h2.frz 0
            have e1 := h2.frz 1
            have H2 := hide h2
            have HQU := hide (Fr.below' (unhide HQZ) (unhide HPS).f (by omega))
            clear h2
            have HE : Hid (putE c fs (bl n) x = 0) := by show _ = _; unfold putE; rw [hok, hok2, hok3, unhide HFB, ← unhide HRP, decide_eq_false hcc, decide_eq_false hll]; rfl
            have hll' : ¬ ((64 : Int) < (rj.length : Int)) := by omega
            go_wp2_with fail
            obtain ⟨hb, fr⟩ := put2 (unhide H2) (.int .i64 (c + 1)) (.slice so rj.length sc)
            have HX := hide (Below.trans (unhide HQU) (fr.below (unhide HQU).size (fun k hk => by omega)))
            have HOX := hide (own_low (own_fr (unhide HPS).w fr (fun k hk => by have := ((unhide HPS).w.lt k hk).1; omega)) (show w.heap.size ≤ F + 1 by omega))
            have g0 := hb.cell 0 rfl
            have g1 := hb.cell 1 rfl
            generalize (World.setCell (World.setCell _ ⟨w.heap.size + 1, 0, none⟩ (.int .i64 (c + 1))) ⟨w.heap.size + 1, 1, none⟩ (.slice so rj.length sc)) = wf at *
            exact bodyPost_ret (v := .tuple #[.agg #[.int .i64 (c + 1), .slice so rj.length sc], .int .i64 0]) (by simp [results, Tryd.results6, go_sem, g0, g1]) rfl (by have h := put_yes (n := bl n) (x := x) (ao := so) (cap := sc) (unhide HE) (by rw [← unhide HRP]; exact unhide HOX) (unhide HX); rw [← unhide HRP] at h; exact h)

end Go.Proofs.YtjalklmgdkhekaaDoor
