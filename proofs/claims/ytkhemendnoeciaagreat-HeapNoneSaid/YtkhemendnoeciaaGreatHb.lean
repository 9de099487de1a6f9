/-
  A heap in memory: which blocks it has, what they hold, and what it reads as. No condition but those stated.
-/
import Derived.Test.YtkhemendnoeciaaGreatHa
import Derived.Test.YtkhemendnoeciaaGreatL
import Derived.Test.YtkhemendnoeciaaGreatE
import Derived.Test.YtkhemendnoeciaaGreatF
import Derived.Maps.OwnSet
import Derived.Maps.OwnOps
namespace Go.Proofs.YtkhemendnoeciaaGreat
set_option linter.unusedVariables false
set_option linter.unusedSimpArgs false
open Go.RowKit Go.Deep Go.Maps

theorem lawInt : Keyed Tryz.prog 3 := int_keyed Tryz.underlying3
theorem zeroInt (w : World) : (zeroValue 3).run Tryz.prog w = .ok (.int .i64 0) w := by kernel_rfl

def bcells (bl : List (Nat × Nat)) : List Value := bl.flatMap fun r => [.int .i64 (r.1 : Int), .int .i64 (r.2 : Int)]
theorem bcells_length (rs : List (Nat × Nat)) : (bcells rs).length = rs.length * 2 := by
  induction rs with
  | nil => rfl
  | cons r rs ih => simp only [bcells, List.flatMap_cons, List.length_append, List.length_cons, List.length_nil] at ih ⊢; omega
theorem bcells_append (a b : List (Nat × Nat)) : bcells (a ++ b) = bcells a ++ bcells b := by simp [bcells]
theorem bcells_cons (r : Nat × Nat) (b : List (Nat × Nat)) : bcells (r :: b) = .int .i64 (r.1 : Int) :: .int .i64 (r.2 : Int) :: bcells b := rfl
theorem bcells_get0 {bl : List (Nat × Nat)} {sp : List Value} {q : Nat} (hq : q < bl.length) : (bcells bl ++ sp).toArray[q * 2]? = some (.int .i64 ((bl.getD q (0, 0)).1 : Int)) := by
  induction bl generalizing q with
  | nil => cases hq
  | cons r bl ih =>
    rcases q with _ | q
    · rfl
    · have := ih (q := q) (by simpa using hq)
      simp only [List.getElem?_toArray] at this ⊢
      rw [bcells_cons, show (q + 1) * 2 = q * 2 + 1 + 1 by omega]
      simp only [List.cons_append, List.getElem?_cons_succ]
      rw [this]
      rfl
theorem bcells_get1 {bl : List (Nat × Nat)} {sp : List Value} {q : Nat} (hq : q < bl.length) : (bcells bl ++ sp).toArray[q * 2 + 1]? = some (.int .i64 ((bl.getD q (0, 0)).2 : Int)) := by
  induction bl generalizing q with
  | nil => cases hq
  | cons r bl ih =>
    rcases q with _ | q
    · rfl
    · have := ih (q := q) (by simpa using hq)
      simp only [List.getElem?_toArray] at this ⊢
      rw [bcells_cons, show (q + 1) * 2 + 1 = q * 2 + 1 + 1 + 1 by omega]
      simp only [List.cons_append, List.getElem?_cons_succ]
      rw [this]
      rfl
theorem bcells_set (bl : List (Nat × Nat)) (sp : List Value) (q : Nat) (x y : Nat) (hq : q < bl.length) :
    (((bcells bl ++ sp).toArray.setIfInBounds (q * 2) (.int .i64 (x : Int))).setIfInBounds (q * 2 + 1) (.int .i64 (y : Int))) = (bcells (bl.set q (x, y)) ++ sp).toArray := by
  rw [List.setIfInBounds_toArray, List.setIfInBounds_toArray]
  congr 1
  induction bl generalizing q with
  | nil => cases hq
  | cons r bl ih =>
    rcases q with _ | q
    · rfl
    · have := ih q (by simpa using hq)
      rw [bcells_cons, List.set_cons_succ, bcells_cons, show (q + 1) * 2 = q * 2 + 1 + 1 by omega]
      simp only [List.cons_append, List.set_cons_succ]
      rw [this]
theorem bcells_set0 (bl : List (Nat × Nat)) (sp : List Value) (q : Nat) (x : Nat) (hq : q < bl.length) :
    ((bcells bl ++ sp).toArray.setIfInBounds (q * 2) (.int .i64 (x : Int))) = (bcells (bl.set q (x, (bl.getD q (0, 0)).2)) ++ sp).toArray := by
  rw [← bcells_set bl sp q x _ hq]
  rw [Array.setIfInBounds_comm _ _ (by omega : q * 2 ≠ q * 2 + 1)]
  congr 1
  have h := bcells_get1 (sp := sp) hq
  apply Array.ext_getElem?
  intro i
  rw [Array.getElem?_setIfInBounds]
  split
  · rename_i he
    subst he
    rw [h]
    have hs : q * 2 + 1 < (bcells bl ++ sp).toArray.size := by
      rcases Nat.lt_or_ge (q * 2 + 1) (bcells bl ++ sp).toArray.size with h1 | h1
      · exact h1
      · rw [Array.getElem?_eq_none h1] at h; cases h
    simp only [hs, if_true]
  · rfl
theorem bcells_set1 (bl : List (Nat × Nat)) (sp : List Value) (q : Nat) (y : Nat) (hq : q < bl.length) :
    ((bcells bl ++ sp).toArray.setIfInBounds (q * 2 + 1) (.int .i64 (y : Int))) = (bcells (bl.set q ((bl.getD q (0, 0)).1, y)) ++ sp).toArray := by
  rw [← bcells_set bl sp q _ y hq]
  congr 1
  have h := bcells_get0 (sp := sp) hq
  apply Array.ext_getElem?
  intro i
  rw [Array.getElem?_setIfInBounds]
  split
  · rename_i he
    subst he
    rw [h]
    have hs : q * 2 < (bcells bl ++ sp).toArray.size := by
      rcases Nat.lt_or_ge (q * 2) (bcells bl ++ sp).toArray.size with h1 | h1
      · exact h1
      · rw [Array.getElem?_eq_none h1] at h; cases h
    simp only [hs, if_true]
  · rfl

theorem own_kp {H : Type} {P : Program} {k : TypeId} {R : Value → Option (DataW H × List MemPlace)} {w w' : World} {b n : Nat} {D : DataW H} {S : List Nat} (h : w.ownsMap P k R b n D) (K : Kp S w w') (hb : b ∉ S) : w'.ownsMap P k R b n D := by
  have hlt := h.lt
  obtain ⟨es, clock, h1, F, hs, hD⟩ := h
  exact ⟨es, clock, (K.block b hlt hb).trans h1, F, hs, hD⟩
theorem Kp.of_turned {w w' : World} {b : Nat} (h : w.mapTurned w' b) : Kp [b] w w' := Kp.of_grown h.grown

/-- A heap's blocks of memory. -/
structure HB where
  g : Nat
  hb : Nat
  hw : Nat
  pg : Nat
  ph : Nat
  ng : Nat
  nh : Nat
  mp : Nat
  mf : Nat
def HB.all (b : HB) : List Nat := [b.g, b.hb, b.hw, b.pg, b.ph, b.ng, b.nh, b.mp, b.mf]
/-- What a heap's memory holds. -/
structure RM where
  bl : List (Nat × Nat)
  cb : Nat
  spb : List Value
  ws : List Int
  cw : Nat
  spw : List Value
  ps : List Nat
  pn : List Nat
  q : Nat
  Dp : DataW Unit
  Df : DataW Unit
  born : Nat
structure Raw (w : World) (b : HB) (r : RM) : Prop where
  cb1 : r.bl.length ≤ r.cb
  cb2 : r.cb ≤ maxLen
  cb3 : (bcells r.bl ++ r.spb).length = 2 * r.cb
  cw1 : r.ws.length ≤ r.cw
  cw2 : r.cw ≤ maxLen
  cw3 : (zcells r.ws ++ r.spw).length = r.cw
  bl2 : 2 ≤ r.bl.length
  bl64 : r.bl.length ≤ 64
  wl : r.ws.length = 64 * r.bl.length
  pl : r.ps.length = 32 * r.bl.length
  nl : r.pn.length = 32 * r.bl.length
  G : Blk w b.g 46 #[.slice (some ⟨b.hb, 0, none⟩) r.bl.length r.cb, .slice (some ⟨b.hw, 0, none⟩) r.ws.length r.cw, .pointer (some ⟨b.pg, 0, none⟩), .pointer (some ⟨b.ng, 0, none⟩), .map (some b.mp), .map (some b.mf), .int .i64 (r.born : Int)]
  Bb : Blk w b.hb 74 (bcells r.bl ++ r.spb).toArray
  Bw : Blk w b.hw 3 (zcells r.ws ++ r.spw).toArray
  TP : STab w b.pg b.ph 2 r.ps
  TN : STab w b.ng b.nh 1 r.pn
  MP : w.ownsMap Tryz.prog 3 (plainElem Tryz.prog 3) b.mp r.q r.Dp
  MF : w.ownsMap Tryz.prog 3 (plainElem Tryz.prog 3) b.mf r.q r.Df
  d1 : b.pg ≠ b.ng
  d2 : b.ph ≠ b.nh
  d3 : b.mp ≠ b.mf
theorem STab.blk {w : World} {g h wd : Nat} {L : List Nat} (T : STab w g h wd L) : (∃ cs, Blk w g 98 cs) ∧ ∃ cs, Blk w h 100 cs := by
  obtain ⟨ws, c, sp, _, _, _, _, _, _, b1, b2⟩ := T
  exact ⟨⟨_, b1⟩, ⟨_, b2⟩⟩
theorem own_ne_blk {w : World} {b n g : Nat} {D : DataW Unit} {t : TypeId} {cs : Array Value} {P : Program} {k : TypeId} {R : Value → Option (DataW Unit × List MemPlace)} (h : w.ownsMap P k R b n D) (B : Blk w g t cs) : b ≠ g := by
  rintro rfl
  obtain ⟨es, clock, h1, _⟩ := h
  unfold Blk at B
  rw [B] at h1
  cases h1
section
variable {w w' : World} {b : HB} {r : RM}
theorem Raw.nd (R : Raw w b r) : b.all.Nodup := by
  obtain ⟨⟨c1, p1⟩, ⟨c2, p2⟩⟩ := R.TP.blk
  obtain ⟨⟨c3, p3⟩, ⟨c4, p4⟩⟩ := R.TN.blk
  have h1 := R.G.ne_ R.Bb (by decide)
  have h2 := R.G.ne_ R.Bw (by decide)
  have h3 := R.G.ne_ p1 (by decide)
  have h4 := R.G.ne_ p2 (by decide)
  have h5 := R.G.ne_ p3 (by decide)
  have h6 := R.G.ne_ p4 (by decide)
  have h7 := own_ne_blk R.MP R.G
  have h8 := own_ne_blk R.MF R.G
  have i1 := R.Bb.ne_ R.Bw (by decide)
  have i2 := R.Bb.ne_ p1 (by decide)
  have i3 := R.Bb.ne_ p2 (by decide)
  have i4 := R.Bb.ne_ p3 (by decide)
  have i5 := R.Bb.ne_ p4 (by decide)
  have i6 := own_ne_blk R.MP R.Bb
  have i7 := own_ne_blk R.MF R.Bb
  have j1 := R.Bw.ne_ p1 (by decide)
  have j2 := R.Bw.ne_ p2 (by decide)
  have j3 := R.Bw.ne_ p3 (by decide)
  have j4 := R.Bw.ne_ p4 (by decide)
  have j5 := own_ne_blk R.MP R.Bw
  have j6 := own_ne_blk R.MF R.Bw
  have k1 := p1.ne_ p2 (by decide)
  have k2 := p1.ne_ p4 (by decide)
  have k3 := p2.ne_ p3 (by decide)
  have k4 := p3.ne_ p4 (by decide)
  have l1 := own_ne_blk R.MP p1
  have l2 := own_ne_blk R.MP p2
  have l3 := own_ne_blk R.MP p3
  have l4 := own_ne_blk R.MP p4
  have l5 := own_ne_blk R.MF p1
  have l6 := own_ne_blk R.MF p2
  have l7 := own_ne_blk R.MF p3
  have l8 := own_ne_blk R.MF p4
  have d1 := R.d1
  have d2 := R.d2
  have d3 := R.d3
  unfold HB.all
  simp only [List.nodup_cons, List.mem_cons, List.not_mem_nil, or_false, not_or, List.nodup_nil, and_true, not_false_eq_true]
  exact ⟨⟨h1, h2, h3, h4, h5, h6, h7.symm, h8.symm⟩, ⟨i1, i2, i3, i4, i5, i6.symm, i7.symm⟩, ⟨j1, j2, j3, j4, j5.symm, j6.symm⟩, ⟨k1, d1, k2, l1.symm, l5.symm⟩, ⟨k3, d2, l2.symm, l6.symm⟩, ⟨k4, l3.symm, l7.symm⟩, ⟨l4.symm, l8.symm⟩, d3⟩
theorem Raw.no (R : Raw w b r) (i j : Nat) (h : i ≠ j ∧ i < 9 ∧ j < 9) : b.all.getD i 0 ∉ [b.all.getD j 0] := by
  have nd := R.nd
  have hi : i < b.all.length := h.2.1
  have hj : j < b.all.length := h.2.2
  rw [List.getD_eq_getElem?_getD, List.getD_eq_getElem?_getD, List.getElem?_eq_getElem hi, List.getElem?_eq_getElem hj]
  simp only [Option.getD_some, List.mem_singleton]
  have np := List.pairwise_iff_getElem.1 nd
  rcases Nat.lt_or_gt_of_ne h.1 with hl | hl
  · exact np i j hi hj hl
  · exact (np j i hj hi hl).symm
theorem Raw.kp {S : List Nat} (R : Raw w b r) (k : Kp S w w') (hS : ∀ x ∈ b.all, x ∉ S) : Raw w' b r := by
  have a : ∀ x, x ∈ b.all → x ∉ S := hS
  refine ⟨R.cb1, R.cb2, R.cb3, R.cw1, R.cw2, R.cw3, R.bl2, R.bl64, R.wl, R.pl, R.nl, R.G.kp k ?_, R.Bb.kp k ?_, R.Bw.kp k ?_, R.TP.kp k ?_ ?_, R.TN.kp k ?_ ?_, own_kp R.MP k ?_, own_kp R.MF k ?_, R.d1, R.d2, R.d3⟩
  all_goals (apply a; simp [HB.all])
theorem Raw.kp0 (R : Raw w b r) (k : Kp [] w w') : Raw w' b r := R.kp k (by simp)
theorem Raw.drewN (R : Raw w b r) (n : Nat) : Raw (w.drewN n) b r := R.kp0 (Kp.draw w n)
theorem Raw.lt (R : Raw w b r) : ∀ x ∈ b.all, x < w.heap.size := by
  intro x hx
  simp only [HB.all, List.mem_cons, List.not_mem_nil, or_false] at hx
  rcases hx with rfl | rfl | rfl | rfl | rfl | rfl | rfl | rfl | rfl
  · exact R.G.lt
  · exact R.Bb.lt
  · exact R.Bw.lt
  · exact R.TP.g_lt
  · exact R.TP.h_lt
  · exact R.TN.g_lt
  · exact R.TN.h_lt
  · exact R.MP.lt
  · exact R.MF.lt
theorem Raw.c0 (R : Raw w b r) : w.cell? ⟨b.g, 0, none⟩ = some (.slice (some ⟨b.hb, 0, none⟩) r.bl.length r.cb) := R.G.cell 0
theorem Raw.c1 (R : Raw w b r) : w.cell? ⟨b.g, 1, none⟩ = some (.slice (some ⟨b.hw, 0, none⟩) r.ws.length r.cw) := R.G.cell 1
theorem Raw.c2 (R : Raw w b r) : w.cell? ⟨b.g, 2, none⟩ = some (.pointer (some ⟨b.pg, 0, none⟩)) := R.G.cell 2
theorem Raw.c3 (R : Raw w b r) : w.cell? ⟨b.g, 3, none⟩ = some (.pointer (some ⟨b.ng, 0, none⟩)) := R.G.cell 3
theorem Raw.c4 (R : Raw w b r) : w.cell? ⟨b.g, 4, none⟩ = some (.map (some b.mp)) := R.G.cell 4
theorem Raw.c5 (R : Raw w b r) : w.cell? ⟨b.g, 5, none⟩ = some (.map (some b.mf)) := R.G.cell 5
theorem Raw.c6 (R : Raw w b r) : w.cell? ⟨b.g, 6, none⟩ = some (.int .i64 (r.born : Int)) := R.G.cell 6
theorem Raw.word (R : Raw w b r) {k : Nat} (hk : k < r.ws.length) : w.cell? ⟨b.hw, k, none⟩ = some (.int .i64 (r.ws.getD k 0)) := (R.Bw.cell k).trans (zcells_get hk)
theorem Raw.stc (R : Raw w b r) {k : Nat} (hk : k < r.bl.length) : w.cell? ⟨b.hb, k * 2, none⟩ = some (.int .i64 ((r.bl.getD k (0, 0)).1 : Int)) := (R.Bb.cell _).trans (bcells_get0 hk)
theorem Raw.spc (R : Raw w b r) {k : Nat} (hk : k < r.bl.length) : w.cell? ⟨b.hb, k * 2 + 1, none⟩ = some (.int .i64 ((r.bl.getD k (0, 0)).2 : Int)) := (R.Bb.cell _).trans (bcells_get1 hk)
/-- One part of the memory has changed. -/
theorem Raw.setP (R : Raw w b r) {L : List Nat} (T : STab w' b.pg b.ph 2 L) (hl : L.length = r.ps.length) (k : Kp [b.ph] w w') : Raw w' b { r with ps := L } := by
  refine ⟨R.cb1, R.cb2, R.cb3, R.cw1, R.cw2, R.cw3, R.bl2, R.bl64, R.wl, hl.trans R.pl, R.nl, R.G.kp k (R.no 0 4 (by decide)), R.Bb.kp k (R.no 1 4 (by decide)), R.Bw.kp k (R.no 2 4 (by decide)), T, R.TN.kp k (R.no 5 4 (by decide)) (R.no 6 4 (by decide)), own_kp R.MP k (R.no 7 4 (by decide)), own_kp R.MF k (R.no 8 4 (by decide)), R.d1, R.d2, R.d3⟩
theorem Raw.setN (R : Raw w b r) {L : List Nat} (T : STab w' b.ng b.nh 1 L) (hl : L.length = r.pn.length) (k : Kp [b.nh] w w') : Raw w' b { r with pn := L } := by
  refine ⟨R.cb1, R.cb2, R.cb3, R.cw1, R.cw2, R.cw3, R.bl2, R.bl64, R.wl, R.pl, hl.trans R.nl, R.G.kp k (R.no 0 6 (by decide)), R.Bb.kp k (R.no 1 6 (by decide)), R.Bw.kp k (R.no 2 6 (by decide)), R.TP.kp k (R.no 3 6 (by decide)) (R.no 4 6 (by decide)), T, own_kp R.MP k (R.no 7 6 (by decide)), own_kp R.MF k (R.no 8 6 (by decide)), R.d1, R.d2, R.d3⟩
theorem Raw.setW (R : Raw w b r) {ws : List Int} (B : Blk w' b.hw 3 (zcells ws ++ r.spw).toArray) (hl : ws.length = r.ws.length) (k : Kp [b.hw] w w') : Raw w' b { r with ws := ws } := by
  have hz : (zcells ws ++ r.spw).length = r.cw := by rw [← R.cw3]; simp [zcells_length, hl]
  refine ⟨R.cb1, R.cb2, R.cb3, by simpa [hl] using R.cw1, R.cw2, hz, R.bl2, R.bl64, hl.trans R.wl, R.pl, R.nl, ?_, R.Bb.kp k (R.no 1 2 (by decide)), B, R.TP.kp k (R.no 3 2 (by decide)) (R.no 4 2 (by decide)), R.TN.kp k (R.no 5 2 (by decide)) (R.no 6 2 (by decide)), own_kp R.MP k (R.no 7 2 (by decide)), own_kp R.MF k (R.no 8 2 (by decide)), R.d1, R.d2, R.d3⟩
  · have := R.G.kp k (R.no 0 2 (by decide))
    rw [← hl] at this
    exact this
theorem Raw.setB (R : Raw w b r) {bl : List (Nat × Nat)} (B : Blk w' b.hb 74 (bcells bl ++ r.spb).toArray) (hl : bl.length = r.bl.length) (k : Kp [b.hb] w w') : Raw w' b { r with bl := bl } := by
  have hz : (bcells bl ++ r.spb).length = 2 * r.cb := by rw [← R.cb3]; simp [bcells_length, hl]
  refine ⟨by simpa [hl] using R.cb1, R.cb2, hz, R.cw1, R.cw2, R.cw3, by simpa [hl] using R.bl2, by simpa [hl] using R.bl64, by simpa [hl] using R.wl, by simpa [hl] using R.pl, by simpa [hl] using R.nl, ?_, B, R.Bw.kp k (R.no 2 1 (by decide)), R.TP.kp k (R.no 3 1 (by decide)) (R.no 4 1 (by decide)), R.TN.kp k (R.no 5 1 (by decide)) (R.no 6 1 (by decide)), own_kp R.MP k (R.no 7 1 (by decide)), own_kp R.MF k (R.no 8 1 (by decide)), R.d1, R.d2, R.d3⟩
  · have := R.G.kp k (R.no 0 1 (by decide))
    rw [← hl] at this
    exact this
theorem Raw.setMP (R : Raw w b r) {q : Nat} {D : DataW Unit} (M : w'.ownsMap Tryz.prog 3 (plainElem Tryz.prog 3) b.mp q D) (hq : r.q ≤ q) (k : Kp [b.mp] w w') : Raw w' b { r with Dp := D, q := q } := by
  refine ⟨R.cb1, R.cb2, R.cb3, R.cw1, R.cw2, R.cw3, R.bl2, R.bl64, R.wl, R.pl, R.nl, R.G.kp k (R.no 0 7 (by decide)), R.Bb.kp k (R.no 1 7 (by decide)), R.Bw.kp k (R.no 2 7 (by decide)), R.TP.kp k (R.no 3 7 (by decide)) (R.no 4 7 (by decide)), R.TN.kp k (R.no 5 7 (by decide)) (R.no 6 7 (by decide)), M, (own_kp R.MF k (R.no 8 7 (by decide))).mono hq, R.d1, R.d2, R.d3⟩
theorem Raw.setMF (R : Raw w b r) {q : Nat} {D : DataW Unit} (M : w'.ownsMap Tryz.prog 3 (plainElem Tryz.prog 3) b.mf q D) (hq : r.q ≤ q) (k : Kp [b.mf] w w') : Raw w' b { r with Df := D, q := q } := by
  refine ⟨R.cb1, R.cb2, R.cb3, R.cw1, R.cw2, R.cw3, R.bl2, R.bl64, R.wl, R.pl, R.nl, R.G.kp k (R.no 0 8 (by decide)), R.Bb.kp k (R.no 1 8 (by decide)), R.Bw.kp k (R.no 2 8 (by decide)), R.TP.kp k (R.no 3 8 (by decide)) (R.no 4 8 (by decide)), R.TN.kp k (R.no 5 8 (by decide)) (R.no 6 8 (by decide)), (own_kp R.MP k (R.no 7 8 (by decide))).mono hq, M, R.d1, R.d2, R.d3⟩
theorem Raw.setBorn (R : Raw w b r) (n : Nat) : Raw (w.setCell ⟨b.g, 6, none⟩ (.int .i64 (n : Int))) b { r with born := n } := by
  have k := Kp.cell w ⟨b.g, 6, none⟩ (.int .i64 (n : Int))
  refine ⟨R.cb1, R.cb2, R.cb3, R.cw1, R.cw2, R.cw3, R.bl2, R.bl64, R.wl, R.pl, R.nl, R.G.set_ 6 _, R.Bb.kp k (R.no 1 0 (by decide)), R.Bw.kp k (R.no 2 0 (by decide)), R.TP.kp k (R.no 3 0 (by decide)) (R.no 4 0 (by decide)), R.TN.kp k (R.no 5 0 (by decide)) (R.no 6 0 (by decide)), own_kp R.MP k (R.no 7 0 (by decide)), own_kp R.MF k (R.no 8 0 (by decide)), R.d1, R.d2, R.d3⟩
end

/-- A map of numbers reads as a function. -/
def MapRd (D : DataW Unit) (f : Int → Option Int) : Prop :=
  ∀ i : Int, -9223372036854775808 ≤ i → i ≤ 9223372036854775807 → Maps.has D (.int .i64 i) = (f i).isSome ∧ ∀ v, f i = some v → D.atKey (.int .i64 i) (.lit (.int .i64 0)) = .lit (.int .i64 v)
theorem wf64 {i : Int} (h1 : -9223372036854775808 ≤ i) (h2 : i ≤ 9223372036854775807) : (Lit.int .i64 i).wf = true := by
  simp [Lit.wf, IntKind.min, IntKind.max, IntKind.signed, IntKind.bits]; omega
/-- Where the object with an identity is. -/
def HM.at_ (m : HM) (i : Int) : Option Nat := leastN (fun a => match m.ob a with | some o => decide ((o.id : Int) = i) | none => false) m.n
def HM.atI (m : HM) (i : Int) : Option Int := Option.map (fun a : Nat => (a : Int)) (m.at_ i)
def HM.fwI (m : HM) (i : Int) : Option Int := if 0 ≤ i then Option.map (fun a : Nat => (a : Int)) (m.fw i.toNat) else none
theorem at_iff {m : HM} (I : m.Inv) (i : Int) (a : Nat) : m.at_ i = some a ↔ ∃ o, m.ob a = some o ∧ (o.id : Int) = i := by
  unfold HM.at_
  rw [leastN_iff]
  constructor
  · rintro ⟨_, h, _⟩
    rcases ho : m.ob a with _ | o
    · rw [ho] at h; cases h
    · rw [ho] at h
      exact ⟨o, rfl, of_decide_eq_true h⟩
  · rintro ⟨o, ho, hi⟩
    have h1 := I.hi ho
    have h2 := (I.ok _ _ ho).wd_bd
    refine ⟨by omega, by simp only [ho]; exact decide_eq_true hi, fun j hj => ?_⟩
    rcases hj' : m.ob j with _ | o'
    · rfl
    · simp only
      refine decide_eq_false fun hc => ?_
      have := I.ids _ _ _ _ ho hj' (by omega)
      omega
theorem at_none {m : HM} (I : m.Inv) (i : Int) : m.at_ i = none ↔ ∀ a o, m.ob a = some o → (o.id : Int) ≠ i := by
  constructor
  · intro h a o ho hi
    rw [(at_iff I i a).2 ⟨o, ho, hi⟩] at h
    cases h
  · intro h
    rcases he : m.at_ i with _ | a
    · rfl
    · obtain ⟨o, ho, hi⟩ := (at_iff I i a).1 he
      exact absurd hi (h a o ho)

/-- What a heap's memory reads as. -/
structure Abs (r : RM) (m : HM) : Prop where
  inv : m.Inv
  bl : r.bl = m.bl
  born : r.born = m.born
  rep : Rep m (fun k => r.ws.getD k 0) (ent r.ps) (ent r.pn)
  dp : MapRd r.Dp m.atI
  df : MapRd r.Df m.fwI
  fs : Maps.size r.Df = m.fn
/-- A heap. -/
def SH (w : World) (b : HB) (q : Nat) (m : HM) : Prop := ∃ r, Raw w b r ∧ Abs r m ∧ r.q ≤ q ∧ r.born ≤ q
section
variable {w w' : World} {b : HB} {q : Nat} {m : HM}
theorem SH.inv (h : SH w b q m) : m.Inv := by
  obtain ⟨r, _, A, _⟩ := h
  exact A.inv
theorem SH.kp {S : List Nat} (h : SH w b q m) (k : Kp S w w') (hS : ∀ x ∈ b.all, x ∉ S) : SH w' b q m := by
  obtain ⟨r, R, A⟩ := h
  exact ⟨r, R.kp k hS, A⟩
theorem SH.kp0 (h : SH w b q m) (k : Kp [] w w') : SH w' b q m := h.kp k (by simp)
theorem SH.drewN (h : SH w b q m) (n : Nat) : SH (w.drewN n) b q m := h.kp0 (Kp.draw w n)
theorem SH.lt (h : SH w b q m) : ∀ x ∈ b.all, x < w.heap.size := by
  obtain ⟨r, R, _⟩ := h
  exact R.lt
theorem SH.mono (h : SH w b q m) {q' : Nat} (hq : q ≤ q') : SH w b q' m := by
  obtain ⟨r, R, A, h1, h2⟩ := h
  exact ⟨r, R, A, by omega, by omega⟩
end
end Go.Proofs.YtkhemendnoeciaaGreat
