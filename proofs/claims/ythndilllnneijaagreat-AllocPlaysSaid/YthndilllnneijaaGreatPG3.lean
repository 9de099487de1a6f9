/-
  A heap in memory: which blocks it has, what they hold, and what it reads as. No condition but those stated.
-/
import Derived.Test.YthndilllnneijaaGreatPG1
import Derived.Test.YthndilllnneijaaGreatPG2
import Derived.Maps.OwnSet
import Derived.Maps.OwnOps
set_option linter.unusedSimpArgs false
set_option linter.unusedVariables false
set_option maxHeartbeats 1000000
namespace Go.Proofs.YthndilllnneijaaGreat
open Go.RowKit Go.Deep Go.Maps
theorem lawInt : Keyed Tryz.prog 3 := int_keyed Tryz.underlying3
theorem zeroInt (w : World) : (zeroValue 3).run Tryz.prog w = .ok (.int .i64 0) w := by kernel_rfl
def bcells (bl : List (Nat × Nat)) : List Value := bl.flatMap fun r => [.int .i64 (r.1 : Int), .int .i64 (r.2 : Int)]
theorem bcells_length (rs : List (Nat × Nat)) : (bcells rs).length = rs.length * 2 := by
 induction rs with
 | nil => rfl
 | cons r rs ih => simp only [bcells, List.flatMap_cons, List.length_append, List.length_cons, List.length_nil] at ih ⊢; omega
theorem bcells_cons (r : Nat × Nat) (b : List (Nat × Nat)) : bcells (r :: b) = .int .i64 (r.1 : Int) :: .int .i64 (r.2 : Int) :: bcells b := rfl
theorem bcells_get0 {bl : List (Nat × Nat)} {sp : List Value} {q : Nat} (hq : q < bl.length) : (bcells bl ++ sp).toArray[q * 2]? = some (.int .i64 ((bl.getD q (0, 0)).1 : Int)) := by
 induction bl generalizing q with
 | nil => cases hq
 | cons r bl ih =>
   rcases q with _ | q
   · rfl
   · have := ih (q := q) (by simpa using hq)
     simp only [List.getElem?_toArray] at this ⊢
     rw [bcells_cons, show (q + 1) * 2 = q * 2 + 1 + 1 by omega]
     simp only [List.cons_append, List.getElem?_cons_succ]
     rw [this]
     rfl
theorem bcells_get1 {bl : List (Nat × Nat)} {sp : List Value} {q : Nat} (hq : q < bl.length) : (bcells bl ++ sp).toArray[q * 2 + 1]? = some (.int .i64 ((bl.getD q (0, 0)).2 : Int)) := by
 induction bl generalizing q with
 | nil => cases hq
 | cons r bl ih =>
   rcases q with _ | q
   · rfl
   · have := ih (q := q) (by simpa using hq)
     simp only [List.getElem?_toArray] at this ⊢
     rw [bcells_cons, show (q + 1) * 2 + 1 = q * 2 + 1 + 1 + 1 by omega]
     simp only [List.cons_append, List.getElem?_cons_succ]
     rw [this]
     rfl
theorem bcells_set (bl : List (Nat × Nat)) (sp : List Value) (q : Nat) (x y : Nat) (hq : q < bl.length) :
   (((bcells bl ++ sp).toArray.setIfInBounds (q * 2) (.int .i64 (x : Int))).setIfInBounds (q * 2 + 1) (.int .i64 (y : Int))) = (bcells (bl.set q (x, y)) ++ sp).toArray := by
 rw [List.setIfInBounds_toArray, List.setIfInBounds_toArray]
 congr 1
 induction bl generalizing q with
 | nil => cases hq
 | cons r bl ih =>
   rcases q with _ | q
   · rfl
   · have := ih q (by simpa using hq)
     rw [bcells_cons, List.set_cons_succ, bcells_cons, show (q + 1) * 2 = q * 2 + 1 + 1 by omega]
     simp only [List.cons_append, List.set_cons_succ]
     rw [this]
theorem bcells_set0 (bl : List (Nat × Nat)) (sp : List Value) (q : Nat) (x : Nat) (hq : q < bl.length) :
   ((bcells bl ++ sp).toArray.setIfInBounds (q * 2) (.int .i64 (x : Int))) = (bcells (bl.set q (x, (bl.getD q (0, 0)).2)) ++ sp).toArray := by
 rw [← bcells_set bl sp q x _ hq]
 rw [Array.setIfInBounds_comm _ _ (by omega : q * 2 ≠ q * 2 + 1)]
 congr 1
 have h := bcells_get1 (sp := sp) hq
 apply Array.ext_getElem?
 intro i
 rw [Array.getElem?_setIfInBounds]
 split
 · rename_i he
   subst he
   rw [h]
   have hs : q * 2 + 1 < (bcells bl ++ sp).toArray.size := by
     rcases Nat.lt_or_ge (q * 2 + 1) (bcells bl ++ sp).toArray.size with h1 | h1
     · exact h1
     · rw [Array.getElem?_eq_none h1] at h; cases h
   simp only [hs, if_true]
 · rfl
theorem bcells_set1 (bl : List (Nat × Nat)) (sp : List Value) (q : Nat) (y : Nat) (hq : q < bl.length) :
   ((bcells bl ++ sp).toArray.setIfInBounds (q * 2 + 1) (.int .i64 (y : Int))) = (bcells (bl.set q ((bl.getD q (0, 0)).1, y)) ++ sp).toArray := by
 rw [← bcells_set bl sp q _ y hq]
 congr 1
 have h := bcells_get0 (sp := sp) hq
 apply Array.ext_getElem?
 intro i
 rw [Array.getElem?_setIfInBounds]
 split
 · rename_i he
   subst he
   rw [h]
   have hs : q * 2 < (bcells bl ++ sp).toArray.size := by
     rcases Nat.lt_or_ge (q * 2) (bcells bl ++ sp).toArray.size with h1 | h1
     · exact h1
     · rw [Array.getElem?_eq_none h1] at h; cases h
   simp only [hs, if_true]
 · rfl
theorem own_kp {H : Type} {P : Program} {k : TypeId} {R : Value → Option (DataW H × List MemPlace)} {w w' : World} {b n : Nat} {D : DataW H} {S : List Nat} (h : w.ownsMap P k R b n D) (K : Kp S w w') (hb : b ∉ S) : w'.ownsMap P k R b n D := by
 have hlt := h.lt
 obtain ⟨es, clock, h1, F, hs, hD⟩ := h
 exact ⟨es, clock, (K.block b hlt hb).trans h1, F, hs, hD⟩
theorem Kp.of_turned {w w' : World} {b : Nat} (h : w.mapTurned w' b) : Kp [b] w w' := Kp.of_grown h.grown
structure HB where
 g : Nat
 hb : Nat
 hw : Nat
 pg : Nat
 ph : Nat
 ng : Nat
 nh : Nat
 mp : Nat
 mf : Nat
def HB.all (b : HB) : List Nat := [b.g, b.hb, b.hw, b.pg, b.ph, b.ng, b.nh, b.mp, b.mf]
structure RM where
 bl : List (Nat × Nat)
 cb : Nat
 spb : List Value
 ws : List Int
 cw : Nat
 spw : List Value
 ps : List Nat
 pn : List Nat
 q : Nat
 Dp : DataW Unit
 Df : DataW Unit
 born : Nat
structure Raw (w : World) (b : HB) (r : RM) : Prop where
 cb1 : r.bl.length ≤ r.cb
 cb2 : r.cb ≤ maxLen
 cb3 : (bcells r.bl ++ r.spb).length = 2 * r.cb
 cw1 : r.ws.length ≤ r.cw
 cw2 : r.cw ≤ maxLen
 cw3 : (zcells r.ws ++ r.spw).length = r.cw
 bl2 : 2 ≤ r.bl.length
 bl64 : r.bl.length ≤ 64
 wl : r.ws.length = 64 * r.bl.length
 pl : r.ps.length = 32 * r.bl.length
 nl : r.pn.length = 32 * r.bl.length
 G : Blk w b.g 96 #[.slice (some ⟨b.hb, 0, none⟩) r.bl.length r.cb, .slice (some ⟨b.hw, 0, none⟩) r.ws.length r.cw, .pointer (some ⟨b.pg, 0, none⟩), .pointer (some ⟨b.ng, 0, none⟩), .map (some b.mp), .map (some b.mf), .int .i64 (r.born : Int)]
 Bb : Blk w b.hb 104 (bcells r.bl ++ r.spb).toArray
 Bw : Blk w b.hw 3 (zcells r.ws ++ r.spw).toArray
 TP : STab w b.pg b.ph 2 r.ps
 TN : STab w b.ng b.nh 1 r.pn
 MP : w.ownsMap Tryz.prog 3 (plainElem Tryz.prog 3) b.mp r.q r.Dp
 MF : w.ownsMap Tryz.prog 3 (plainElem Tryz.prog 3) b.mf r.q r.Df
 d1 : b.pg ≠ b.ng
 d2 : b.ph ≠ b.nh
 d3 : b.mp ≠ b.mf
theorem STab.blk {w : World} {g h wd : Nat} {L : List Nat} (T : STab w g h wd L) : (∃ cs, Blk w g 141 cs) ∧ ∃ cs, Blk w h 143 cs := by
 obtain ⟨ws, c, sp, _, _, _, _, _, _, b1, b2⟩ := T
 exact ⟨⟨_, b1⟩, ⟨_, b2⟩⟩
theorem own_ne_blk {w : World} {b n g : Nat} {D : DataW Unit} {t : TypeId} {cs : Array Value} {P : Program} {k : TypeId} {R : Value → Option (DataW Unit × List MemPlace)} (h : w.ownsMap P k R b n D) (B : Blk w g t cs) : b ≠ g := by
 rintro rfl
 obtain ⟨es, clock, h1, _⟩ := h
 unfold Blk at B
 rw [B] at h1
 cases h1
section
variable {w w' : World} {b : HB} {r : RM}
theorem Raw.nd (R : Raw w b r) : b.all.Nodup := by
 obtain ⟨⟨c1, p1⟩, ⟨c2, p2⟩⟩ := R.TP.blk
 obtain ⟨⟨c3, p3⟩, ⟨c4, p4⟩⟩ := R.TN.blk
 have h1 := R.G.ne_ R.Bb (by decide)
 have h2 := R.G.ne_ R.Bw (by decide)
 have h3 := R.G.ne_ p1 (by decide)
 have h4 := R.G.ne_ p2 (by decide)
 have h5 := R.G.ne_ p3 (by decide)
 have h6 := R.G.ne_ p4 (by decide)
 have h7 := own_ne_blk R.MP R.G
 have h8 := own_ne_blk R.MF R.G
 have i1 := R.Bb.ne_ R.Bw (by decide)
 have i2 := R.Bb.ne_ p1 (by decide)
 have i3 := R.Bb.ne_ p2 (by decide)
 have i4 := R.Bb.ne_ p3 (by decide)
 have i5 := R.Bb.ne_ p4 (by decide)
 have i6 := own_ne_blk R.MP R.Bb
 have i7 := own_ne_blk R.MF R.Bb
 have j1 := R.Bw.ne_ p1 (by decide)
 have j2 := R.Bw.ne_ p2 (by decide)
 have j3 := R.Bw.ne_ p3 (by decide)
 have j4 := R.Bw.ne_ p4 (by decide)
 have j5 := own_ne_blk R.MP R.Bw
 have j6 := own_ne_blk R.MF R.Bw
 have k1 := p1.ne_ p2 (by decide)
 have k2 := p1.ne_ p4 (by decide)
 have k3 := p2.ne_ p3 (by decide)
 have k4 := p3.ne_ p4 (by decide)
 have l1 := own_ne_blk R.MP p1
 have l2 := own_ne_blk R.MP p2
 have l3 := own_ne_blk R.MP p3
 have l4 := own_ne_blk R.MP p4
 have l5 := own_ne_blk R.MF p1
 have l6 := own_ne_blk R.MF p2
 have l7 := own_ne_blk R.MF p3
 have l8 := own_ne_blk R.MF p4
 have d1 := R.d1
 have d2 := R.d2
 have d3 := R.d3
 unfold HB.all
 simp only [List.nodup_cons, List.mem_cons, List.not_mem_nil, or_false, not_or, List.nodup_nil, and_true, not_false_eq_true]
 exact ⟨⟨h1, h2, h3, h4, h5, h6, h7.symm, h8.symm⟩, ⟨i1, i2, i3, i4, i5, i6.symm, i7.symm⟩, ⟨j1, j2, j3, j4, j5.symm, j6.symm⟩, ⟨k1, d1, k2, l1.symm, l5.symm⟩, ⟨k3, d2, l2.symm, l6.symm⟩, ⟨k4, l3.symm, l7.symm⟩, ⟨l4.symm, l8.symm⟩, d3⟩
theorem Raw.no (R : Raw w b r) (i j : Nat) (h : i ≠ j ∧ i < 9 ∧ j < 9) : b.all.getD i 0 ∉ [b.all.getD j 0] := by
 have nd := R.nd
 have hi : i < b.all.length := h.2.1
 have hj : j < b.all.length := h.2.2
 rw [List.getD_eq_getElem?_getD, List.getD_eq_getElem?_getD, List.getElem?_eq_getElem hi, List.getElem?_eq_getElem hj]
 simp only [Option.getD_some, List.mem_singleton]
 have np := List.pairwise_iff_getElem.1 nd
 rcases Nat.lt_or_gt_of_ne h.1 with hl | hl
 · exact np i j hi hj hl
 · exact (np j i hj hi hl).symm
theorem Raw.kp {S : List Nat} (R : Raw w b r) (k : Kp S w w') (hS : ∀ x ∈ b.all, x ∉ S) : Raw w' b r := by
 have a : ∀ x, x ∈ b.all → x ∉ S := hS
 refine ⟨R.cb1, R.cb2, R.cb3, R.cw1, R.cw2, R.cw3, R.bl2, R.bl64, R.wl, R.pl, R.nl, R.G.kp k ?_, R.Bb.kp k ?_, R.Bw.kp k ?_, R.TP.kp k ?_ ?_, R.TN.kp k ?_ ?_, own_kp R.MP k ?_, own_kp R.MF k ?_, R.d1, R.d2, R.d3⟩
 all_goals (apply a; simp [HB.all])
theorem Raw.kp0 (R : Raw w b r) (k : Kp [] w w') : Raw w' b r := R.kp k (by simp)
theorem Raw.drewN (R : Raw w b r) (n : Nat) : Raw (w.drewN n) b r := R.kp0 (Kp.draw w n)
theorem Raw.lt (R : Raw w b r) : ∀ x ∈ b.all, x < w.heap.size := by
 intro x hx
 simp only [HB.all, List.mem_cons, List.not_mem_nil, or_false] at hx
 rcases hx with rfl | rfl | rfl | rfl | rfl | rfl | rfl | rfl | rfl
 · exact R.G.lt
 · exact R.Bb.lt
 · exact R.Bw.lt
 · exact R.TP.g_lt
 · exact R.TP.h_lt
 · exact R.TN.g_lt
 · exact R.TN.h_lt
 · exact R.MP.lt
 · exact R.MF.lt
theorem Raw.c0 (R : Raw w b r) : w.cell? ⟨b.g, 0, none⟩ = some (.slice (some ⟨b.hb, 0, none⟩) r.bl.length r.cb) := R.G.cell 0
theorem Raw.c1 (R : Raw w b r) : w.cell? ⟨b.g, 1, none⟩ = some (.slice (some ⟨b.hw, 0, none⟩) r.ws.length r.cw) := R.G.cell 1
theorem Raw.c2 (R : Raw w b r) : w.cell? ⟨b.g, 2, none⟩ = some (.pointer (some ⟨b.pg, 0, none⟩)) := R.G.cell 2
theorem Raw.c3 (R : Raw w b r) : w.cell? ⟨b.g, 3, none⟩ = some (.pointer (some ⟨b.ng, 0, none⟩)) := R.G.cell 3
theorem Raw.c4 (R : Raw w b r) : w.cell? ⟨b.g, 4, none⟩ = some (.map (some b.mp)) := R.G.cell 4
theorem Raw.c5 (R : Raw w b r) : w.cell? ⟨b.g, 5, none⟩ = some (.map (some b.mf)) := R.G.cell 5
theorem Raw.c6 (R : Raw w b r) : w.cell? ⟨b.g, 6, none⟩ = some (.int .i64 (r.born : Int)) := R.G.cell 6
theorem Raw.word (R : Raw w b r) {k : Nat} (hk : k < r.ws.length) : w.cell? ⟨b.hw, k, none⟩ = some (.int .i64 (r.ws.getD k 0)) := (R.Bw.cell k).trans (zcells_get hk)
theorem Raw.stc (R : Raw w b r) {k : Nat} (hk : k < r.bl.length) : w.cell? ⟨b.hb, k * 2, none⟩ = some (.int .i64 ((r.bl.getD k (0, 0)).1 : Int)) := (R.Bb.cell _).trans (bcells_get0 hk)
theorem Raw.spc (R : Raw w b r) {k : Nat} (hk : k < r.bl.length) : w.cell? ⟨b.hb, k * 2 + 1, none⟩ = some (.int .i64 ((r.bl.getD k (0, 0)).2 : Int)) := (R.Bb.cell _).trans (bcells_get1 hk)
theorem Raw.setP (R : Raw w b r) {L : List Nat} (T : STab w' b.pg b.ph 2 L) (hl : L.length = r.ps.length) (k : Kp [b.ph] w w') : Raw w' b { r with ps := L } := by
 refine ⟨R.cb1, R.cb2, R.cb3, R.cw1, R.cw2, R.cw3, R.bl2, R.bl64, R.wl, hl.trans R.pl, R.nl, R.G.kp k (R.no 0 4 (by decide)), R.Bb.kp k (R.no 1 4 (by decide)), R.Bw.kp k (R.no 2 4 (by decide)), T, R.TN.kp k (R.no 5 4 (by decide)) (R.no 6 4 (by decide)), own_kp R.MP k (R.no 7 4 (by decide)), own_kp R.MF k (R.no 8 4 (by decide)), R.d1, R.d2, R.d3⟩
theorem Raw.setN (R : Raw w b r) {L : List Nat} (T : STab w' b.ng b.nh 1 L) (hl : L.length = r.pn.length) (k : Kp [b.nh] w w') : Raw w' b { r with pn := L } := by
 refine ⟨R.cb1, R.cb2, R.cb3, R.cw1, R.cw2, R.cw3, R.bl2, R.bl64, R.wl, R.pl, hl.trans R.nl, R.G.kp k (R.no 0 6 (by decide)), R.Bb.kp k (R.no 1 6 (by decide)), R.Bw.kp k (R.no 2 6 (by decide)), R.TP.kp k (R.no 3 6 (by decide)) (R.no 4 6 (by decide)), T, own_kp R.MP k (R.no 7 6 (by decide)), own_kp R.MF k (R.no 8 6 (by decide)), R.d1, R.d2, R.d3⟩
theorem Raw.setW (R : Raw w b r) {ws : List Int} (B : Blk w' b.hw 3 (zcells ws ++ r.spw).toArray) (hl : ws.length = r.ws.length) (k : Kp [b.hw] w w') : Raw w' b { r with ws := ws } := by
 have hz : (zcells ws ++ r.spw).length = r.cw := by rw [← R.cw3]; simp [zcells_length, hl]
 refine ⟨R.cb1, R.cb2, R.cb3, by simpa [hl] using R.cw1, R.cw2, hz, R.bl2, R.bl64, hl.trans R.wl, R.pl, R.nl, ?_, R.Bb.kp k (R.no 1 2 (by decide)), B, R.TP.kp k (R.no 3 2 (by decide)) (R.no 4 2 (by decide)), R.TN.kp k (R.no 5 2 (by decide)) (R.no 6 2 (by decide)), own_kp R.MP k (R.no 7 2 (by decide)), own_kp R.MF k (R.no 8 2 (by decide)), R.d1, R.d2, R.d3⟩
 · have := R.G.kp k (R.no 0 2 (by decide))
   rw [← hl] at this
   exact this
theorem Raw.setB (R : Raw w b r) {bl : List (Nat × Nat)} (B : Blk w' b.hb 104 (bcells bl ++ r.spb).toArray) (hl : bl.length = r.bl.length) (k : Kp [b.hb] w w') : Raw w' b { r with bl := bl } := by
 have hz : (bcells bl ++ r.spb).length = 2 * r.cb := by rw [← R.cb3]; simp [bcells_length, hl]
 refine ⟨by simpa [hl] using R.cb1, R.cb2, hz, R.cw1, R.cw2, R.cw3, by simpa [hl] using R.bl2, by simpa [hl] using R.bl64, by simpa [hl] using R.wl, by simpa [hl] using R.pl, by simpa [hl] using R.nl, ?_, B, R.Bw.kp k (R.no 2 1 (by decide)), R.TP.kp k (R.no 3 1 (by decide)) (R.no 4 1 (by decide)), R.TN.kp k (R.no 5 1 (by decide)) (R.no 6 1 (by decide)), own_kp R.MP k (R.no 7 1 (by decide)), own_kp R.MF k (R.no 8 1 (by decide)), R.d1, R.d2, R.d3⟩
 · have := R.G.kp k (R.no 0 1 (by decide))
   rw [← hl] at this
   exact this
theorem Raw.setMP (R : Raw w b r) {q : Nat} {D : DataW Unit} (M : w'.ownsMap Tryz.prog 3 (plainElem Tryz.prog 3) b.mp q D) (hq : r.q ≤ q) (k : Kp [b.mp] w w') : Raw w' b { r with Dp := D, q := q } := by
 refine ⟨R.cb1, R.cb2, R.cb3, R.cw1, R.cw2, R.cw3, R.bl2, R.bl64, R.wl, R.pl, R.nl, R.G.kp k (R.no 0 7 (by decide)), R.Bb.kp k (R.no 1 7 (by decide)), R.Bw.kp k (R.no 2 7 (by decide)), R.TP.kp k (R.no 3 7 (by decide)) (R.no 4 7 (by decide)), R.TN.kp k (R.no 5 7 (by decide)) (R.no 6 7 (by decide)), M, (own_kp R.MF k (R.no 8 7 (by decide))).mono hq, R.d1, R.d2, R.d3⟩
theorem Raw.setBorn (R : Raw w b r) (n : Nat) : Raw (w.setCell ⟨b.g, 6, none⟩ (.int .i64 (n : Int))) b { r with born := n } := by
 have k := Kp.cell w ⟨b.g, 6, none⟩ (.int .i64 (n : Int))
 refine ⟨R.cb1, R.cb2, R.cb3, R.cw1, R.cw2, R.cw3, R.bl2, R.bl64, R.wl, R.pl, R.nl, R.G.set_ 6 _, R.Bb.kp k (R.no 1 0 (by decide)), R.Bw.kp k (R.no 2 0 (by decide)), R.TP.kp k (R.no 3 0 (by decide)) (R.no 4 0 (by decide)), R.TN.kp k (R.no 5 0 (by decide)) (R.no 6 0 (by decide)), own_kp R.MP k (R.no 7 0 (by decide)), own_kp R.MF k (R.no 8 0 (by decide)), R.d1, R.d2, R.d3⟩
end
def MapRd (D : DataW Unit) (f : Int → Option Int) : Prop :=
 ∀ i : Int, -9223372036854775808 ≤ i → i ≤ 9223372036854775807 → Maps.has D (.int .i64 i) = (f i).isSome ∧ ∀ v, f i = some v → D.atKey (.int .i64 i) (.lit (.int .i64 0)) = .lit (.int .i64 v)
theorem wf64 {i : Int} (h1 : -9223372036854775808 ≤ i) (h2 : i ≤ 9223372036854775807) : (Lit.int .i64 i).wf = true := by
 simp [Lit.wf, IntKind.min, IntKind.max, IntKind.signed, IntKind.bits]; omega
def HM.at_ (m : HM) (i : Int) : Option Nat := leastN (fun a => match m.ob a with | some o => decide ((o.id : Int) = i) | none => false) m.n
def HM.atI (m : HM) (i : Int) : Option Int := Option.map (fun a : Nat => (a : Int)) (m.at_ i)
def HM.fwI (m : HM) (i : Int) : Option Int := if 0 ≤ i then Option.map (fun a : Nat => (a : Int)) (m.fw i.toNat) else none
theorem at_iff {m : HM} (I : m.Inv) (i : Int) (a : Nat) : m.at_ i = some a ↔ ∃ o, m.ob a = some o ∧ (o.id : Int) = i := by
 unfold HM.at_
 rw [leastN_iff]
 constructor
 · rintro ⟨_, h, _⟩
   rcases ho : m.ob a with _ | o
   · rw [ho] at h; cases h
   · rw [ho] at h
     exact ⟨o, rfl, of_decide_eq_true h⟩
 · rintro ⟨o, ho, hi⟩
   have h1 := I.hi ho
   have h2 := (I.ok _ _ ho).wd_bd
   refine ⟨by omega, by simp only [ho]; exact decide_eq_true hi, fun j hj => ?_⟩
   rcases hj' : m.ob j with _ | o'
   · rfl
   · simp only
     refine decide_eq_false fun hc => ?_
     have := I.ids _ _ _ _ ho hj' (by omega)
     omega
theorem at_none {m : HM} (I : m.Inv) (i : Int) : m.at_ i = none ↔ ∀ a o, m.ob a = some o → (o.id : Int) ≠ i := by
 constructor
 · intro h a o ho hi
   rw [(at_iff I i a).2 ⟨o, ho, hi⟩] at h
   cases h
 · intro h
   rcases he : m.at_ i with _ | a
   · rfl
   · obtain ⟨o, ho, hi⟩ := (at_iff I i a).1 he
     exact absurd hi (h a o ho)
structure Abs (r : RM) (m : HM) : Prop where
 inv : m.Inv
 bl : r.bl = m.bl
 born : r.born = m.born
 rep : Rep m (fun k => r.ws.getD k 0) (ent r.ps) (ent r.pn)
 dp : MapRd r.Dp m.atI
 df : MapRd r.Df m.fwI
 fs : Maps.size r.Df = m.fn
def SH (w : World) (b : HB) (q : Nat) (m : HM) : Prop := ∃ r, Raw w b r ∧ Abs r m ∧ r.q ≤ q ∧ r.born ≤ q
section
variable {w w' : World} {b : HB} {q : Nat} {m : HM}
theorem SH.inv (h : SH w b q m) : m.Inv := by
 obtain ⟨r, _, A, _⟩ := h
 exact A.inv
theorem SH.kp {S : List Nat} (h : SH w b q m) (k : Kp S w w') (hS : ∀ x ∈ b.all, x ∉ S) : SH w' b q m := by
 obtain ⟨r, R, A⟩ := h
 exact ⟨r, R.kp k hS, A⟩
theorem SH.kp0 (h : SH w b q m) (k : Kp [] w w') : SH w' b q m := h.kp k (by simp)
theorem SH.drewN (h : SH w b q m) (n : Nat) : SH (w.drewN n) b q m := h.kp0 (Kp.draw w n)
theorem SH.lt (h : SH w b q m) : ∀ x ∈ b.all, x < w.heap.size := by
 obtain ⟨r, R, _⟩ := h
 exact R.lt
theorem SH.mono (h : SH w b q m) {q' : Nat} (hq : q ≤ q') : SH w b q' m := by
 obtain ⟨r, R, A, h1, h2⟩ := h
 exact ⟨r, R, A, by omega, by omega⟩
end
section
variable {w w' : World} {b : HB} {r : RM}
theorem h_made (R : Raw w b r) :
   Calls Tryz.prog 55 #[.pointer (some ⟨b.g, 0, none⟩)] w fun e w' => e = .returned (.bool true) ∧ ∃ m, w' = w.drewN m := by
 have hc := R.c0
 have hp : 0 < r.bl.length := Nat.lt_of_lt_of_le (by decide) R.bl2
 clear R
 go_enter Tryz.func55, Tryz.ntmps55
 go_wp2
 go_ret
 exact ⟨rfl, 0, rfl⟩
def inB (n : Nat) (i : Int) : Bool := decide (0 ≤ i ∧ i < (n : Int))
theorem h_hasBlock (R : Raw w b r) (i : Int) :
   Calls Tryz.prog 114 #[.pointer (some ⟨b.g, 0, none⟩), .int .i64 i] w fun e w' => e = .returned (.bool (inB r.bl.length i)) ∧ ∃ m, w' = w.drewN m := by
 have hc := R.c0
 have hp := R.bl64
 clear R
 by_cases h0 : 0 ≤ i
 · by_cases h1 : i < (r.bl.length : Int)
   · have e : inB r.bl.length i = true := decide_eq_true ⟨h0, h1⟩
     rw [e]; clear e
     go_enter Tryz.func114, Tryz.ntmps114
     go_wp2
     go_ret
     exact ⟨rfl, 0, rfl⟩
   · have e : inB r.bl.length i = false := decide_eq_false (fun h => h1 h.2)
     rw [e]; clear e
     go_enter Tryz.func114, Tryz.ntmps114
     go_wp2
     go_ret
     exact ⟨rfl, 0, rfl⟩
 · have e : inB r.bl.length i = false := decide_eq_false (fun h => h0 h.1)
   rw [e]; clear e
   go_enter Tryz.func114, Tryz.ntmps114
   go_wp2
   go_ret
   exact ⟨rfl, 0, rfl⟩
theorem h_hasWord (R : Raw w b r) (i : Int) :
   Calls Tryz.prog 122 #[.pointer (some ⟨b.g, 0, none⟩), .int .i64 i] w fun e w' => e = .returned (.bool (inB r.ws.length i)) ∧ ∃ m, w' = w.drewN m := by
 have hc := R.c1
 have hp : r.ws.length ≤ 4096 := by have := R.bl64; have := R.wl; omega
 clear R
 by_cases h0 : 0 ≤ i
 · by_cases h1 : i < (r.ws.length : Int)
   · have e : inB r.ws.length i = true := decide_eq_true ⟨h0, h1⟩
     rw [e]; clear e
     go_enter Tryz.func122, Tryz.ntmps122
     go_wp2
     go_ret
     exact ⟨rfl, 0, rfl⟩
   · have e : inB r.ws.length i = false := decide_eq_false (fun h => h1 h.2)
     rw [e]; clear e
     go_enter Tryz.func122, Tryz.ntmps122
     go_wp2
     go_ret
     exact ⟨rfl, 0, rfl⟩
 · have e : inB r.ws.length i = false := decide_eq_false (fun h => h0 h.1)
   rw [e]; clear e
   go_enter Tryz.func122, Tryz.ntmps122
   go_wp2
   go_ret
   exact ⟨rfl, 0, rfl⟩
def blkB (n : Nat) (i : Int) : Bool := decide (1 ≤ i ∧ i < (n : Int))
theorem h_canBeUsed (R : Raw w b r) (i : Int) :
   Calls Tryz.prog 125 #[.pointer (some ⟨b.g, 0, none⟩), .int .i64 i] w fun e w' => e = .returned (.bool (blkB r.bl.length i)) ∧ ∃ m, w' = w.drewN m := by
 by_cases h0 : i = 0
 · subst h0
   have e : blkB r.bl.length 0 = false := decide_eq_false (by omega)
   rw [e]; clear e
   go_enter Tryz.func125, Tryz.ntmps125
   go_wp2
   go_ret
   exact ⟨rfl, 0, rfl⟩
 · have h1 : (i != 0) = true := bne_iff_ne.2 h0
   have e : blkB r.bl.length i = inB r.bl.length i := by unfold blkB inB; rw [decide_eq_decide]; omega
   rw [e]; clear e h0
   go_enter Tryz.func125, Tryz.ntmps125
   go_wp2_with (go_at_call 114; refine (h_hasBlock R _).mono ?_; rintro e w' ⟨rfl, n1, rfl⟩)
   go_ret
   exact ⟨rfl, _, rfl⟩
def spcB (i : Int) : Bool := decide (0 ≤ i ∧ i < 8)
theorem h_isSpace (w : World) (i : Int) :
   Calls Tryz.prog 135 #[.int .i64 i] w fun e w' => e = .returned (.bool (spcB i)) ∧ ∃ m, w' = w.drewN m := by
 by_cases h0 : 0 ≤ i
 · by_cases h1 : i < 8
   · have e : spcB i = true := decide_eq_true ⟨h0, h1⟩
     rw [e]; clear e
     go_enter Tryz.func135, Tryz.ntmps135
     go_wp2
     go_ret
     exact ⟨rfl, 0, rfl⟩
   · have e : spcB i = false := decide_eq_false (fun h => h1 h.2)
     rw [e]; clear e
     go_enter Tryz.func135, Tryz.ntmps135
     go_wp2
     go_ret
     exact ⟨rfl, 0, rfl⟩
 · have e : spcB i = false := decide_eq_false (fun h => h0 h.1)
   rw [e]; clear e
   go_enter Tryz.func135, Tryz.ntmps135
   go_wp2
   go_ret
   exact ⟨rfl, 0, rfl⟩
theorem h_up2 (n : Nat) (w : World) (hn : n ≤ 100000) :
   Calls Tryz.prog 115 #[.int .i64 (n : Int), .int .i64 2] w fun e w' => e = .returned (.int .i64 (((n + 1) / 2 * 2 : Nat) : Int)) ∧ ∃ m, w' = w.drewN m := by
 have e : (((n + 1) / 2 * 2 : Nat) : Int) = ((n : Int) + 2 - 1) / 2 * 2 := by omega
 rw [e]; clear e
 go_enter Tryz.func115, Tryz.ntmps115
 go_wp2
 go_ret
 exact ⟨rfl, 0, rfl⟩
theorem h_up64 (n : Nat) (w : World) (hn : n ≤ 100000) :
   Calls Tryz.prog 115 #[.int .i64 (n : Int), .int .i64 64] w fun e w' => e = .returned (.int .i64 (((n + 63) / 64 * 64 : Nat) : Int)) ∧ ∃ m, w' = w.drewN m := by
 have e : (((n + 63) / 64 * 64 : Nat) : Int) = ((n : Int) + 64 - 1) / 64 * 64 := by omega
 rw [e]; clear e
 go_enter Tryz.func115, Tryz.ntmps115
 go_wp2
 go_ret
 exact ⟨rfl, 0, rfl⟩
def clmB (s : Nat) : Bool := decide (s = 1 ∨ s = 2)
theorem h_isClaimed (R : Raw w b r) (i : Nat) (hi : i < r.bl.length) :
   Calls Tryz.prog 126 #[.pointer (some ⟨b.g, 0, none⟩), .int .i64 (i : Int)] w fun e w' => e = .returned (.bool (clmB (r.bl.getD i (0, 0)).1)) ∧ ∃ m, w' = w.drewN m := by
 have hc := R.c0
 have hs := R.stc hi
 have hl := R.bl64
 clear R
 generalize (r.bl.getD i (0, 0)).1 = s at hs ⊢
 by_cases h1 : s = 1
 · subst h1
   go_enter Tryz.func126, Tryz.ntmps126
   go_wp2
   go_ret
   exact ⟨rfl, 0, rfl⟩
 · by_cases h2 : s = 2
   · subst h2
     go_enter Tryz.func126, Tryz.ntmps126
     go_wp2
     go_ret
     exact ⟨rfl, 0, rfl⟩
   · have e : clmB s = false := decide_eq_false (by omega)
     rw [e]; clear e
     have e1 : ((s : Int) == 1) = false := beq_eq_false_iff_ne.2 (by omega)
     have e2 : ((s : Int) == 2) = false := beq_eq_false_iff_ne.2 (by omega)
     clear h1 h2
     go_enter Tryz.func126, Tryz.ntmps126
     go_wp2
     go_ret
     exact ⟨rfl, 0, rfl⟩
theorem h_group (R : Raw w b r) (i : Nat) (hi : i < r.bl.length) :
   Calls Tryz.prog 127 #[.pointer (some ⟨b.g, 0, none⟩), .int .i64 (i : Int)] w fun e w' => e = .returned (.slice (some ⟨b.hb, i * 2, none⟩) (grpEnd r.bl i - i) (r.cb - i)) ∧ ∃ m, w' = w.drewN m := by
 have hc := R.c0
 have hl := R.bl64
 have hcb := R.cb1
 have hcm := R.cb2
 have HS := hid (fun k (hk : k < r.bl.length) => R.stc hk)
 unfold maxLen at hcm
 clear R
 go_enter Tryz.func127, Tryz.ntmps127
 go_wp2
 go_loop [5] (fun c => ∃ k : Nat, i + 1 ≤ k ∧ k ≤ r.bl.length ∧ Hid (∀ j, i + 1 ≤ j → j < k → (r.bl.getD j (0, 0)).1 = 3) ∧ c = .int .i64 (k : Int)) (fun c => r.bl.length - (intOf c).toNat)
 case atStart => exact ⟨i + 1, by omega, by omega, (fun j h1 h2 => absurd h2 (by omega)), by go_num⟩
 case round =>
   obtain ⟨k, hk1, hk2, HK, rfl⟩ := hrel
   by_cases hlt : k < r.bl.length
   · have hs := HS.out k hlt
     by_cases h3 : (r.bl.getD k (0, 0)).1 = 3
     · have HK' : Hid (∀ j, i + 1 ≤ j → j < k + 1 → (r.bl.getD j (0, 0)).1 = 3) := fun j h1 h2 => by
         by_cases hj : j < k
         · exact HK.out j h1 hj
         · obtain rfl : j = k := by omega
           exact h3
       rw [h3] at hs
       clear h3
       go_wp2
       go_round
       case rel => exact ⟨k + 1, by omega, by omega, HK', by go_num⟩
       case measure => simp [intOf]; omega
     · have e : grpEnd r.bl i = k := (grpEnd_iff _ _ _ hi).2 ⟨hk1, hk2, HK.out, fun _ => h3⟩
       have HE := hid e
       generalize (r.bl.getD k (0, 0)).1 = s at hs h3
       have e2 : ((s : Int) == 3) = false := beq_eq_false_iff_ne.2 (by omega)
       clear h3 e
       go_wp2
       go_ret
       rw [HE.out]
       exact ⟨rfl, 0, rfl⟩
   · obtain rfl : k = r.bl.length := by omega
     have e : grpEnd r.bl i = r.bl.length := (grpEnd_iff _ _ _ hi).2 ⟨hk1, hk2, HK.out, fun h => absurd h (by omega)⟩
     have HE := hid e
     clear e
     go_wp2
     go_ret
     rw [HE.out]
     exact ⟨rfl, 0, rfl⟩
end
section
variable {w w' : World} {b : HB} {r : RM}
theorem h_valid (r d k : Int) (w : World) :
   Calls Tryz.prog 42 #[.agg #[.int .i64 r, .int .i64 d, .int .i64 k]] w fun e w' => e = .returned (.bool (vldB r d k)) ∧ Kp [] w w' := by
 by_cases h1 : r < 0
 · have e : vldB r d k = false := decide_eq_false (by omega)
   rw [e]; clear e
   go_enter Tryz.func42, Tryz.ntmps42
   go_wp2
   go_ret
   exact ⟨rfl, Kp.new _ _⟩
 by_cases h2 : 15 < r
 · have e : vldB r d k = false := decide_eq_false (by omega)
   rw [e]; clear e
   go_enter Tryz.func42, Tryz.ntmps42
   go_wp2
   go_ret
   exact ⟨rfl, Kp.new _ _⟩
 by_cases h3 : d < 0
 · have e : vldB r d k = false := decide_eq_false (by omega)
   rw [e]; clear e
   go_enter Tryz.func42, Tryz.ntmps42
   go_wp2
   go_ret
   exact ⟨rfl, Kp.new _ _⟩
 by_cases h4 : 200 < d
 · have e : vldB r d k = false := decide_eq_false (by omega)
   rw [e]; clear e
   go_enter Tryz.func42, Tryz.ntmps42
   go_wp2
   go_ret
   exact ⟨rfl, Kp.new _ _⟩
 by_cases k0 : k = 0
 · have e : vldB r d k = true := decide_eq_true (by omega)
   rw [e]; clear e; subst k0
   go_enter Tryz.func42, Tryz.ntmps42
   go_wp2
   go_ret
   exact ⟨rfl, Kp.new _ _⟩
 by_cases k3 : k = 3
 · have e : vldB r d k = true := decide_eq_true (by omega)
   rw [e]; clear e k0; subst k3
   go_enter Tryz.func42, Tryz.ntmps42
   go_wp2
   go_ret
   exact ⟨rfl, Kp.new _ _⟩
 by_cases k1 : k = 1
 · clear k0 k3; subst k1
   by_cases hr : 1 ≤ r
   · have e : vldB r d 1 = true := decide_eq_true (by omega)
     rw [e]; clear e
     go_enter Tryz.func42, Tryz.ntmps42
     go_wp2
     go_ret
     exact ⟨rfl, Kp.new _ _⟩
   · have e : vldB r d 1 = false := decide_eq_false (by omega)
     rw [e]; clear e
     go_enter Tryz.func42, Tryz.ntmps42
     go_wp2
     go_ret
     exact ⟨rfl, Kp.new _ _⟩
 by_cases k2 : k = 2
 · clear k0 k3 k1; subst k2
   by_cases hr : 2 ≤ r
   · have e : vldB r d 2 = true := decide_eq_true (by omega)
     rw [e]; clear e
     go_enter Tryz.func42, Tryz.ntmps42
     go_wp2
     go_ret
     exact ⟨rfl, Kp.new _ _⟩
   · have e : vldB r d 2 = false := decide_eq_false (by omega)
     rw [e]; clear e
     go_enter Tryz.func42, Tryz.ntmps42
     go_wp2
     go_ret
     exact ⟨rfl, Kp.new _ _⟩
 have e : vldB r d k = false := decide_eq_false (by omega)
 have g0 : (k == 0) = false := beq_eq_false_iff_ne.2 k0
 have g1 : (k == 1) = false := beq_eq_false_iff_ne.2 k1
 have g2 : (k == 2) = false := beq_eq_false_iff_ne.2 k2
 have g3 : (k == 3) = false := beq_eq_false_iff_ne.2 k3
 rw [e]; clear e k0 k1 k2 k3
 go_enter Tryz.func42, Tryz.ntmps42
 go_wp2
 go_ret
 exact ⟨rfl, Kp.new _ _⟩
theorem h_words (r d k : Int) (w : World) :
   Calls Tryz.prog 37 #[.agg #[.int .i64 r, .int .i64 d, .int .i64 k]] w fun e w' => e = .returned (.int .i64 (wordsI r d k)) ∧ Kp [] w w' := by
 have B0 := hid (Blk.new w 33 #[.int .i64 r, .int .i64 d, .int .i64 k])
 rcases hv : vldB r d k
 · have e : wordsI r d k = 0 := by simp [wordsI, hv]
   rw [e]; clear e
   have HV := hid hv
   clear hv
   go_enter Tryz.func37, Tryz.ntmps37
   go_wp2_with (go_at_call 42; refine (h_valid r d k _).mono ?_; rintro e w1 ⟨rfl, K1⟩; rw [HV.out]; have HK := hid K1; clear K1)
   go_ret
   exact ⟨rfl, (Kp.new _ _).chain HK.out⟩
 · obtain ⟨r, d, k, rfl, rfl, rfl, hr, hd, hk⟩ := vldB_nat hv
   have e : wordsI r d k = ((((2 + r + d) + 1) / 2 * 2 : Nat) : Int) := by simp only [wordsI, hv, if_true, Int.toNat_natCast, wdN]; omega
   rw [e]; clear e
   have HV := hid hv
   clear hv
   go_enter Tryz.func37, Tryz.ntmps37
   go_wp2_with (first | (go_at_call 42; refine (h_valid r d k _).mono ?_; rintro e w1 ⟨rfl, K1⟩; rw [HV.out]; have HK := hid K1; have B1 := B0.out.kp K1 (by simp); have q0 := B1.cell 0; have q1 := B1.cell 1; clear K1 B1) | (go_at_call 115; refine (h_up2 (2 + r + d) _ (by omega)).mono ?_; rintro e w2 ⟨rfl, n2, rfl⟩))
   go_ret
   exact ⟨rfl, ((Kp.new _ _).chain HK.out).drewN _⟩
theorem h_shapeWord (r d k : Nat) (w : World) (hr : r ≤ 15) (hd : d ≤ 200) (hk : k ≤ 3) :
   Calls Tryz.prog 120 #[.agg #[.int .i64 (r : Int), .int .i64 (d : Int), .int .i64 (k : Int)]] w fun e w' => e = .returned (.int .i64 ((shN r d k : Nat) : Int)) ∧ Kp [] w w' := by
 have e : ((shN r d k : Nat) : Int) = (r : Int) + 16 * (d : Int) + 4096 * (k : Int) := by unfold shN; omega
 rw [e]; clear e
 go_enter Tryz.func120, Tryz.ntmps120
 go_wp2
 go_ret
 exact ⟨rfl, Kp.new _ _⟩
theorem h_shape (R : Raw w b r) (a x d k : Nat) (ha : a + 1 < r.ws.length) (hr : x ≤ 15) (hd : d ≤ 200) (hk : k ≤ 3) (hw : r.ws.getD (a + 1) 0 = ((shN x d k : Nat) : Int)) :
   Calls Tryz.prog 113 #[.pointer (some ⟨b.g, 0, none⟩), .int .i64 (a : Int)] w fun e w' => e = .returned (.agg #[.int .i64 (x : Int), .int .i64 (d : Int), .int .i64 (k : Int)]) ∧ Kp [] w w' := by
 have R1 := R.kp0 (Kp.new w (.cells #[.int .i64 0, .int .i64 0, .int .i64 0] 33))
 have hc := R1.c1
 have hx := R1.word ha
 have hl : r.ws.length ≤ 4096 := by have := R.bl64; have := R.wl; omega
 have hcw := R.cw1
 have hcm := R.cw2
 unfold maxLen at hcm
 rw [hw] at hx
 have hy : shN x d k ≤ 20000 := by unfold shN; omega
 have e1 : ((shN x d k : Nat) : Int) % 16 = (x : Int) := by unfold shN; omega
 have e2 : ((shN x d k : Nat) : Int) % 4096 / 16 = (d : Int) := by unfold shN; omega
 have e3 : ((shN x d k : Nat) : Int) / 4096 = (k : Int) := by unfold shN; omega
 have HE : Hid (_ ∧ _ ∧ _) := ⟨e1, e2, e3⟩
 generalize shN x d k = y at hx hy HE
 clear R R1 hw e1 e2 e3
 go_enter Tryz.func113, Tryz.ntmps113
 go_wp2
 obtain ⟨e1, e2, e3⟩ := HE.out
 refine bodyPost_ret (v := .agg #[.int .i64 (x : Int), .int .i64 (d : Int), .int .i64 (k : Int)]) ?_ rfl ⟨rfl, ?_⟩
 · rw [e1, e2, e3]
   simp [results, Tryz.results113, go_sem]
 · exact Kp.new _ _
theorem h_size (R : Raw w b r) (a x d k : Nat) (ha : a + 1 < r.ws.length) (hv : vldB x d k = true) (hw : r.ws.getD (a + 1) 0 = ((shN x d k : Nat) : Int)) :
   Calls Tryz.prog 116 #[.pointer (some ⟨b.g, 0, none⟩), .int .i64 (a : Int)] w fun e w' => e = .returned (.int .i64 ((wdN x d : Nat) : Int)) ∧ Kp [] w w' := by
 have hb := vldB_bd hv
 have e : wordsI x d k = ((wdN x d : Nat) : Int) := by simp [wordsI, hv]
 have HE := hid e
 have HW := hid hw
 clear e hw hv
 go_enter Tryz.func116, Tryz.ntmps116
 go_wp2_with (first | (go_at_call 113; refine (h_shape R a x d k ha hb.1 hb.2.1 hb.2.2 HW.out).mono ?_; rintro e w1 ⟨rfl, K1⟩; have HK := hid K1; clear K1) | (go_at_call 37; refine (h_words x d k _).mono ?_; rintro e w2 ⟨rfl, K2⟩; have HK2 := hid K2; clear K2))
 go_ret
 rw [HE.out]
 exact ⟨rfl, HK.out.chain HK2.out⟩
end
end Go.Proofs.YthndilllnneijaaGreat
