/-
  The contracts of the document's heap's pin, Pin, Unpin, SetRef, SetData, Shape, Find. Conditions: those that stand in each theorem.
-/
import Derived.BigQuiet
import Derived.Deep.RegionHeld3
import Derived.Test.YthndilllnneijaaGreatPG13
set_option linter.unusedSimpArgs false
set_option linter.unusedVariables false
set_option maxRecDepth 100000
set_option maxHeartbeats 2000000
namespace Go.Proofs.YthndilllnneijaaGreat
open Go.RowKit Go.Deep Go.Maps
section
variable {w w' W : World} {d : DB} {q : Nat} {m : HM}
end
theorem shpInfo : (Tryz.prog.info? 33).map (·.size) = some 3 := by kernel_rfl
theorem shpOne {a b c : Int} : (#[Value.int .i64 a, .int .i64 b, .int .i64 c] : Array Value).all (·.oneCell') = true := all_oneCell_toArray (cs := [Value.int .i64 a, .int .i64 b, .int .i64 c]) (fun v hv => by simp at hv; rcases hv with rfl | rfl | rfl <;> rfl)
theorem wordsI_ok {o : Ob} (h : o.Ok) : wordsI (o.refs : Int) (o.data : Int) (o.kind : Int) = (o.wd : Int) := by
 unfold wordsI
 rw [h.vld]
 simp [Ob.wd]
theorem obox_any {w W : World} {g : Nat} {T : TypeId} {cs : Array Value} (hB : Blk W g T cs) (hk : Kp [] w W) (hg : w.heap.size ≤ g) (vs : Array Value) (hv : cs.size = vs.size) : W.there g 0 vs.size ∧ Kp [] w (W.setCells g 0 vs.toList) ∧ ∀ j v, vs.toList[j]? = some v → (W.setCells g 0 vs.toList).cell? ⟨g, j, none⟩ = some v := by
 have ht : W.there g 0 vs.size := fun j hj => by
   refine ⟨?_, ?_⟩
   · rw [Nat.zero_add, hB.cell j, Array.getElem?_eq_getElem (by omega)]; rfl
   · rw [Nat.zero_add]; exact hB.frozen j
 exact ⟨ht, hk.trans (Kp.setCells _ _ _ _) (by simp) (by simp; exact hg), fun j v hj => by have := World.rangeAt_setCells_same W g 0 vs.toList (by simpa using ht) j v hj; rwa [Nat.zero_add] at this⟩
def HM.shR (m : HM) (a : Int) : Int := if m.has a then (match m.ob a.toNat with | some o => (o.refs : Int) | none => 0) else 0
def HM.shD (m : HM) (a : Int) : Int := if m.has a then (match m.ob a.toNat with | some o => (o.data : Int) | none => 0) else 0
def HM.shK (m : HM) (a : Int) : Int := if m.has a then (match m.ob a.toNat with | some o => (o.kind : Int) | none => 0) else 0
section
variable {w w' W : World} {d : DB} {q : Nat} {m : HM}
theorem d_shape (T : DR w d q m) (a : Int) :
   Calls Tryz.prog 160 #[.pointer (some ⟨d.g, 0, none⟩), .int .i64 a] w fun e w' => e = .returned (.tuple #[.agg #[.int .i64 (m.shR a), .int .i64 (m.shD a), .int .i64 (m.shK a)], .int .i64 (m.lackE a)]) ∧ Kp [] w w' := by
 have HT := hid T
 have K0 := hid (Kp.new w (.cells #[.int .i64 0, .int .i64 0, .int .i64 0] 33))
 have B0 := hid (Blk.new w 33 #[.int .i64 0, .int .i64 0, .int .i64 0])
 rcases hh : m.has a
 · have e3 : m.lackE a = 4 := by simp [HM.lackE, hh]
   rw [show m.shR a = 0 by simp [HM.shR, hh], show m.shD a = 0 by simp [HM.shD, hh], show m.shK a = 0 by simp [HM.shK, hh], e3]
   have HL := hid e3
   clear T hh e3
   go_enter Tryz.func160, Tryz.ntmps160
   go_wp2_with (fail)
   refine (d_lacks (HT.out.kp0 K0.out) a).mono ?_
   rintro e w1 ⟨rfl, h1⟩
   have K1 := Kp.of_drewN h1
   rw [HL.out]
   have HK := hid (K0.out.chain K1)
   have B1 := B0.out.kp K1 (by simp)
   have c0 := B1.cell 0
   have c1 := B1.cell 1
   have c2 := B1.cell 2
   have f0 := B1.frozen 0
   have f1 := B1.frozen 1
   have f2 := B1.frozen 2
   have HB1 := hid B1
   clear K1 B1 h1
   go_wp2
   have hB9 := ((HB1.out.set_ 0 (.int .i64 0)).set_ 1 (.int .i64 0)).set_ 2 (.int .i64 0)
   have hK9 : Kp [] w (((w1.setCell ⟨w.heap.size, 0, none⟩ (.int .i64 0)).setCell ⟨w.heap.size, 1, none⟩ (.int .i64 0)).setCell ⟨w.heap.size, 2, none⟩ (.int .i64 0)) :=
     (((HK.out.trans (Kp.cell _ ⟨w.heap.size, 0, none⟩ _) (U := []) (by simp) (by simp)).trans (Kp.cell _ ⟨w.heap.size, 1, none⟩ _) (U := []) (by simp) (by simp)).trans (Kp.cell _ ⟨w.heap.size, 2, none⟩ _) (U := []) (by simp) (by simp))
   generalize (((w1.setCell ⟨w.heap.size, 0, none⟩ (.int .i64 0)).setCell ⟨w.heap.size, 1, none⟩ (.int .i64 0)).setCell ⟨w.heap.size, 2, none⟩ (.int .i64 0)) = W9 at hB9 hK9 ⊢
   have q0 : W9.cell? ⟨w.heap.size, 0, none⟩ = some (.int .i64 0) := hB9.cell 0
   have q1 : W9.cell? ⟨w.heap.size, 1, none⟩ = some (.int .i64 0) := hB9.cell 1
   have q2 : W9.cell? ⟨w.heap.size, 2, none⟩ = some (.int .i64 0) := hB9.cell 2
   refine bodyPost_ret (v := .tuple #[.agg #[.int .i64 0, .int .i64 0, .int .i64 0], .int .i64 4]) ?_ rfl ⟨rfl, hK9⟩
   simp [results, Tryz.results160, q0, q1, q2, go_sem]
 · obtain ⟨i, x, hi, hx, hix, ho⟩ := T.lst.ix hh
   have e3 : m.lackE a = 0 := by simp [HM.lackE, hh]
   subst hx
   rw [Int.toNat_natCast] at ho
   have HL := hid e3
   have HH := hid hh
   have HO := hid ho
   have hok := T.ok hi
   have hbd := hok.bd
   have hlen := T.len
   have hil := (List.getElem?_eq_some_iff.1 hi).1
   have hnb := T.inv.n_bd
   have hhi := T.inv.hi ho
   have HE := hid hix
   have HI := hid hi
   obtain ⟨g, cap, hov, hcl, _, hgm, hO, hfz⟩ := T.ocell hi
   have hc1 := T.c1
   rw [hov] at hc1
   have HZ : Hid (m.shR (x.a : Int) = (x.o.refs : Int) ∧ m.shD (x.a : Int) = (x.o.data : Int) ∧ m.shK (x.a : Int) = (x.o.kind : Int)) := ⟨by simp [HM.shR, hh, ho], by simp [HM.shD, hh, ho], by simp [HM.shK, hh, ho]⟩
   have HNE : Hid (d.g ≠ w.heap.size ∧ g ≠ w.heap.size) := ⟨fun e => by have := T.lt d.g (by simp [DB.all]); omega, fun e => by have := T.lt g hgm; omega⟩
   have HOV := hid hov
   rw [e3]
   clear T hh hi hix ho e3 hok hov hO hfz hgm hc1
   go_enter Tryz.func160, Tryz.ntmps160
   go_wp2_with (fail)
   refine (d_lacks (HT.out.kp0 K0.out) _).mono ?_
   rintro e w1 ⟨rfl, h1⟩
   rw [HL.out]
   have HJ1 := Kp.of_drewN h1
   have HK1 := hid (K0.out.chain HJ1)
   have HB1 := hid (B0.out.kp HJ1 (by simp))
   clear h1 HJ1
   go_wp2_with (fail)
   have HT1 := hid (HT.out.kp0 HK1.out)
   have hc1 := HT1.out.c1
   rw [HOV.out] at hc1
   obtain ⟨g', cap', hov', _, _, _, hO', _⟩ := HT1.out.ocell HI.out
   rw [HOV.out] at hov'
   cases hov'
   have HO2 := hid hO'
   clear hO'
   refine wp_region_held_drew (S := fun W => IX W d g d.os.length cap i x) (by kernel_rfl) ?_ (fun hHeld => ?_)
   · exact ⟨kp_cellD (Kp.draw _ 1) hc1, HO2.out.kp0 (Kp.draw _ 1)⟩
   refine tk0 0 rfl ?_
   refine tk0 1 rfl ?_
   refine tk0 2 rfl ?_
   refine tk 3 rfl (Or.inl ⟨by rfl, by (intro wz hSw; have hcj := hSw.s; go_simp; try with_reducible rfl)⟩) ?_
   refine tk0 4 rfl ?_
   refine tk0 5 rfl ?_
   refine rd 6 rfl fun K hK => ?_
   go_simp
   refine (d_index (HT1.out.kp0 (Kp.draw _ 1)) _).mono ?_
   rintro e w2 ⟨rfl, h2⟩
   rw [HE.out]
   have HK2 := hid ((Kp.draw w1 1).chain (Kp.of_drewN h2))
   have HJ2 := hid (Kp.of_drewN h2)
   clear h2
   try go_wp2_with fail
   refine hK.out _ _ ?_ (fun hHeld => ?_)
   · exact hHeld.kp0 HJ2.out
   clear hK K
   refine tk0 7 rfl ?_
   refine tk0 8 rfl ?_
   refine tk 9 rfl (Or.inl ⟨by rfl, by (intro wz hSw; have hcj := hSw.o; have k2 := hcj.c2; have k3 := hcj.c3; have k4 := hcj.c4; go_simp; try with_reducible rfl)⟩) ?_
   refine rd 10 rfl fun K hK => ?_
   obtain ⟨hth, hkb, hrb⟩ := obox_any (g := w.heap.size) (HB1.out.kp HK2.out (by simp)) (HK1.out.chain HK2.out) (Nat.le_refl _) #[.int .i64 (x.o.refs : Int), .int .i64 (x.o.data : Int), .int .i64 (x.o.kind : Int)] rfl
   have HKB := hid hkb
   have HRB := hid hrb
   refine step_store_midD (by rfl) 33 (.tmp 4) (.tmp 23) (by rfl) w.heap.size 0 #[.int .i64 (x.o.refs : Int), .int .i64 (x.o.data : Int), .int .i64 (x.o.kind : Int)] (by rfl) (by rfl) hth shpInfo shpOne ?_
   clear hth hkb hrb
   refine hK.out _ _ ?_ (fun hHeld => ?_)
   · exact hHeld.kp (Kp.setCells _ _ _ _) (by simp; exact HNE.out.1) (by simp; exact HNE.out.2)
   clear hK K
   refine tk0 11 rfl ?_
   refine wpAnyH_done (by kernel_rfl) ?_ _
   clear hHeld
   have hrb := HRB.out
   generalize w2.setCells w.heap.size 0 (#[.int .i64 (x.o.refs : Int), .int .i64 (x.o.data : Int), .int .i64 (x.o.kind : Int)] : Array Value).toList = V at HKB hrb ⊢
   have q0 : V.cell? ⟨w.heap.size, 0, none⟩ = some (.int .i64 (x.o.refs : Int)) := hrb 0 _ rfl
   have q1 : V.cell? ⟨w.heap.size, 1, none⟩ = some (.int .i64 (x.o.data : Int)) := hrb 1 _ rfl
   have q2 : V.cell? ⟨w.heap.size, 2, none⟩ = some (.int .i64 (x.o.kind : Int)) := hrb 2 _ rfl
   clear hrb
   go_wp2
   rw [HZ.out.1, HZ.out.2.1, HZ.out.2.2]
   refine bodyPost_ret (v := .tuple #[.agg #[.int .i64 (x.o.refs : Int), .int .i64 (x.o.data : Int), .int .i64 (x.o.kind : Int)], .int .i64 0]) ?_ rfl ⟨rfl, HKB.out⟩
   simp [results, Tryz.results160, q0, q1, q2, go_sem]
theorem d_find (T : DR w d q m) (a : Int) (ha : W64 a) :
   Calls Tryz.prog 148 #[.pointer (some ⟨d.g, 0, none⟩), .int .i64 a] w fun e w' => e = .returned (.tuple #[.int .i64 ((m.ownI a : Nat) : Int), .int .i64 (m.findE a)]) ∧ Kp [] w w' := by
 obtain ⟨A, cap, hov⟩ := T.o_len
 have hlen := T.len
 have hnb := T.inv.n_bd
 have HT := hid T
 have HOV := hid hov
 have HIN := hid T.inv
 obtain ⟨ha1, ha2⟩ := ha
 clear T hov
 go_enter Tryz.func148, Tryz.ntmps148
 go_wp2_with (go_at_call 60; refine (d_made HT.out).mono ?_; rintro e w1 ⟨rfl, h1⟩; have HK1 := hid (Kp.of_drewN h1); clear h1)
 go_loopw [6] (fun c wr => ∃ k : Nat, k ≤ d.os.length ∧ Hid (∀ j, j < k → ∀ y, d.os[j]? = some y → ¬ ((y.a : Int) ≤ a ∧ a < (y.a : Int) + (y.o.wd : Int))) ∧ c = .int .i64 (k : Int) ∧ Kp [] w wr) (fun c _ => d.os.length - (intOf c).toNat)
 case atStart => exact ⟨0, by omega, (fun j h1 => absurd h1 (by omega)), by go_num, HK1.out⟩
 case round =>
   obtain ⟨k, hk, HK, rfl, K⟩ := hrel
   have HKR := hid K
   have HTR := hid (HT.out.kp0 K)
   have hc1 := HTR.out.c1
   rw [HOV.out] at hc1
   clear K
   by_cases hlt : k < d.os.length
   · obtain ⟨x, hx⟩ := get_some hlt
     obtain ⟨g, cap', hov', _, _, _, hO, _⟩ := HTR.out.ocell hx
     rw [HOV.out] at hov'
     cases hov'
     have o0 := hO.c0
     have o2 := hO.c2
     have o3 := hO.c3
     have o4 := hO.c4
     have hob := HTR.out.lst.ob hx
     have hhi := HIN.out.hi hob
     have hok := HIN.out.ok _ _ hob
     have hwd := hok.wd_bd
     have HWD := hid (wordsI_ok hok)
     have HX := hid hx
     have HOB := hid hob
     clear hO hob hok
     have q1 : IntKind.i64.wrap ((x.a : Int) + (x.o.wd : Int)) = (x.a : Int) + (x.o.wd : Int) := by rw [IntKind.wrap_i64]; omega
     have s1 := kp_cellD (Kp.draw wr 1) hc1
     have s2 := kp_cellD (Kp.draw wr 1) o0
     have s3 := kp_cellD (Kp.draw wr 1) o2
     have s4 := kp_cellD (Kp.draw wr 1) o3
     have s5 := kp_cellD (Kp.draw wr 1) o4
     by_cases c1 : (x.a : Int) ≤ a
     · have e1 : decide ((x.a : Int) ≤ a) = true := decide_eq_true c1
       by_cases c2 : a < (x.a : Int) + (x.o.wd : Int)
       · have e2 : decide (a < (x.a : Int) + (x.o.wd : Int)) = true := decide_eq_true c2
         have HZ : Hid (m.ownI a = x.a ∧ m.findE a = 0) := by
           obtain ⟨a, rfl⟩ : ∃ k : Nat, a = (k : Int) := ⟨a.toNat, by omega⟩
           have h := own_cov HIN.out HOB.out (k := a) (by omega) (by omega)
           have h2 : m.ownI (a : Int) = x.a := by unfold HM.ownI; rw [if_pos (by omega), Int.toNat_natCast, h]
           have h3 := HIN.out.lo HOB.out
           exact ⟨h2, by unfold HM.findE; rw [if_neg (by omega)]⟩
         clear c1 c2
         go_wp2_with (fail)
         go_region_held3 (fun W => W.cell? ⟨d.g, 1, none⟩ = some (.slice (some ⟨g, 0, none⟩) d.os.length cap) ∧ W.cell? ⟨g, k * 8, none⟩ = some (.int .i64 (x.a : Int)) ∧ W.cell? ⟨g, k * 8 + 2, none⟩ = some (.int .i64 (x.o.refs : Int)) ∧ W.cell? ⟨g, k * 8 + 3, none⟩ = some (.int .i64 (x.o.data : Int)) ∧ W.cell? ⟨g, k * 8 + 4, none⟩ = some (.int .i64 (x.o.kind : Int))) (go_keep)
           (first | (go_at_call 153; refine (r_words _ _ _ _).mono ?_; rintro e w5 ⟨rfl, K5⟩; rw [HWD.out]; have HK5 := hid ((Kp.draw wr 1).chain K5); have u1 := kp_cellD K5 s1; have u2 := kp_cellD K5 s2; have u3 := kp_cellD K5 s3; have u4 := kp_cellD K5 s4; have u5 := kp_cellD K5 s5; clear K5))
         all_goals (
           go_wp2
           go_ret2
           rw [HZ.out.1, HZ.out.2]
           exact ⟨rfl, by first | exact HKR.out.chain HK5.out | exact HKR.out⟩)
       · have e2 : decide (a < (x.a : Int) + (x.o.wd : Int)) = false := decide_eq_false c2
         have HK' : Hid (∀ j, j < k + 1 → ∀ y, d.os[j]? = some y → ¬ ((y.a : Int) ≤ a ∧ a < (y.a : Int) + (y.o.wd : Int))) := fun j h1 y hy => by
           by_cases hj : j < k
           · exact HK.out j hj y hy
           · obtain rfl : j = k := by omega
             rw [HX.out] at hy
             cases hy
             omega
         clear c1 c2
         go_wp2_with (fail)
         go_region_held3 (fun W => W.cell? ⟨d.g, 1, none⟩ = some (.slice (some ⟨g, 0, none⟩) d.os.length cap) ∧ W.cell? ⟨g, k * 8, none⟩ = some (.int .i64 (x.a : Int)) ∧ W.cell? ⟨g, k * 8 + 2, none⟩ = some (.int .i64 (x.o.refs : Int)) ∧ W.cell? ⟨g, k * 8 + 3, none⟩ = some (.int .i64 (x.o.data : Int)) ∧ W.cell? ⟨g, k * 8 + 4, none⟩ = some (.int .i64 (x.o.kind : Int))) (go_keep)
           (first | (go_at_call 153; refine (r_words _ _ _ _).mono ?_; rintro e w5 ⟨rfl, K5⟩; rw [HWD.out]; have HK5 := hid ((Kp.draw wr 1).chain K5); have u1 := kp_cellD K5 s1; have u2 := kp_cellD K5 s2; have u3 := kp_cellD K5 s3; have u4 := kp_cellD K5 s4; have u5 := kp_cellD K5 s5; clear K5))
         all_goals (
           go_wp2
           go_roundw
           case rel => exact ⟨k + 1, by omega, HK', by go_num, by first | exact HKR.out.chain HK5.out | exact HKR.out⟩
           case measure => simp [intOf]; omega)
     · have e1 : decide ((x.a : Int) ≤ a) = false := decide_eq_false c1
       have HK' : Hid (∀ j, j < k + 1 → ∀ y, d.os[j]? = some y → ¬ ((y.a : Int) ≤ a ∧ a < (y.a : Int) + (y.o.wd : Int))) := fun j h1 y hy => by
         by_cases hj : j < k
         · exact HK.out j hj y hy
         · obtain rfl : j = k := by omega
           rw [HX.out] at hy
           cases hy
           omega
       clear c1
       go_wp2_with (fail)
       go_quiet (fail)
       go_wp2
       go_roundw
       case rel => exact ⟨k + 1, by omega, HK', by go_num, by first | exact HKR.out | exact HKR.out.chain (Kp.draw _ _)⟩
       case measure => simp [intOf]; omega
   · obtain rfl : k = d.os.length := by omega
     have HZ : Hid (m.ownI a = 0 ∧ m.findE a = 4) := by
       have h2 : m.ownI a = 0 := by
         unfold HM.ownI
         split
         · refine own_gap ?_
           rintro ⟨b, o, h3, h4, h5⟩
           obtain ⟨i, x, hi, h6, h7⟩ := HT.out.lst.get h3
           subst h6 h7
           exact HK.out i (List.getElem?_eq_some_iff.1 hi).1 x hi ⟨by omega, by omega⟩
         · rfl
       exact ⟨h2, by unfold HM.findE; rw [if_pos h2]⟩
     go_wp2
     go_ret2
     rw [HZ.out.1, HZ.out.2]
     exact ⟨rfl, HKR.out⟩
end
section
variable {w w' W : World} {d : DB} {q : Nat} {m : HM}
theorem own_at_ob (I : m.Inv) {k : Nat} (h : m.own k ≠ 0) : ∃ o, m.ob (m.own k) = some o ∧ m.own k ≤ k ∧ k < m.own k + o.wd := by
 rcases own_cases I k with ⟨a, o, h0, h1, h2, h3⟩ | ⟨h1, h2⟩
 · rw [h3]; exact ⟨o, h0, h1, h2⟩
 · exact absurd h2 h
theorem d_wordAt (T : DR w d q m) (a : Int) :
   Calls Tryz.prog 155 #[.pointer (some ⟨d.g, 0, none⟩), .int .i64 a] w fun e w' => e = .returned (.tuple #[.int .i64 (m.wordV a), .int .i64 (if inB m.n a then 0 else 1)]) ∧ Kp [] w w' := by
 have HT := hid T
 have hnb := T.inv.n_bd
 rcases hb : inB m.n a
 · have e1 : m.wordV a = 0 := by simp [HM.wordV, hb]
   rw [e1, if_neg (by simp)]
   have HB := hid hb
   clear T hb e1
   go_enter Tryz.func155, Tryz.ntmps155
   go_wp2_with (first
     | (go_at_call 60; refine (d_made HT.out).mono ?_; rintro e w' ⟨rfl, n1, rfl⟩)
     | (go_at_call 147; refine (d_word (HT.out.drewN n1) a).mono ?_; rintro e w' ⟨rfl, n2, rfl⟩; rw [HB.out]))
   go_ret2
   exact ⟨rfl, (by first | exact Kp.draw _ _ | exact (Kp.draw _ _).drewN _ | exact ((Kp.draw _ _).drewN _).drewN _ | exact (((Kp.draw _ _).drewN _).drewN _).drewN _)⟩
 · rw [if_pos rfl]
   have HB := hid hb
   have hbd := of_decide_eq_true hb
   obtain ⟨k, rfl⟩ : ∃ k : Nat, a = (k : Int) := ⟨a.toNat, by omega⟩
   have HW64 : Hid (W64 (k : Int)) := ⟨by omega, by omega⟩
   have hko : m.ownI (k : Int) = m.own k := by unfold HM.ownI; rw [if_pos (by omega), Int.toNat_natCast]
   by_cases h0 : m.own k = 0
   · have e1 : m.wordV (k : Int) = 0 := by
       unfold HM.wordV
       rw [if_pos hb, Int.toNat_natCast, h0]
       rcases ho : m.ob 0 with _ | o
       · rfl
       · have := T.inv.lo ho; omega
     have HF : Hid (m.ownI (k : Int) = 0 ∧ m.findE (k : Int) = 4) := ⟨by rw [hko, h0], by unfold HM.findE; rw [hko, if_pos h0]⟩
     rw [e1]
     clear T hb e1 h0 hko
     go_enter Tryz.func155, Tryz.ntmps155
     go_wp2_with (first
       | (go_at_call 60; refine (d_made HT.out).mono ?_; rintro e w' ⟨rfl, n1, rfl⟩)
       | (go_at_call 147; refine (d_word (HT.out.drewN n1) _).mono ?_; rintro e w' ⟨rfl, n2, rfl⟩; rw [HB.out])
       | (go_at_call 148; refine (d_find (by first | exact HT.out.drewN _ | exact (HT.out.drewN _).drewN _) _ HW64.out).mono ?_; rintro e w3 ⟨rfl, K3⟩; rw [HF.out.1, HF.out.2]; have HK3 := hid ((Kp.draw w _).chain K3); clear K3))
     go_ret2
     exact ⟨rfl, HK3.out⟩
   · obtain ⟨o, ho, h1, h2⟩ := own_at_ob T.inv h0
     obtain ⟨i, x, hi, hx, hxo⟩ := T.lst.get ho
     subst hxo
     have HF : Hid (m.ownI (k : Int) = x.a ∧ m.findE (k : Int) = 0) := ⟨by rw [hko, hx], by unfold HM.findE; rw [hko, if_neg h0]⟩
     obtain ⟨j, hkj⟩ : ∃ j, k = x.a + j := ⟨k - x.a, by omega⟩
     have HW : Hid (m.wordV (k : Int) = x.o.word j) := by
       show _ = _
       unfold HM.wordV
       rw [if_pos hb, Int.toNat_natCast, ho]
       simp only
       rw [← hx, hkj, Nat.add_sub_cancel_left]
     have HIB : Hid (inB m.n (k : Int) = true) := hb
     have hok := T.ok hi
     have hbd2 := hok.bd
     have hlen := T.len
     have hil := (List.getElem?_eq_some_iff.1 hi).1
     have hhi := T.inv.hi (T.lst.ob hi)
     have hwd := hok.wd_bd
     have hjw : j < x.o.wd := by omega
     have HOK := hid hok
     have HE := hid (T.lst.ix_at hi)
     have HI := hid hi
     have HKJ := hid hkj
     clear T hb h0 hko ho h1 h2 hi hx hok hkj
     go_enter Tryz.func155, Tryz.ntmps155
     go_wp2_with (first
       | (go_at_call 60; refine (d_made HT.out).mono ?_; rintro e w' ⟨rfl, n1, rfl⟩)
       | (go_at_call 147; refine (d_word (HT.out.drewN n1) _).mono ?_; rintro e w' ⟨rfl, n2, rfl⟩; rw [HB.out])
       | (go_at_call 148; refine (d_find (by first | exact HT.out.drewN _ | exact (HT.out.drewN _).drewN _) _ HW64.out).mono ?_; rintro e w1 ⟨rfl, K3⟩; rw [HF.out.1, HF.out.2]; have HK1 := hid ((Kp.draw w _).chain K3); clear K3))
     have HT1 := hid (HT.out.kp0 HK1.out)
     obtain ⟨g, cap, hov, _, _, hgm, hO, _⟩ := HT1.out.ocell HI.out
     have hc1 := HT1.out.c1
     rw [hov] at hc1
     have HO := hid hO
     have HLT : Hid (d.g < w1.heap.size ∧ g < w1.heap.size) := ⟨HT1.out.lt _ (by simp [DB.all]), HT1.out.lt _ hgm⟩
     have HSZ : Hid (w.heap.size ≤ w1.heap.size) := HK1.out.size
     have hkj := HKJ.out
     have hsj0 : (k : Int) - (x.a : Int) = (j : Int) := by omega
     clear hO hov hgm hkj
     refine wp_region_held_drew (S := fun W => IX W d g d.os.length cap i x) (by kernel_rfl) ?_ (fun hHeld => ?_)
     · exact ⟨kp_cellD (Kp.draw _ 1) hc1, HO.out.kp0 (Kp.draw _ 1)⟩
     refine tk0 0 rfl ?_
     refine tk0 1 rfl ?_
     refine tk0 2 rfl ?_
     refine tk 3 rfl (Or.inl ⟨by rfl, by (intro wz hSw; have hcj := hSw.s; go_simp; try with_reducible rfl)⟩) ?_
     refine tk0 4 rfl ?_
     refine tk0 5 rfl ?_
     refine wpAnyH_ready (rs := [6, 9]) (by kernel_rfl) (by simp) ?_
     refine (AllReadyH.cons rfl (fun K hK => ?_) (AllReadyH.cons rfl (fun K hK => ?_) AllReadyH.nil))
     · go_simp
       refine (d_index (HT1.out.kp0 (Kp.draw _ 1)) _).mono ?_
       rintro e w2 ⟨rfl, h2⟩
       rw [HE.out]
       have HK2 := hid ((Kp.draw w1 1).chain (Kp.of_drewN h2))
       have HJ2 := hid (Kp.of_drewN h2)
       clear h2
       try go_wp2_with fail
       refine hK.out _ _ ?_ (fun hHeld => ?_)
       · exact hHeld.kp0 HJ2.out
       clear hK K
       refine tk0 7 rfl ?_
       refine tk 8 rfl (Or.inl ⟨by rfl, by (intro wz hSw; have hcj := hSw.o; have k0 := hcj.c0; have k1 := hcj.c1; have k2 := hcj.c2; have k3 := hcj.c3; have k4 := hcj.c4; have k5 := hcj.c5; have k6 := hcj.c6; have k7 := hcj.c7; go_simp; try with_reducible rfl)⟩) ?_
       refine rd 9 rfl fun K hK => ?_
       go_simp
       refine hK.out _ _ ?_ (fun hHeld => ?_)
       · exact hHeld.kp0 (Kp.new _ _)
       clear hK K
       refine rd 10 rfl fun K hK => ?_
       obtain ⟨hth, hkb, hrb⟩ := obox (g := w2.heap.size) (Blk.new w2 109 #[.int .i64 0, .int .i64 0, .int .i64 0, .int .i64 0, .int .i64 0, .slice none 0 0, .slice none 0 0, .bool false]) rfl (HK1.out.chain (HK2.out.chain (Kp.new _ _))) (by have := HSZ.out; have := HK2.out.size; simp at this ⊢; omega) #[.int .i64 (x.a : Int), .int .i64 (x.o.id : Int), .int .i64 (x.o.refs : Int), .int .i64 (x.o.data : Int), .int .i64 (x.o.kind : Int), .slice (some ⟨x.rb, 0, none⟩) x.o.refs x.rc, .slice (some ⟨x.db, 0, none⟩) x.o.data x.dc, .bool x.o.pin] rfl
       have HKB := hid hkb
       have HRB := hid hrb
       refine step_store_midD (by rfl) 109 (.tmp 8) (.tmp 33) (by rfl) w2.heap.size 0 #[.int .i64 (x.a : Int), .int .i64 (x.o.id : Int), .int .i64 (x.o.refs : Int), .int .i64 (x.o.data : Int), .int .i64 (x.o.kind : Int), .slice (some ⟨x.rb, 0, none⟩) x.o.refs x.rc, .slice (some ⟨x.db, 0, none⟩) x.o.data x.dc, .bool x.o.pin] (by rfl) (by rfl) hth objInfo (objOne x) ?_
       clear hth hkb hrb
       refine hK.out _ _ ?_ (fun hHeld => ?_)
       · exact hHeld.kp (Kp.setCells _ _ _ _) (by have := HLT.out.1; have := HK2.out.size; simp at this ⊢; omega) (by have := HLT.out.2; have := HK2.out.size; simp at this ⊢; omega)
       clear hK K
       refine wpAnyH_done (by kernel_rfl) ?_ _
       clear hHeld
       have hrb := HRB.out
       generalize (w2.alloc (.cells #[.int .i64 0, .int .i64 0, .int .i64 0, .int .i64 0, .int .i64 0, .slice none 0 0, .slice none 0 0, .bool false] 109)).setCells w2.heap.size 0 (#[.int .i64 (x.a : Int), .int .i64 (x.o.id : Int), .int .i64 (x.o.refs : Int), .int .i64 (x.o.data : Int), .int .i64 (x.o.kind : Int), .slice (some ⟨x.rb, 0, none⟩) x.o.refs x.rc, .slice (some ⟨x.db, 0, none⟩) x.o.data x.dc, .bool x.o.pin] : Array Value).toList = V at HKB hrb ⊢
       have k1 : V.cell? ⟨w2.heap.size, 1, none⟩ = some (.int .i64 (x.o.id : Int)) := hrb 1 _ rfl
       have k2 : V.cell? ⟨w2.heap.size, 2, none⟩ = some (.int .i64 (x.o.refs : Int)) := hrb 2 _ rfl
       have k3 : V.cell? ⟨w2.heap.size, 3, none⟩ = some (.int .i64 (x.o.data : Int)) := hrb 3 _ rfl
       have k4 : V.cell? ⟨w2.heap.size, 4, none⟩ = some (.int .i64 (x.o.kind : Int)) := hrb 4 _ rfl
       have k5 : V.cell? ⟨w2.heap.size, 5, none⟩ = some (.slice (some ⟨x.rb, 0, none⟩) x.o.refs x.rc) := hrb 5 _ rfl
       have k6 : V.cell? ⟨w2.heap.size, 6, none⟩ = some (.slice (some ⟨x.db, 0, none⟩) x.o.data x.dc) := hrb 6 _ rfl
       have HKV := hid HKB.out
       clear hrb
       by_cases j0 : j = 0
       · have HV : Hid (m.wordV (k : Int) = (x.o.id : Int)) := by show _ = _; rw [HW.out, j0]; simp [Ob.word]
         have z0 : ((j : Int) == 0) = true := beq_iff_eq.2 (by omega)
         clear j0
         go_wp2
         go_ret2
         rw [HV.out]
         exact ⟨rfl, HKV.out⟩
       · have z0 : ((j : Int) == 0) = false := beq_eq_false_iff_ne.2 (by omega)
         by_cases j1 : j = 1
         · have HV : Hid (m.wordV (k : Int) = (x.o.refs : Int) + 16 * (x.o.data : Int) + 4096 * (x.o.kind : Int)) := by show _ = _; rw [HW.out, j1]; simp [Ob.word, Ob.sh, shN]
           have z1 : ((j : Int) == 1) = true := beq_iff_eq.2 (by omega)
           clear j0 j1
           go_wp2
           go_ret2
           rw [HV.out]
           exact ⟨rfl, HKV.out⟩
         · have z1 : ((j : Int) == 1) = false := beq_eq_false_iff_ne.2 (by omega)
           obtain ⟨i2, hi2⟩ : ∃ i2, j = i2 + 2 := ⟨j - 2, by omega⟩
           have hsub : (j : Int) - 2 = (i2 : Int) := by omega
           have HI2 := hid hi2
           by_cases c2 : i2 < x.o.refs
           · have hrc := cell_kp HKV.out (HT.out.rcell HI.out c2)
             have HV : Hid (m.wordV (k : Int) = x.o.fs.getD i2 0) := by show _ = _; rw [HW.out, hi2]; simp [Ob.word]
             generalize x.o.fs.getD i2 0 = y at hrc HV
             have e1 : decide ((j : Int) < 2 + (x.o.refs : Int)) = true := decide_eq_true (by omega)
             clear j0 j1 hi2
             go_wp2
             go_ret2
             rw [HV.out]
             exact ⟨rfl, HKV.out⟩
           · have e1 : decide ((j : Int) < 2 + (x.o.refs : Int)) = false := decide_eq_false (by omega)
             by_cases c3 : i2 < x.o.refs + x.o.data
             · obtain ⟨i3, hi3⟩ : ∃ i3, i2 = x.o.refs + i3 := ⟨i2 - x.o.refs, by omega⟩
               have h3 : i3 < x.o.data := by omega
               have hdc := cell_kp HKV.out (HT.out.dcell HI.out h3)
               have HV : Hid (m.wordV (k : Int) = x.o.fs.getD (x.o.refs + i3) 0) := by show _ = _; rw [HW.out, hi2, hi3]; simp [Ob.word]
               generalize x.o.fs.getD (x.o.refs + i3) 0 = y at hdc HV
               have e2 : decide ((j : Int) < 2 + (x.o.refs : Int) + (x.o.data : Int)) = true := decide_eq_true (by omega)
               have hsub2 : (i2 : Int) - (x.o.refs : Int) = (i3 : Int) := by omega
               clear j0 j1 hi2 hi3 c2 c3
               go_wp2
               go_ret2
               rw [HV.out]
               exact ⟨rfl, HKV.out⟩
             · have HV : Hid (m.wordV (k : Int) = 0) := by
                 show _ = _
                 rw [HW.out, hi2]
                 simp only [Ob.word]
                 rw [if_neg (by omega), if_neg (by omega), List.getD_eq_getElem?_getD, List.getElem?_eq_none (by rw [HOK.out.len]; omega)]
                 rfl
               have e2 : decide ((j : Int) < 2 + (x.o.refs : Int) + (x.o.data : Int)) = false := decide_eq_false (by omega)
               clear j0 j1 hi2 c2 c3
               go_wp2
               go_ret2
               rw [HV.out]
               exact ⟨rfl, HKV.out⟩
     · go_simp
       refine hK.out _ _ ?_ (fun hHeld => ?_)
       · exact hHeld.kp0 (Kp.new _ _)
       clear hK K
       refine rd 6 rfl fun K hK => ?_
       go_simp
       refine (d_index (HT1.out.kp0 ((Kp.draw _ 1).chain (Kp.new _ _))) _).mono ?_
       rintro e w2 ⟨rfl, h2⟩
       rw [HE.out]
       have HK2 := hid ((((Kp.draw w1 1).chain (Kp.new _ (.cells #[.int .i64 0, .int .i64 0, .int .i64 0, .int .i64 0, .int .i64 0, .slice none 0 0, .slice none 0 0, .bool false] 109)))).chain (Kp.of_drewN h2))
       have HJ2 := hid (Kp.of_drewN h2)
       clear h2
       try go_wp2_with fail
       refine hK.out _ _ ?_ (fun hHeld => ?_)
       · exact hHeld.kp0 HJ2.out
       clear hK K
       refine tk0 7 rfl ?_
       refine tk 8 rfl (Or.inl ⟨by rfl, by (intro wz hSw; have hcj := hSw.o; have k0 := hcj.c0; have k1 := hcj.c1; have k2 := hcj.c2; have k3 := hcj.c3; have k4 := hcj.c4; have k5 := hcj.c5; have k6 := hcj.c6; have k7 := hcj.c7; go_simp; try with_reducible rfl)⟩) ?_
       refine rd 10 rfl fun K hK => ?_
       obtain ⟨hth, hkb, hrb⟩ := obox (g := w1.heap.size) (((Blk.new w1.drew 109 #[.int .i64 0, .int .i64 0, .int .i64 0, .int .i64 0, .int .i64 0, .slice none 0 0, .slice none 0 0, .bool false]).kp HJ2.out (by simp) : Blk w2 w1.heap.size _ _)) rfl (HK1.out.chain (HK2.out)) (by have := HSZ.out; have := HK2.out.size; simp at this ⊢; omega) #[.int .i64 (x.a : Int), .int .i64 (x.o.id : Int), .int .i64 (x.o.refs : Int), .int .i64 (x.o.data : Int), .int .i64 (x.o.kind : Int), .slice (some ⟨x.rb, 0, none⟩) x.o.refs x.rc, .slice (some ⟨x.db, 0, none⟩) x.o.data x.dc, .bool x.o.pin] rfl
       have HKB := hid hkb
       have HRB := hid hrb
       refine step_store_midD (by rfl) 109 (.tmp 8) (.tmp 33) (by rfl) w1.heap.size 0 #[.int .i64 (x.a : Int), .int .i64 (x.o.id : Int), .int .i64 (x.o.refs : Int), .int .i64 (x.o.data : Int), .int .i64 (x.o.kind : Int), .slice (some ⟨x.rb, 0, none⟩) x.o.refs x.rc, .slice (some ⟨x.db, 0, none⟩) x.o.data x.dc, .bool x.o.pin] (by rfl) (by rfl) hth objInfo (objOne x) ?_
       clear hth hkb hrb
       refine hK.out _ _ ?_ (fun hHeld => ?_)
       · exact hHeld.kp (Kp.setCells _ _ _ _) (by have := HLT.out.1; have := HK2.out.size; simp at this ⊢; omega) (by have := HLT.out.2; have := HK2.out.size; simp at this ⊢; omega)
       clear hK K
       refine wpAnyH_done (by kernel_rfl) ?_ _
       clear hHeld
       have hrb := HRB.out
       generalize (w2).setCells w1.heap.size 0 (#[.int .i64 (x.a : Int), .int .i64 (x.o.id : Int), .int .i64 (x.o.refs : Int), .int .i64 (x.o.data : Int), .int .i64 (x.o.kind : Int), .slice (some ⟨x.rb, 0, none⟩) x.o.refs x.rc, .slice (some ⟨x.db, 0, none⟩) x.o.data x.dc, .bool x.o.pin] : Array Value).toList = V at HKB hrb ⊢
       have k1 : V.cell? ⟨w1.heap.size, 1, none⟩ = some (.int .i64 (x.o.id : Int)) := hrb 1 _ rfl
       have k2 : V.cell? ⟨w1.heap.size, 2, none⟩ = some (.int .i64 (x.o.refs : Int)) := hrb 2 _ rfl
       have k3 : V.cell? ⟨w1.heap.size, 3, none⟩ = some (.int .i64 (x.o.data : Int)) := hrb 3 _ rfl
       have k4 : V.cell? ⟨w1.heap.size, 4, none⟩ = some (.int .i64 (x.o.kind : Int)) := hrb 4 _ rfl
       have k5 : V.cell? ⟨w1.heap.size, 5, none⟩ = some (.slice (some ⟨x.rb, 0, none⟩) x.o.refs x.rc) := hrb 5 _ rfl
       have k6 : V.cell? ⟨w1.heap.size, 6, none⟩ = some (.slice (some ⟨x.db, 0, none⟩) x.o.data x.dc) := hrb 6 _ rfl
       have HKV := hid HKB.out
       clear hrb
       by_cases j0 : j = 0
       · have HV : Hid (m.wordV (k : Int) = (x.o.id : Int)) := by show _ = _; rw [HW.out, j0]; simp [Ob.word]
         have z0 : ((j : Int) == 0) = true := beq_iff_eq.2 (by omega)
         clear j0
         go_wp2
         go_ret2
         rw [HV.out]
         exact ⟨rfl, HKV.out⟩
       · have z0 : ((j : Int) == 0) = false := beq_eq_false_iff_ne.2 (by omega)
         by_cases j1 : j = 1
         · have HV : Hid (m.wordV (k : Int) = (x.o.refs : Int) + 16 * (x.o.data : Int) + 4096 * (x.o.kind : Int)) := by show _ = _; rw [HW.out, j1]; simp [Ob.word, Ob.sh, shN]
           have z1 : ((j : Int) == 1) = true := beq_iff_eq.2 (by omega)
           clear j0 j1
           go_wp2
           go_ret2
           rw [HV.out]
           exact ⟨rfl, HKV.out⟩
         · have z1 : ((j : Int) == 1) = false := beq_eq_false_iff_ne.2 (by omega)
           obtain ⟨i2, hi2⟩ : ∃ i2, j = i2 + 2 := ⟨j - 2, by omega⟩
           have hsub : (j : Int) - 2 = (i2 : Int) := by omega
           have HI2 := hid hi2
           by_cases c2 : i2 < x.o.refs
           · have hrc := cell_kp HKV.out (HT.out.rcell HI.out c2)
             have HV : Hid (m.wordV (k : Int) = x.o.fs.getD i2 0) := by show _ = _; rw [HW.out, hi2]; simp [Ob.word]
             generalize x.o.fs.getD i2 0 = y at hrc HV
             have e1 : decide ((j : Int) < 2 + (x.o.refs : Int)) = true := decide_eq_true (by omega)
             clear j0 j1 hi2
             go_wp2
             go_ret2
             rw [HV.out]
             exact ⟨rfl, HKV.out⟩
           · have e1 : decide ((j : Int) < 2 + (x.o.refs : Int)) = false := decide_eq_false (by omega)
             by_cases c3 : i2 < x.o.refs + x.o.data
             · obtain ⟨i3, hi3⟩ : ∃ i3, i2 = x.o.refs + i3 := ⟨i2 - x.o.refs, by omega⟩
               have h3 : i3 < x.o.data := by omega
               have hdc := cell_kp HKV.out (HT.out.dcell HI.out h3)
               have HV : Hid (m.wordV (k : Int) = x.o.fs.getD (x.o.refs + i3) 0) := by show _ = _; rw [HW.out, hi2, hi3]; simp [Ob.word]
               generalize x.o.fs.getD (x.o.refs + i3) 0 = y at hdc HV
               have e2 : decide ((j : Int) < 2 + (x.o.refs : Int) + (x.o.data : Int)) = true := decide_eq_true (by omega)
               have hsub2 : (i2 : Int) - (x.o.refs : Int) = (i3 : Int) := by omega
               clear j0 j1 hi2 hi3 c2 c3
               go_wp2
               go_ret2
               rw [HV.out]
               exact ⟨rfl, HKV.out⟩
             · have HV : Hid (m.wordV (k : Int) = 0) := by
                 show _ = _
                 rw [HW.out, hi2]
                 simp only [Ob.word]
                 rw [if_neg (by omega), if_neg (by omega), List.getD_eq_getElem?_getD, List.getElem?_eq_none (by rw [HOK.out.len]; omega)]
                 rfl
               have e2 : decide ((j : Int) < 2 + (x.o.refs : Int) + (x.o.data : Int)) = false := decide_eq_false (by omega)
               clear j0 j1 hi2 c2 c3
               go_wp2
               go_ret2
               rw [HV.out]
               exact ⟨rfl, HKV.out⟩
end
section
variable {w w' W : World} {d : DB} {q : Nat} {m : HM}
end
end Go.Proofs.YthndilllnneijaaGreat
