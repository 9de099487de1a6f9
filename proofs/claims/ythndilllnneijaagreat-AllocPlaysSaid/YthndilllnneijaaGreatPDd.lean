/-
  The contracts of the document's heap's Ref, Data, Shape, Find. Conditions: those that stand in each theorem.
-/
import Derived.BigQuiet
import Derived.Deep.RegionHeld3
import Derived.Test.YthndilllnneijaaGreatPG10
import Derived.Test.YthndilllnneijaaGreatPG12
set_option linter.unusedSimpArgs false
set_option linter.unusedVariables false
set_option maxRecDepth 100000
set_option maxHeartbeats 400000
namespace Go.Proofs.YthndilllnneijaaGreat
open Go.RowKit Go.Deep Go.Maps
theorem objInfo : (Tryz.prog.info? 109).map (·.size) = some 8 := by kernel_rfl
theorem objOne (x : DO) : (#[.int .i64 (x.a : Int), .int .i64 (x.o.id : Int), .int .i64 (x.o.refs : Int), .int .i64 (x.o.data : Int), .int .i64 (x.o.kind : Int), .slice (some ⟨x.rb, 0, none⟩) x.o.refs x.rc, .slice (some ⟨x.db, 0, none⟩) x.o.data x.dc, .bool x.o.pin] : Array Value).all (·.oneCell') = true := all_oneCell_toArray (cs := x.cells) (fun v hv => ocells_one [x] v (by simpa [ocells] using hv))
theorem step_store_midD {ops : Array Oper} {o : Oper} {a : Act} {w : World} {K : Act → World → Prop} {Q : Exit → Act → World → Prop} {E : Prop} (hgd : o.guard = none) (ty : TypeId) (x y : Operand) (ho : o.op = .store ty x y)
   (b o' : Nat) (cells : Array Value) (hx : a.eval x = .pointer (some ⟨b, o', none⟩)) (hy : a.eval y = .agg cells) (ht : w.there b o' cells.size) (hi : (Tryz.prog.info? ty).map (·.size) = some cells.size) (h1 : cells.all (·.oneCell') = true)
   (h : K (a.put o.dst undef) (w.setCells b o' cells.toList)) : if Region.wanted o (yielded ops a.tmps) = true then Oper.wp Tryz.prog o a w K Q else E := by
 have hw : Region.wanted o (yielded ops a.tmps) = true := by simp [Region.wanted, hgd]
 rw [if_pos hw]
 exact wp_store_mid ty x y ho b o' cells hx hy ht hi h1 h
theorem obox {w W : World} {g : Nat} {T : TypeId} {cs : Array Value} (hB : Blk W g T cs) (hc : cs.size = 8) (hk : Kp [] w W) (hg : w.heap.size ≤ g) (vs : Array Value) (hv : vs.size = 8) : W.there g 0 vs.size ∧ Kp [] w (W.setCells g 0 vs.toList) ∧ ∀ j v, vs.toList[j]? = some v → (W.setCells g 0 vs.toList).cell? ⟨g, j, none⟩ = some v := by
 have ht : W.there g 0 vs.size := fun j hj => by
   refine ⟨?_, ?_⟩
   · rw [Nat.zero_add, hB.cell j, Array.getElem?_eq_getElem (by omega)]; rfl
   · rw [Nat.zero_add]; exact hB.frozen j
 exact ⟨ht, hk.trans (Kp.setCells _ _ _ _) (by simp) (by simp; exact hg), fun j v hj => by have := World.rangeAt_setCells_same W g 0 vs.toList (by simpa using ht) j v hj; rwa [Nat.zero_add] at this⟩
theorem kp_cellD {w W : World} {g i : Nat} {u : Value} (k : Kp [] w W) (h : w.cell? ⟨g, i, none⟩ = some u) : W.cell? ⟨g, i, none⟩ = some u := cell_kp k h
theorem OCell.kp {S : List Nat} {w W : World} {g i : Nat} {x : DO} (h : OCell w g i x) (k : Kp S w W) (hS : g ∉ S) : OCell W g i x :=
 ⟨cell_kps k h.c0 hS, cell_kps k h.c1 hS, cell_kps k h.c2 hS, cell_kps k h.c3 hS, cell_kps k h.c4 hS, cell_kps k h.c5 hS, cell_kps k h.c6 hS, cell_kps k h.c7 hS⟩
theorem OCell.kp0 {w W : World} {g i : Nat} {x : DO} (h : OCell w g i x) (k : Kp [] w W) : OCell W g i x := h.kp k (by simp)
structure IX (W : World) (d : DB) (g n cap i : Nat) (x : DO) : Prop where
 s : W.cell? ⟨d.g, 1, none⟩ = some (.slice (some ⟨g, 0, none⟩) n cap)
 o : OCell W g i x
theorem IX.kp {S : List Nat} {w W : World} {d : DB} {g n cap i : Nat} {x : DO} (h : IX w d g n cap i x) (k : Kp S w W) (h1 : d.g ∉ S) (h2 : g ∉ S) : IX W d g n cap i x := ⟨cell_kps k h.s h1, h.o.kp k h2⟩
theorem IX.kp0 {w W : World} {d : DB} {g n cap i : Nat} {x : DO} (h : IX w d g n cap i x) (k : Kp [] w W) : IX W d g n cap i x := h.kp k (by simp) (by simp)
section
variable {w w' W : World} {d : DB} {q : Nat} {m : HM}
theorem d_ref (T : DR w d q m) (a j : Int) :
   Calls Tryz.prog 162 #[.pointer (some ⟨d.g, 0, none⟩), .int .i64 a, .int .i64 j] w fun e w' => e = .returned (.tuple #[.int .i64 (m.refG a j), .int .i64 (m.refE a j)]) ∧ Kp [] w w' := by
 have HT := hid T
 rcases hh : m.has a
 · have e2 : m.refE a j = 4 := by simp [HM.refE, hh]
   have e1 : m.refG a j = 0 := by simp [HM.refG, e2]
   have e3 : m.lackE a = 4 := by simp [HM.lackE, hh]
   rw [e1, e2]
   have HL := hid e3
   clear T hh e1 e2 e3
   go_enter Tryz.func162, Tryz.ntmps162
   go_wp2_with (go_at_call 139; refine (d_lacks HT.out a).mono ?_; rintro e w1 ⟨rfl, h1⟩; rw [HL.out]; have HK := hid (Kp.of_drewN h1); clear h1)
   go_ret2
   exact ⟨rfl, HK.out⟩
 · obtain ⟨i, x, hi, hx, hix, ho⟩ := T.lst.ix hh
   have e3 : m.lackE a = 0 := by simp [HM.lackE, hh]
   have HL := hid e3
   have HHO := hid (And.intro hh ho)
   have hok := T.ok hi
   have hbd := hok.bd
   have hlen := T.len
   have hil := (List.getElem?_eq_some_iff.1 hi).1
   have HE := hid hix
   have HI := hid hi
   clear T hh hi hx hix ho e3 hok
   go_enter Tryz.func162, Tryz.ntmps162
   go_wp2_with (go_at_call 139; refine (d_lacks HT.out a).mono ?_; rintro e w1 ⟨rfl, h1⟩; rw [HL.out]; have HK1 := hid (Kp.of_drewN h1); clear h1)
   have HT1 := hid (HT.out.kp0 HK1.out)
   obtain ⟨g, cap, hov, _, _, hgm, hO, _⟩ := HT1.out.ocell HI.out
   have hc1 := HT1.out.c1
   rw [hov] at hc1
   have HO := hid hO
   have HLT : Hid (d.g < w1.heap.size ∧ g < w1.heap.size) := ⟨HT1.out.lt _ (by simp [DB.all]), HT1.out.lt _ hgm⟩
   have HSZ : Hid (w.heap.size ≤ w1.heap.size) := HK1.out.size
   clear hO hov hgm
   refine wp_region_held_drew (S := fun W => IX W d g d.os.length cap i x) (by kernel_rfl) ?_ (fun hHeld => ?_)
   · exact ⟨kp_cellD (Kp.draw _ 1) hc1, HO.out.kp0 (Kp.draw _ 1)⟩
   refine tk0 0 rfl ?_
   refine tk0 1 rfl ?_
   refine tk0 2 rfl ?_
   refine tk 3 rfl (Or.inl ⟨by rfl, by (intro wz hSw; have hcj := hSw.s; go_simp; try with_reducible rfl)⟩) ?_
   refine tk0 4 rfl ?_
   refine tk0 5 rfl ?_
   refine wpAnyH_ready (rs := [6, 9]) (by kernel_rfl) (by simp) ?_
   refine (AllReadyH.cons rfl (fun K hK => ?_) (AllReadyH.cons rfl (fun K hK => ?_) AllReadyH.nil))
   · go_simp
     refine (d_index (HT1.out.kp0 (Kp.draw _ 1)) a).mono ?_
     rintro e w2 ⟨rfl, h2⟩
     rw [HE.out]
     have HK2 := hid ((Kp.draw w1 1).chain (Kp.of_drewN h2))
     have HJ2 := hid (Kp.of_drewN h2)
     clear h2
     try go_wp2_with fail
     refine hK.out _ _ ?_ (fun hHeld => ?_)
     · exact hHeld.kp0 HJ2.out
     clear hK K
     refine tk0 7 rfl ?_
     refine tk 8 rfl (Or.inl ⟨by rfl, by (intro wz hSw; have hcj := hSw.o; have k0 := hcj.c0; have k1 := hcj.c1; have k2 := hcj.c2; have k3 := hcj.c3; have k4 := hcj.c4; have k5 := hcj.c5; have k6 := hcj.c6; have k7 := hcj.c7; go_simp; try with_reducible rfl)⟩) ?_
     refine rd 9 rfl fun K hK => ?_
     go_simp
     refine hK.out _ _ ?_ (fun hHeld => ?_)
     · exact hHeld.kp0 (Kp.new _ _)
     clear hK K
     refine rd 10 rfl fun K hK => ?_
     obtain ⟨hth, hkb, hrb⟩ := obox (g := w2.heap.size) (Blk.new w2 109 #[.int .i64 0, .int .i64 0, .int .i64 0, .int .i64 0, .int .i64 0, .slice none 0 0, .slice none 0 0, .bool false]) rfl (HK1.out.chain (HK2.out.chain (Kp.new _ _))) (by have := HSZ.out; have := HK2.out.size; simp at this ⊢; omega) #[.int .i64 (x.a : Int), .int .i64 (x.o.id : Int), .int .i64 (x.o.refs : Int), .int .i64 (x.o.data : Int), .int .i64 (x.o.kind : Int), .slice (some ⟨x.rb, 0, none⟩) x.o.refs x.rc, .slice (some ⟨x.db, 0, none⟩) x.o.data x.dc, .bool x.o.pin] rfl
     have HKB := hid hkb
     have HRB := hid hrb
     refine step_store_midD (by rfl) 109 (.tmp 9) (.tmp 24) (by rfl) w2.heap.size 0 #[.int .i64 (x.a : Int), .int .i64 (x.o.id : Int), .int .i64 (x.o.refs : Int), .int .i64 (x.o.data : Int), .int .i64 (x.o.kind : Int), .slice (some ⟨x.rb, 0, none⟩) x.o.refs x.rc, .slice (some ⟨x.db, 0, none⟩) x.o.data x.dc, .bool x.o.pin] (by rfl) (by rfl) hth objInfo (objOne x) ?_
     clear hth hkb hrb
     refine hK.out _ _ ?_ (fun hHeld => ?_)
     · exact hHeld.kp (Kp.setCells _ _ _ _) (by have := HLT.out.1; have := HK2.out.size; simp at this ⊢; omega) (by have := HLT.out.2; have := HK2.out.size; simp at this ⊢; omega)
     clear hK K
     refine wpAnyH_done (by kernel_rfl) ?_ _
     clear hHeld
     have hrb := HRB.out
     generalize (w2.alloc (.cells #[.int .i64 0, .int .i64 0, .int .i64 0, .int .i64 0, .int .i64 0, .slice none 0 0, .slice none 0 0, .bool false] 109)).setCells w2.heap.size 0 (#[.int .i64 (x.a : Int), .int .i64 (x.o.id : Int), .int .i64 (x.o.refs : Int), .int .i64 (x.o.data : Int), .int .i64 (x.o.kind : Int), .slice (some ⟨x.rb, 0, none⟩) x.o.refs x.rc, .slice (some ⟨x.db, 0, none⟩) x.o.data x.dc, .bool x.o.pin] : Array Value).toList = V at HKB hrb ⊢
     have k5 : V.cell? ⟨w2.heap.size, 5, none⟩ = some (.slice (some ⟨x.rb, 0, none⟩) x.o.refs x.rc) := hrb 5 _ rfl
     have HKV := hid HKB.out
     clear hrb
     by_cases h0 : 0 ≤ j
     · by_cases h1 : j < (x.o.refs : Int)
       · obtain ⟨j, rfl⟩ : ∃ k : Nat, j = (k : Int) := ⟨j.toNat, by omega⟩
         have hjr : j < x.o.refs := by omega
         have hrc := cell_kp HKV.out (HT.out.rcell HI.out hjr)
         have HV : Hid (m.refG a (j : Int) = x.o.fs.getD j 0 ∧ m.refE a (j : Int) = 0) := by
           have e : m.refE a (j : Int) = 0 := by simp [HM.refE, HHO.out.1, HHO.out.2, show inB x.o.refs (j : Int) = true from decide_eq_true ⟨by omega, by omega⟩]
           refine ⟨?_, e⟩
           unfold HM.refG
           rw [if_pos e]
           simp only [HM.fget, HHO.out.2, Int.toNat_natCast]
         generalize x.o.fs.getD j 0 = y at hrc HV
         have e1 : decide ((j : Int) < 0) = false := decide_eq_false (by omega)
         clear h0 h1
         go_wp2
         go_ret2
         rw [HV.out.1, HV.out.2]
         exact ⟨rfl, HKV.out⟩
       · have HV : Hid (m.refG a j = 0 ∧ m.refE a j = 1) := by
           have e : m.refE a j = 1 := by simp [HM.refE, HHO.out.1, HHO.out.2, show inB x.o.refs j = false from decide_eq_false (by omega)]
           exact ⟨by unfold HM.refG; rw [if_neg (by rw [e]; decide)], e⟩
         have e1 : decide (j < 0) = false := decide_eq_false (by omega)
         go_wp2
         go_ret2
         rw [HV.out.1, HV.out.2]
         exact ⟨rfl, HKV.out⟩
     · have HV : Hid (m.refG a j = 0 ∧ m.refE a j = 1) := by
         have e : m.refE a j = 1 := by simp [HM.refE, HHO.out.1, HHO.out.2, show inB x.o.refs j = false from decide_eq_false (by omega)]
         exact ⟨by unfold HM.refG; rw [if_neg (by rw [e]; decide)], e⟩
       have e1 : decide (j < 0) = true := decide_eq_true (by omega)
       go_wp2
       go_ret2
       rw [HV.out.1, HV.out.2]
       exact ⟨rfl, HKV.out⟩
   · go_simp
     refine hK.out _ _ ?_ (fun hHeld => ?_)
     · exact hHeld.kp0 (Kp.new _ _)
     clear hK K
     refine rd 6 rfl fun K hK => ?_
     go_simp
     refine (d_index (HT1.out.kp0 ((Kp.draw _ 1).chain (Kp.new _ _))) a).mono ?_
     rintro e w2 ⟨rfl, h2⟩
     rw [HE.out]
     have HK2 := hid ((((Kp.draw w1 1).chain (Kp.new _ (.cells #[.int .i64 0, .int .i64 0, .int .i64 0, .int .i64 0, .int .i64 0, .slice none 0 0, .slice none 0 0, .bool false] 109)))).chain (Kp.of_drewN h2))
     have HJ2 := hid (Kp.of_drewN h2)
     clear h2
     try go_wp2_with fail
     refine hK.out _ _ ?_ (fun hHeld => ?_)
     · exact hHeld.kp0 HJ2.out
     clear hK K
     refine tk0 7 rfl ?_
     refine tk 8 rfl (Or.inl ⟨by rfl, by (intro wz hSw; have hcj := hSw.o; have k0 := hcj.c0; have k1 := hcj.c1; have k2 := hcj.c2; have k3 := hcj.c3; have k4 := hcj.c4; have k5 := hcj.c5; have k6 := hcj.c6; have k7 := hcj.c7; go_simp; try with_reducible rfl)⟩) ?_
     refine rd 10 rfl fun K hK => ?_
     obtain ⟨hth, hkb, hrb⟩ := obox (g := w1.heap.size) (((Blk.new w1.drew 109 #[.int .i64 0, .int .i64 0, .int .i64 0, .int .i64 0, .int .i64 0, .slice none 0 0, .slice none 0 0, .bool false]).kp HJ2.out (by simp) : Blk w2 w1.heap.size _ _)) rfl (HK1.out.chain (HK2.out)) (by have := HSZ.out; have := HK2.out.size; simp at this ⊢; omega) #[.int .i64 (x.a : Int), .int .i64 (x.o.id : Int), .int .i64 (x.o.refs : Int), .int .i64 (x.o.data : Int), .int .i64 (x.o.kind : Int), .slice (some ⟨x.rb, 0, none⟩) x.o.refs x.rc, .slice (some ⟨x.db, 0, none⟩) x.o.data x.dc, .bool x.o.pin] rfl
     have HKB := hid hkb
     have HRB := hid hrb
     refine step_store_midD (by rfl) 109 (.tmp 9) (.tmp 24) (by rfl) w1.heap.size 0 #[.int .i64 (x.a : Int), .int .i64 (x.o.id : Int), .int .i64 (x.o.refs : Int), .int .i64 (x.o.data : Int), .int .i64 (x.o.kind : Int), .slice (some ⟨x.rb, 0, none⟩) x.o.refs x.rc, .slice (some ⟨x.db, 0, none⟩) x.o.data x.dc, .bool x.o.pin] (by rfl) (by rfl) hth objInfo (objOne x) ?_
     clear hth hkb hrb
     refine hK.out _ _ ?_ (fun hHeld => ?_)
     · exact hHeld.kp (Kp.setCells _ _ _ _) (by have := HLT.out.1; have := HK2.out.size; simp at this ⊢; omega) (by have := HLT.out.2; have := HK2.out.size; simp at this ⊢; omega)
     clear hK K
     refine wpAnyH_done (by kernel_rfl) ?_ _
     clear hHeld
     have hrb := HRB.out
     generalize (w2).setCells w1.heap.size 0 (#[.int .i64 (x.a : Int), .int .i64 (x.o.id : Int), .int .i64 (x.o.refs : Int), .int .i64 (x.o.data : Int), .int .i64 (x.o.kind : Int), .slice (some ⟨x.rb, 0, none⟩) x.o.refs x.rc, .slice (some ⟨x.db, 0, none⟩) x.o.data x.dc, .bool x.o.pin] : Array Value).toList = V at HKB hrb ⊢
     have k5 : V.cell? ⟨w1.heap.size, 5, none⟩ = some (.slice (some ⟨x.rb, 0, none⟩) x.o.refs x.rc) := hrb 5 _ rfl
     have HKV := hid HKB.out
     clear hrb
     by_cases h0 : 0 ≤ j
     · by_cases h1 : j < (x.o.refs : Int)
       · obtain ⟨j, rfl⟩ : ∃ k : Nat, j = (k : Int) := ⟨j.toNat, by omega⟩
         have hjr : j < x.o.refs := by omega
         have hrc := cell_kp HKV.out (HT.out.rcell HI.out hjr)
         have HV : Hid (m.refG a (j : Int) = x.o.fs.getD j 0 ∧ m.refE a (j : Int) = 0) := by
           have e : m.refE a (j : Int) = 0 := by simp [HM.refE, HHO.out.1, HHO.out.2, show inB x.o.refs (j : Int) = true from decide_eq_true ⟨by omega, by omega⟩]
           refine ⟨?_, e⟩
           unfold HM.refG
           rw [if_pos e]
           simp only [HM.fget, HHO.out.2, Int.toNat_natCast]
         generalize x.o.fs.getD j 0 = y at hrc HV
         have e1 : decide ((j : Int) < 0) = false := decide_eq_false (by omega)
         clear h0 h1
         go_wp2
         go_ret2
         rw [HV.out.1, HV.out.2]
         exact ⟨rfl, HKV.out⟩
       · have HV : Hid (m.refG a j = 0 ∧ m.refE a j = 1) := by
           have e : m.refE a j = 1 := by simp [HM.refE, HHO.out.1, HHO.out.2, show inB x.o.refs j = false from decide_eq_false (by omega)]
           exact ⟨by unfold HM.refG; rw [if_neg (by rw [e]; decide)], e⟩
         have e1 : decide (j < 0) = false := decide_eq_false (by omega)
         go_wp2
         go_ret2
         rw [HV.out.1, HV.out.2]
         exact ⟨rfl, HKV.out⟩
     · have HV : Hid (m.refG a j = 0 ∧ m.refE a j = 1) := by
         have e : m.refE a j = 1 := by simp [HM.refE, HHO.out.1, HHO.out.2, show inB x.o.refs j = false from decide_eq_false (by omega)]
         exact ⟨by unfold HM.refG; rw [if_neg (by rw [e]; decide)], e⟩
       have e1 : decide (j < 0) = true := decide_eq_true (by omega)
       go_wp2
       go_ret2
       rw [HV.out.1, HV.out.2]
       exact ⟨rfl, HKV.out⟩
theorem d_data (T : DR w d q m) (a j : Int) :
   Calls Tryz.prog 164 #[.pointer (some ⟨d.g, 0, none⟩), .int .i64 a, .int .i64 j] w fun e w' => e = .returned (.tuple #[.int .i64 (m.datG a j), .int .i64 (m.datE a j)]) ∧ Kp [] w w' := by
 have HT := hid T
 rcases hh : m.has a
 · have e2 : m.datE a j = 4 := by simp [HM.datE, hh]
   have e1 : m.datG a j = 0 := by simp [HM.datG, e2]
   have e3 : m.lackE a = 4 := by simp [HM.lackE, hh]
   rw [e1, e2]
   have HL := hid e3
   clear T hh e1 e2 e3
   go_enter Tryz.func164, Tryz.ntmps164
   go_wp2_with (go_at_call 139; refine (d_lacks HT.out a).mono ?_; rintro e w1 ⟨rfl, h1⟩; rw [HL.out]; have HK := hid (Kp.of_drewN h1); clear h1)
   go_ret2
   exact ⟨rfl, HK.out⟩
 · obtain ⟨i, x, hi, hx, hix, ho⟩ := T.lst.ix hh
   have e3 : m.lackE a = 0 := by simp [HM.lackE, hh]
   have HL := hid e3
   have HHO := hid (And.intro hh ho)
   have hok := T.ok hi
   have hbd := hok.bd
   have hlen := T.len
   have hil := (List.getElem?_eq_some_iff.1 hi).1
   have HE := hid hix
   have HI := hid hi
   clear T hh hi hx hix ho e3 hok
   go_enter Tryz.func164, Tryz.ntmps164
   go_wp2_with (go_at_call 139; refine (d_lacks HT.out a).mono ?_; rintro e w1 ⟨rfl, h1⟩; rw [HL.out]; have HK1 := hid (Kp.of_drewN h1); clear h1)
   have HT1 := hid (HT.out.kp0 HK1.out)
   obtain ⟨g, cap, hov, _, _, hgm, hO, _⟩ := HT1.out.ocell HI.out
   have hc1 := HT1.out.c1
   rw [hov] at hc1
   have HO := hid hO
   have HLT : Hid (d.g < w1.heap.size ∧ g < w1.heap.size) := ⟨HT1.out.lt _ (by simp [DB.all]), HT1.out.lt _ hgm⟩
   have HSZ : Hid (w.heap.size ≤ w1.heap.size) := HK1.out.size
   clear hO hov hgm
   refine wp_region_held_drew (S := fun W => IX W d g d.os.length cap i x) (by kernel_rfl) ?_ (fun hHeld => ?_)
   · exact ⟨kp_cellD (Kp.draw _ 1) hc1, HO.out.kp0 (Kp.draw _ 1)⟩
   refine tk0 0 rfl ?_
   refine tk0 1 rfl ?_
   refine tk0 2 rfl ?_
   refine tk 3 rfl (Or.inl ⟨by rfl, by (intro wz hSw; have hcj := hSw.s; go_simp; try with_reducible rfl)⟩) ?_
   refine tk0 4 rfl ?_
   refine tk0 5 rfl ?_
   refine wpAnyH_ready (rs := [6, 9]) (by kernel_rfl) (by simp) ?_
   refine (AllReadyH.cons rfl (fun K hK => ?_) (AllReadyH.cons rfl (fun K hK => ?_) AllReadyH.nil))
   · go_simp
     refine (d_index (HT1.out.kp0 (Kp.draw _ 1)) a).mono ?_
     rintro e w2 ⟨rfl, h2⟩
     rw [HE.out]
     have HK2 := hid ((Kp.draw w1 1).chain (Kp.of_drewN h2))
     have HJ2 := hid (Kp.of_drewN h2)
     clear h2
     try go_wp2_with fail
     refine hK.out _ _ ?_ (fun hHeld => ?_)
     · exact hHeld.kp0 HJ2.out
     clear hK K
     refine tk0 7 rfl ?_
     refine tk 8 rfl (Or.inl ⟨by rfl, by (intro wz hSw; have hcj := hSw.o; have k0 := hcj.c0; have k1 := hcj.c1; have k2 := hcj.c2; have k3 := hcj.c3; have k4 := hcj.c4; have k5 := hcj.c5; have k6 := hcj.c6; have k7 := hcj.c7; go_simp; try with_reducible rfl)⟩) ?_
     refine rd 9 rfl fun K hK => ?_
     go_simp
     refine hK.out _ _ ?_ (fun hHeld => ?_)
     · exact hHeld.kp0 (Kp.new _ _)
     clear hK K
     refine rd 10 rfl fun K hK => ?_
     obtain ⟨hth, hkb, hrb⟩ := obox (g := w2.heap.size) (Blk.new w2 109 #[.int .i64 0, .int .i64 0, .int .i64 0, .int .i64 0, .int .i64 0, .slice none 0 0, .slice none 0 0, .bool false]) rfl (HK1.out.chain (HK2.out.chain (Kp.new _ _))) (by have := HSZ.out; have := HK2.out.size; simp at this ⊢; omega) #[.int .i64 (x.a : Int), .int .i64 (x.o.id : Int), .int .i64 (x.o.refs : Int), .int .i64 (x.o.data : Int), .int .i64 (x.o.kind : Int), .slice (some ⟨x.rb, 0, none⟩) x.o.refs x.rc, .slice (some ⟨x.db, 0, none⟩) x.o.data x.dc, .bool x.o.pin] rfl
     have HKB := hid hkb
     have HRB := hid hrb
     refine step_store_midD (by rfl) 109 (.tmp 9) (.tmp 24) (by rfl) w2.heap.size 0 #[.int .i64 (x.a : Int), .int .i64 (x.o.id : Int), .int .i64 (x.o.refs : Int), .int .i64 (x.o.data : Int), .int .i64 (x.o.kind : Int), .slice (some ⟨x.rb, 0, none⟩) x.o.refs x.rc, .slice (some ⟨x.db, 0, none⟩) x.o.data x.dc, .bool x.o.pin] (by rfl) (by rfl) hth objInfo (objOne x) ?_
     clear hth hkb hrb
     refine hK.out _ _ ?_ (fun hHeld => ?_)
     · exact hHeld.kp (Kp.setCells _ _ _ _) (by have := HLT.out.1; have := HK2.out.size; simp at this ⊢; omega) (by have := HLT.out.2; have := HK2.out.size; simp at this ⊢; omega)
     clear hK K
     refine wpAnyH_done (by kernel_rfl) ?_ _
     clear hHeld
     have hrb := HRB.out
     generalize (w2.alloc (.cells #[.int .i64 0, .int .i64 0, .int .i64 0, .int .i64 0, .int .i64 0, .slice none 0 0, .slice none 0 0, .bool false] 109)).setCells w2.heap.size 0 (#[.int .i64 (x.a : Int), .int .i64 (x.o.id : Int), .int .i64 (x.o.refs : Int), .int .i64 (x.o.data : Int), .int .i64 (x.o.kind : Int), .slice (some ⟨x.rb, 0, none⟩) x.o.refs x.rc, .slice (some ⟨x.db, 0, none⟩) x.o.data x.dc, .bool x.o.pin] : Array Value).toList = V at HKB hrb ⊢
     have k5 : V.cell? ⟨w2.heap.size, 6, none⟩ = some (.slice (some ⟨x.db, 0, none⟩) x.o.data x.dc) := hrb 6 _ rfl
     have HKV := hid HKB.out
     clear hrb
     by_cases h0 : 0 ≤ j
     · by_cases h1 : j < (x.o.data : Int)
       · obtain ⟨j, rfl⟩ : ∃ k : Nat, j = (k : Int) := ⟨j.toNat, by omega⟩
         have hjr : j < x.o.data := by omega
         have hrc := cell_kp HKV.out (HT.out.dcell HI.out hjr)
         have HV : Hid (m.datG a (j : Int) = x.o.fs.getD (x.o.refs + j) 0 ∧ m.datE a (j : Int) = 0) := by
           have e : m.datE a (j : Int) = 0 := by simp [HM.datE, HHO.out.1, HHO.out.2, show inB x.o.data (j : Int) = true from decide_eq_true ⟨by omega, by omega⟩]
           refine ⟨?_, e⟩
           unfold HM.datG
           rw [if_pos e]
           simp only [HM.fget, HM.datOff, HHO.out.2, Int.toNat_natCast]
         generalize x.o.fs.getD (x.o.refs + j) 0 = y at hrc HV
         have e1 : decide ((j : Int) < 0) = false := decide_eq_false (by omega)
         clear h0 h1
         go_wp2
         go_ret2
         rw [HV.out.1, HV.out.2]
         exact ⟨rfl, HKV.out⟩
       · have HV : Hid (m.datG a j = 0 ∧ m.datE a j = 1) := by
           have e : m.datE a j = 1 := by simp [HM.datE, HHO.out.1, HHO.out.2, show inB x.o.data j = false from decide_eq_false (by omega)]
           exact ⟨by unfold HM.datG; rw [if_neg (by rw [e]; decide)], e⟩
         have e1 : decide (j < 0) = false := decide_eq_false (by omega)
         go_wp2
         go_ret2
         rw [HV.out.1, HV.out.2]
         exact ⟨rfl, HKV.out⟩
     · have HV : Hid (m.datG a j = 0 ∧ m.datE a j = 1) := by
         have e : m.datE a j = 1 := by simp [HM.datE, HHO.out.1, HHO.out.2, show inB x.o.data j = false from decide_eq_false (by omega)]
         exact ⟨by unfold HM.datG; rw [if_neg (by rw [e]; decide)], e⟩
       have e1 : decide (j < 0) = true := decide_eq_true (by omega)
       go_wp2
       go_ret2
       rw [HV.out.1, HV.out.2]
       exact ⟨rfl, HKV.out⟩
   · go_simp
     refine hK.out _ _ ?_ (fun hHeld => ?_)
     · exact hHeld.kp0 (Kp.new _ _)
     clear hK K
     refine rd 6 rfl fun K hK => ?_
     go_simp
     refine (d_index (HT1.out.kp0 ((Kp.draw _ 1).chain (Kp.new _ _))) a).mono ?_
     rintro e w2 ⟨rfl, h2⟩
     rw [HE.out]
     have HK2 := hid ((((Kp.draw w1 1).chain (Kp.new _ (.cells #[.int .i64 0, .int .i64 0, .int .i64 0, .int .i64 0, .int .i64 0, .slice none 0 0, .slice none 0 0, .bool false] 109)))).chain (Kp.of_drewN h2))
     have HJ2 := hid (Kp.of_drewN h2)
     clear h2
     try go_wp2_with fail
     refine hK.out _ _ ?_ (fun hHeld => ?_)
     · exact hHeld.kp0 HJ2.out
     clear hK K
     refine tk0 7 rfl ?_
     refine tk 8 rfl (Or.inl ⟨by rfl, by (intro wz hSw; have hcj := hSw.o; have k0 := hcj.c0; have k1 := hcj.c1; have k2 := hcj.c2; have k3 := hcj.c3; have k4 := hcj.c4; have k5 := hcj.c5; have k6 := hcj.c6; have k7 := hcj.c7; go_simp; try with_reducible rfl)⟩) ?_
     refine rd 10 rfl fun K hK => ?_
     obtain ⟨hth, hkb, hrb⟩ := obox (g := w1.heap.size) (((Blk.new w1.drew 109 #[.int .i64 0, .int .i64 0, .int .i64 0, .int .i64 0, .int .i64 0, .slice none 0 0, .slice none 0 0, .bool false]).kp HJ2.out (by simp) : Blk w2 w1.heap.size _ _)) rfl (HK1.out.chain (HK2.out)) (by have := HSZ.out; have := HK2.out.size; simp at this ⊢; omega) #[.int .i64 (x.a : Int), .int .i64 (x.o.id : Int), .int .i64 (x.o.refs : Int), .int .i64 (x.o.data : Int), .int .i64 (x.o.kind : Int), .slice (some ⟨x.rb, 0, none⟩) x.o.refs x.rc, .slice (some ⟨x.db, 0, none⟩) x.o.data x.dc, .bool x.o.pin] rfl
     have HKB := hid hkb
     have HRB := hid hrb
     refine step_store_midD (by rfl) 109 (.tmp 9) (.tmp 24) (by rfl) w1.heap.size 0 #[.int .i64 (x.a : Int), .int .i64 (x.o.id : Int), .int .i64 (x.o.refs : Int), .int .i64 (x.o.data : Int), .int .i64 (x.o.kind : Int), .slice (some ⟨x.rb, 0, none⟩) x.o.refs x.rc, .slice (some ⟨x.db, 0, none⟩) x.o.data x.dc, .bool x.o.pin] (by rfl) (by rfl) hth objInfo (objOne x) ?_
     clear hth hkb hrb
     refine hK.out _ _ ?_ (fun hHeld => ?_)
     · exact hHeld.kp (Kp.setCells _ _ _ _) (by have := HLT.out.1; have := HK2.out.size; simp at this ⊢; omega) (by have := HLT.out.2; have := HK2.out.size; simp at this ⊢; omega)
     clear hK K
     refine wpAnyH_done (by kernel_rfl) ?_ _
     clear hHeld
     have hrb := HRB.out
     generalize (w2).setCells w1.heap.size 0 (#[.int .i64 (x.a : Int), .int .i64 (x.o.id : Int), .int .i64 (x.o.refs : Int), .int .i64 (x.o.data : Int), .int .i64 (x.o.kind : Int), .slice (some ⟨x.rb, 0, none⟩) x.o.refs x.rc, .slice (some ⟨x.db, 0, none⟩) x.o.data x.dc, .bool x.o.pin] : Array Value).toList = V at HKB hrb ⊢
     have k5 : V.cell? ⟨w1.heap.size, 6, none⟩ = some (.slice (some ⟨x.db, 0, none⟩) x.o.data x.dc) := hrb 6 _ rfl
     have HKV := hid HKB.out
     clear hrb
     by_cases h0 : 0 ≤ j
     · by_cases h1 : j < (x.o.data : Int)
       · obtain ⟨j, rfl⟩ : ∃ k : Nat, j = (k : Int) := ⟨j.toNat, by omega⟩
         have hjr : j < x.o.data := by omega
         have hrc := cell_kp HKV.out (HT.out.dcell HI.out hjr)
         have HV : Hid (m.datG a (j : Int) = x.o.fs.getD (x.o.refs + j) 0 ∧ m.datE a (j : Int) = 0) := by
           have e : m.datE a (j : Int) = 0 := by simp [HM.datE, HHO.out.1, HHO.out.2, show inB x.o.data (j : Int) = true from decide_eq_true ⟨by omega, by omega⟩]
           refine ⟨?_, e⟩
           unfold HM.datG
           rw [if_pos e]
           simp only [HM.fget, HM.datOff, HHO.out.2, Int.toNat_natCast]
         generalize x.o.fs.getD (x.o.refs + j) 0 = y at hrc HV
         have e1 : decide ((j : Int) < 0) = false := decide_eq_false (by omega)
         clear h0 h1
         go_wp2
         go_ret2
         rw [HV.out.1, HV.out.2]
         exact ⟨rfl, HKV.out⟩
       · have HV : Hid (m.datG a j = 0 ∧ m.datE a j = 1) := by
           have e : m.datE a j = 1 := by simp [HM.datE, HHO.out.1, HHO.out.2, show inB x.o.data j = false from decide_eq_false (by omega)]
           exact ⟨by unfold HM.datG; rw [if_neg (by rw [e]; decide)], e⟩
         have e1 : decide (j < 0) = false := decide_eq_false (by omega)
         go_wp2
         go_ret2
         rw [HV.out.1, HV.out.2]
         exact ⟨rfl, HKV.out⟩
     · have HV : Hid (m.datG a j = 0 ∧ m.datE a j = 1) := by
         have e : m.datE a j = 1 := by simp [HM.datE, HHO.out.1, HHO.out.2, show inB x.o.data j = false from decide_eq_false (by omega)]
         exact ⟨by unfold HM.datG; rw [if_neg (by rw [e]; decide)], e⟩
       have e1 : decide (j < 0) = true := decide_eq_true (by omega)
       go_wp2
       go_ret2
       rw [HV.out.1, HV.out.2]
       exact ⟨rfl, HKV.out⟩
end
end Go.Proofs.YthndilllnneijaaGreat
