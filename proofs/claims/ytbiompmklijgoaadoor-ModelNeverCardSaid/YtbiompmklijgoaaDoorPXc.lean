/-
  The contract of package model's Do, for each kind: where checkAct lets an act be done, and where it refuses. Conditions: those that stand in each theorem.
-/
import Derived.Test.YtbiompmklijgoaaDoorPGD
import Derived.Deep.RegionHeld3
namespace Go.Proofs.YtbiompmklijgoaaDoor
set_option linter.unusedVariables false
set_option linter.unusedSimpArgs false
open Go.RowKit Go.Deep Go.Maps

section
variable {w w' W V : World} {b b0 : MB} {t t' : MT}
set_option maxRecDepth 100000 in
set_option maxHeartbeats 1000000 in
theorem m_do8_ok (R : MR w b t) (m : Nat) (hm : m < t.n) (xa xb xi xn xr xd xs : Int) (eo ei eold enew emade eload : Int) (zs : List Int) (HCK : ∀ W, MR W b t → Calls Tryd.prog 74 #[.pointer (some ⟨b.g, 0, none⟩), .agg #[.int .i64 0, .func (.func 91) #[] #[]], .pointer (some ⟨b.sb, m * 16, none⟩), .agg #[.int .i64 8, .int .i64 xa, .int .i64 xb, .int .i64 xi, .int .i64 xn, .int .i64 xr, .int .i64 xd, .int .i64 xs]] W fun e w' => e = .returned (.int .i64 0) ∧ Kp [] W w') (HDO : ∀ W, MR W b t → Calls Tryd.prog 91 #[.pointer (some ⟨b.g, 0, none⟩), .pointer (some ⟨b.sb, m * 16, none⟩), .agg #[.int .i64 8, .int .i64 xa, .int .i64 xb, .int .i64 xi, .int .i64 xn, .int .i64 xr, .int .i64 xd, .int .i64 xs]] W fun e w' => ∃ A n c, e = .returned (.agg #[.slice A n c, .int .i64 eo, .int .i64 ei, .int .i64 eold, .int .i64 enew, .int .i64 emade, .int .i64 eload]) ∧ ChgM W b t' w' ∧ FarI w' W.heap.size (.slice A n c) zs) :
    Calls Tryd.prog 40 #[.pointer (some ⟨b.g, 0, none⟩), .int .i64 (m : Int), .agg #[.int .i64 8, .int .i64 xa, .int .i64 xb, .int .i64 xi, .int .i64 xn, .int .i64 xr, .int .i64 xd, .int .i64 xs]] w fun e w' => ∃ A n c, e = .returned (.tuple #[.agg #[.slice A n c, .int .i64 eo, .int .i64 ei, .int .i64 eold, .int .i64 enew, .int .i64 emade, .int .i64 eload], .int .i64 0]) ∧ ChgM w b t' w' ∧ FarI w' w.heap.size (.slice A n c) zs := by
  have HCK2 := hid HCK
  clear HCK
  have HDO2 := hid HDO
  clear HDO
  have h4 := R.ok.n4
  have D2 : DC w b b t ⟨8, xa, xb, xi, xn, xr, xd, xs⟩ ef0 _ := DC.start R
  unfold MA.cells ef0 at D2
  simp only at D2
  have hmi : (m : Int) < (t.n : Int) := by omega
  have HHM : Hid (t.hasM (m : Int) = true) := decide_eq_true ⟨by omega, by omega⟩
  clear R
  go_enter Tryd.func40, Tryd.ntmps40
  go_upto_region 1 with fail
  generalize ((w.alloc (.cells #[.int .i64 8, .int .i64 xa, .int .i64 xb, .int .i64 xi, .int .i64 xn, .int .i64 xr, .int .i64 xd, .int .i64 xs] 35)).alloc (.cells #[.slice none 0 0, .int .i64 0, .int .i64 0, .int .i64 0, .int .i64 0, .int .i64 0, .int .i64 0] 73)) = W2 at D2 ⊢
  have HD2 := hid D2
  clear D2
  go_wp2_with (first
    | (go_at_call 41; go_loud (refine (m_made HD2.out.R).mono ?_; rintro e w' ⟨rfl, n1, rfl⟩; have HD3 : Hid (DC w b b t ⟨8, xa, xb, xi, xn, xr, xd, xs⟩ ef0 (W2.drewN n1)) := HD2.out.kp0 (Kp.draw _ n1)))
    | (go_at_call 73; go_loud (refine (m_ways _).mono ?_; rintro e w4 ⟨rfl, hk4⟩; have HD4 : Hid (DC w b b t ⟨8, xa, xb, xi, xn, xr, xd, xs⟩ ef0 (w4)) := HD3.out.kp0 (hk4); obtain ⟨ht, hkn, hrn⟩ := fillN (vs := wayc) (Blk.new w4 100 #[.int .i64 0, .nilFunc, .int .i64 0, .nilFunc, .int .i64 0, .nilFunc, .int .i64 0, .nilFunc, .int .i64 0, .nilFunc, .int .i64 0, .nilFunc, .int .i64 0, .nilFunc, .int .i64 0, .nilFunc, .int .i64 0, .nilFunc, .int .i64 0, .nilFunc, .int .i64 0, .nilFunc, .int .i64 0, .nilFunc]) rfl (Kp.new w4 _) (Nat.le_refl _); have HT := hid ht; have HKN := hid hkn; have HRN := hid hrn; clear ht hkn hrn hk4))
    | (refine wpList_store_mid (by rfl) 100 (.tmp 8) (.tmp 16) (by rfl) w4.heap.size 0 wayc (by rfl) (by rfl) HT.out wayInfo wayOne ?_; have HD5 : Hid (DC w b b t ⟨8, xa, xb, xi, xn, xr, xd, xs⟩ ef0 ((w4.alloc (.cells #[.int .i64 0, .nilFunc, .int .i64 0, .nilFunc, .int .i64 0, .nilFunc, .int .i64 0, .nilFunc, .int .i64 0, .nilFunc, .int .i64 0, .nilFunc, .int .i64 0, .nilFunc, .int .i64 0, .nilFunc, .int .i64 0, .nilFunc, .int .i64 0, .nilFunc, .int .i64 0, .nilFunc, .int .i64 0, .nilFunc] 100)).setCells w4.heap.size 0 wayc.toList)) := HD4.out.kp0 (HKN.out); generalize (w4.alloc (.cells #[.int .i64 0, .nilFunc, .int .i64 0, .nilFunc, .int .i64 0, .nilFunc, .int .i64 0, .nilFunc, .int .i64 0, .nilFunc, .int .i64 0, .nilFunc, .int .i64 0, .nilFunc, .int .i64 0, .nilFunc, .int .i64 0, .nilFunc, .int .i64 0, .nilFunc, .int .i64 0, .nilFunc, .int .i64 0, .nilFunc] 100)).setCells w4.heap.size 0 wayc.toList = w5 at HD5 HRN ⊢; have a50 : w5.cell? ⟨w.heap.size, 0, none⟩ = some (.int .i64 8) := HD5.out.A.cell 0)
    | (go_at_call 59; go_loud (refine (m_hasMutator HD5.out.R _).mono ?_; rw [HHM.out]; rintro e w' ⟨rfl, rfl⟩)))
  obtain ⟨cs, hcs1, hcs2, hb0⟩ := HD5.out.R.c0
  unfold maxLen at hcs2
  have r1 : w5.cell? ⟨w4.heap.size, 16, none⟩ = some (.int .i64 0) := by simpa using HRN.out 16 _ rfl
  have r2 : w5.cell? ⟨w4.heap.size, 17, none⟩ = some (.func (.func 91) #[] #[]) := by simpa using HRN.out 17 _ rfl
  have HLT : Hid (w.heap.size + 2 ≤ w4.heap.size) := HD4.out.E.lt
  refine wp_region_held_drew (S := (fun wz => wz.cell? ⟨w.heap.size, 0, none⟩ = some (.int .i64 8) ∧ wz.cell? ⟨w4.heap.size, 16, none⟩ = some (.int .i64 0) ∧ wz.cell? ⟨w4.heap.size, 17, none⟩ = some (.func (.func 91) #[] #[]) ∧ wz.cell? ⟨b.g, 0, none⟩ = some (.slice (some ⟨b.sb, 0, none⟩) t.n cs))) (by kernel_rfl) ?_ (fun hHeld => ?_)
  · exact ⟨cell_kp (Kp.draw _ 1) a50, cell_kp (Kp.draw _ 1) r1, cell_kp (Kp.draw _ 1) r2, cell_kp (Kp.draw _ 1) hb0⟩
  have HD6 : Hid (DC w b b t ⟨8, xa, xb, xi, xn, xr, xd, xs⟩ ef0 (w5.drew)) := HD5.out.kp0 (Kp.draw _ 1)
  clear a50 r1 r2 hb0
  generalize w5.drew = w6 at HD6 hHeld ⊢
  have HL4 : Hid (w4.heap.size < w6.heap.size) := cell_lt hHeld.2.1
  have HLW : Hid (w.heap.size + 2 ≤ w6.heap.size) := HD6.out.E.lt
  have HLG : Hid (b.g < w6.heap.size) := cell_lt hHeld.2.2.2
  obtain ⟨ht, hkn, hrn⟩ := fillN (vs := #[.int .i64 0, .func (.func 91) #[] #[]]) (Blk.new w6 99 #[.int .i64 0, .nilFunc]) rfl (Kp.new w6 _) (Nat.le_refl _)
  have HT6 := hid ht
  have HKN6 := hid hkn
  have HRN6 := hid hrn
  clear ht hkn hrn
  refine wpAnyH_take (i := 0) (v := _) rfl (by kernel_rfl) (by kernel_rfl) (by kernel_rfl) (fun _ _ _ h => h) (Or.inl ⟨by rfl, by (intro wz hSw; go_simp; try with_reducible rfl)⟩) (by assumption) ?_
  try simp only [List.getElem_toArray, List.getElem_cons_zero, List.getElem_cons_succ, Act.put, List.setIfInBounds_toArray, List.set_cons_zero, List.set_cons_succ]
  refine wpAnyH_take (i := 1) (v := _) rfl (by kernel_rfl) (by kernel_rfl) (by kernel_rfl) (fun _ _ _ h => h) (Or.inl ⟨by rfl, by (intro wz hSw; have hca := hSw.1; go_simp; try with_reducible rfl)⟩) (by assumption) ?_
  try simp only [List.getElem_toArray, List.getElem_cons_zero, List.getElem_cons_succ, Act.put, List.setIfInBounds_toArray, List.set_cons_zero, List.set_cons_succ]
  refine wpAnyH_take (i := 2) (v := _) rfl (by kernel_rfl) (by kernel_rfl) (by kernel_rfl) (fun _ _ _ h => h) (Or.inl ⟨by rfl, by (intro wz hSw; go_simp; try with_reducible rfl)⟩) (by assumption) ?_
  try simp only [List.getElem_toArray, List.getElem_cons_zero, List.getElem_cons_succ, Act.put, List.setIfInBounds_toArray, List.set_cons_zero, List.set_cons_succ]
  refine wpAnyH_take (i := 3) (v := _) rfl (by kernel_rfl) (by kernel_rfl) (by kernel_rfl) (fun _ _ _ h => h) (Or.inl ⟨by rfl, by (intro wz hSw; have hca := hSw.2.1; have hcb := hSw.2.2.1; go_simp; try with_reducible rfl)⟩) (by assumption) ?_
  try simp only [List.getElem_toArray, List.getElem_cons_zero, List.getElem_cons_succ, Act.put, List.setIfInBounds_toArray, List.set_cons_zero, List.set_cons_succ]
  refine wpAnyH_take (i := 4) (v := _) rfl (by kernel_rfl) (by kernel_rfl) (by kernel_rfl) (fun _ _ _ h => h) (Or.inl ⟨by rfl, by (intro wz hSw; go_simp; try with_reducible rfl)⟩) (by assumption) ?_
  try simp only [List.getElem_toArray, List.getElem_cons_zero, List.getElem_cons_succ, Act.put, List.setIfInBounds_toArray, List.set_cons_zero, List.set_cons_succ]
  refine wpAnyH_take (i := 5) (v := _) rfl (by kernel_rfl) (by kernel_rfl) (by kernel_rfl) (fun _ _ _ h => h) (Or.inl ⟨by rfl, by (intro wz hSw; go_simp; try with_reducible rfl)⟩) (by assumption) ?_
  try simp only [List.getElem_toArray, List.getElem_cons_zero, List.getElem_cons_succ, Act.put, List.setIfInBounds_toArray, List.set_cons_zero, List.set_cons_succ]
  refine wpAnyH_take (i := 6) (v := _) rfl (by kernel_rfl) (by kernel_rfl) (by kernel_rfl) (fun _ _ _ h => h) (Or.inl ⟨by rfl, by (intro wz hSw; go_simp; try with_reducible rfl)⟩) (by assumption) ?_
  try simp only [List.getElem_toArray, List.getElem_cons_zero, List.getElem_cons_succ, Act.put, List.setIfInBounds_toArray, List.set_cons_zero, List.set_cons_succ]
  refine wpAnyH_take (i := 7) (v := _) rfl (by kernel_rfl) (by kernel_rfl) (by kernel_rfl) (fun _ _ _ h => h) (Or.inl ⟨by rfl, by (intro wz hSw; have hca := hSw.2.2.2; go_simp; try with_reducible rfl)⟩) (by assumption) ?_
  try simp only [List.getElem_toArray, List.getElem_cons_zero, List.getElem_cons_succ, Act.put, List.setIfInBounds_toArray, List.set_cons_zero, List.set_cons_succ]
  refine wpAnyH_take (i := 8) (v := _) rfl (by kernel_rfl) (by kernel_rfl) (by kernel_rfl) (fun _ _ _ h => h) (Or.inl ⟨by rfl, by (intro wz hSw; go_simp; try with_reducible rfl)⟩) (by assumption) ?_
  try simp only [List.getElem_toArray, List.getElem_cons_zero, List.getElem_cons_succ, Act.put, List.setIfInBounds_toArray, List.set_cons_zero, List.set_cons_succ]
  refine wpAnyH_take (i := 9) (v := _) rfl (by kernel_rfl) (by kernel_rfl) (by kernel_rfl) (fun _ _ _ h => h) (Or.inl ⟨by rfl, by (intro wz hSw; go_simp; try with_reducible rfl)⟩) (by assumption) ?_
  try simp only [List.getElem_toArray, List.getElem_cons_zero, List.getElem_cons_succ, Act.put, List.setIfInBounds_toArray, List.set_cons_zero, List.set_cons_succ]
  refine wpAnyH_ready (rs := [10]) (by kernel_rfl) (by simp) ?_
  refine AllReadyH.cons rfl (fun K hK => ?_) AllReadyH.nil
  go_simp
  refine hK.out _ _ ?_ (fun hHeld => ?_)
  · exact ⟨cell_kp (Kp.new _ _) hHeld.1, cell_kp (Kp.new _ _) hHeld.2.1, cell_kp (Kp.new _ _) hHeld.2.2.1, cell_kp (Kp.new _ _) hHeld.2.2.2⟩
  clear hK K
  refine wpAnyH_ready (rs := [11]) (by kernel_rfl) (by simp) ?_
  refine AllReadyH.cons rfl (fun K hK => ?_) AllReadyH.nil
  refine step_store_mid (by rfl) 99 (.tmp 9) (.tmp 35) (by rfl) w6.heap.size 0 #[.int .i64 0, .func (.func 91) #[] #[]] (by rfl) (by rfl) HT6.out wayInfo2 (twoOne rfl) ?_
  refine hK.out _ _ ?_ (fun hHeld => ?_)
  · exact ⟨cell_kps (Kp.setCells _ _ _ _) hHeld.1 (by simp; have := HL4.out; have := HLW.out; have := HLG.out; omega), cell_kps (Kp.setCells _ _ _ _) hHeld.2.1 (by simp; have := HL4.out; have := HLW.out; have := HLG.out; omega), cell_kps (Kp.setCells _ _ _ _) hHeld.2.2.1 (by simp; have := HL4.out; have := HLW.out; have := HLG.out; omega), cell_kps (Kp.setCells _ _ _ _) hHeld.2.2.2 (by simp; have := HL4.out; have := HLW.out; have := HLG.out; omega)⟩
  clear hK K
  refine wpAnyH_take (i := 12) (v := _) rfl (by kernel_rfl) (by kernel_rfl) (by kernel_rfl) (fun _ _ _ h => h) (Or.inl ⟨by rfl, by (intro wz hSw; go_simp; try with_reducible rfl)⟩) (by assumption) ?_
  try simp only [List.getElem_toArray, List.getElem_cons_zero, List.getElem_cons_succ, Act.put, List.setIfInBounds_toArray, List.set_cons_zero, List.set_cons_succ]
  refine wpAnyH_done (by kernel_rfl) ?_ _
  clear hHeld
  have HD7 : Hid (DC w b b t ⟨8, xa, xb, xi, xn, xr, xd, xs⟩ ef0 ((w6.alloc (.cells #[.int .i64 0, .nilFunc] 99)).setCells w6.heap.size 0 (#[.int .i64 0, .func (.func 91) #[] #[]] : Array Value).toList)) := HD6.out.kp0 (HKN6.out)
  generalize (w6.alloc (.cells #[.int .i64 0, .nilFunc] 99)).setCells w6.heap.size 0 (#[.int .i64 0, .func (.func 91) #[] #[]] : Array Value).toList = w7 at HD7 HRN6 ⊢
  have z0 : w7.cell? ⟨w6.heap.size, 0, none⟩ = some (.int .i64 0) := by simpa using HRN6.out 0 _ rfl
  have z1 : w7.cell? ⟨w6.heap.size, 1, none⟩ = some (.func (.func 91) #[] #[]) := by simpa using HRN6.out 1 _ rfl
  have a70 : w7.cell? ⟨w.heap.size, 0, none⟩ = some (.int .i64 8) := HD7.out.A.cell 0
  have a71 : w7.cell? ⟨w.heap.size, 1, none⟩ = some (.int .i64 xa) := HD7.out.A.cell 1
  have a72 : w7.cell? ⟨w.heap.size, 2, none⟩ = some (.int .i64 xb) := HD7.out.A.cell 2
  have a73 : w7.cell? ⟨w.heap.size, 3, none⟩ = some (.int .i64 xi) := HD7.out.A.cell 3
  have a74 : w7.cell? ⟨w.heap.size, 4, none⟩ = some (.int .i64 xn) := HD7.out.A.cell 4
  have a75 : w7.cell? ⟨w.heap.size, 5, none⟩ = some (.int .i64 xr) := HD7.out.A.cell 5
  have a76 : w7.cell? ⟨w.heap.size, 6, none⟩ = some (.int .i64 xd) := HD7.out.A.cell 6
  have a77 : w7.cell? ⟨w.heap.size, 7, none⟩ = some (.int .i64 xs) := HD7.out.A.cell 7
  go_wp2_with (first
    | (go_at_call 74; go_loud (refine (HCK2.out _ HD7.out.R).mono ?_; rintro e w8 ⟨rfl, hk8⟩; have HD8 : Hid (DC w b b t ⟨8, xa, xb, xi, xn, xr, xd, xs⟩ ef0 (w8)) := HD7.out.kp0 (hk8); have a80 : w8.cell? ⟨w.heap.size, 0, none⟩ = some (.int .i64 8) := HD8.out.A.cell 0; have a81 : w8.cell? ⟨w.heap.size, 1, none⟩ = some (.int .i64 xa) := HD8.out.A.cell 1; have a82 : w8.cell? ⟨w.heap.size, 2, none⟩ = some (.int .i64 xb) := HD8.out.A.cell 2; have a83 : w8.cell? ⟨w.heap.size, 3, none⟩ = some (.int .i64 xi) := HD8.out.A.cell 3; have a84 : w8.cell? ⟨w.heap.size, 4, none⟩ = some (.int .i64 xn) := HD8.out.A.cell 4; have a85 : w8.cell? ⟨w.heap.size, 5, none⟩ = some (.int .i64 xr) := HD8.out.A.cell 5; have a86 : w8.cell? ⟨w.heap.size, 6, none⟩ = some (.int .i64 xd) := HD8.out.A.cell 6; have a87 : w8.cell? ⟨w.heap.size, 7, none⟩ = some (.int .i64 xs) := HD8.out.A.cell 7; have z81 := cell_kp hk8 z1; clear hk8))
    | (go_at_call 91; go_loud (refine (HDO2.out _ HD8.out.R).mono ?_; rintro e w9 ⟨A, n, c, rfl, hch9, hf9⟩; obtain ⟨b9, e91, e92, D9⟩ := HD8.out.chg hch9; obtain ⟨hth, hch, hrg⟩ := DC.fin (ef' := #[.slice A n c, .int .i64 eo, .int .i64 ei, .int .i64 eold, .int .i64 enew, .int .i64 emade, .int .i64 eload]) D9 rfl rfl; have hfr : FarI (w9.setCells (w.heap.size + 1) 0 (#[.slice A n c, .int .i64 eo, .int .i64 ei, .int .i64 eold, .int .i64 enew, .int .i64 emade, .int .i64 eload] : Array Value).toList) w.heap.size (.slice A n c) zs := (hf9.kp (Kp.setCells w9 (w.heap.size + 1) 0 (#[.slice A n c, .int .i64 eo, .int .i64 ei, .int .i64 eold, .int .i64 enew, .int .i64 emade, .int .i64 eload] : Array Value).toList) (by simp; have := HD8.out.E.lt; omega)).base (by have := HD8.out.E.lt; omega); have HTH := hid hth; have HCH := hid hch; have HRG := hid hrg; have HFR := hid hfr; clear hth hch hrg hfr hch9 hf9 D9 e91 e92))
    | (refine wpList_store_mid (by rfl) 73 (.tmp 6) (.tmp 56) (by rfl) (w.heap.size + 1) 0 #[.slice A n c, .int .i64 eo, .int .i64 ei, .int .i64 eold, .int .i64 enew, .int .i64 emade, .int .i64 eload] (by rfl) (by rfl) HTH.out effInfo effOne ?_))
  generalize w9.setCells (w.heap.size + 1) 0 (#[.slice A n c, .int .i64 eo, .int .i64 ei, .int .i64 eold, .int .i64 enew, .int .i64 emade, .int .i64 eload] : Array Value).toList = W9 at HCH HRG HFR ⊢
  have g0 : W9.cell? ⟨w.heap.size + 1, 0, none⟩ = some (.slice A n c) := by simpa using HRG.out 0 _ rfl
  have g1 : W9.cell? ⟨w.heap.size + 1, 1, none⟩ = some (.int .i64 eo) := by simpa using HRG.out 1 _ rfl
  have g2 : W9.cell? ⟨w.heap.size + 1, 2, none⟩ = some (.int .i64 ei) := by simpa using HRG.out 2 _ rfl
  have g3 : W9.cell? ⟨w.heap.size + 1, 3, none⟩ = some (.int .i64 eold) := by simpa using HRG.out 3 _ rfl
  have g4 : W9.cell? ⟨w.heap.size + 1, 4, none⟩ = some (.int .i64 enew) := by simpa using HRG.out 4 _ rfl
  have g5 : W9.cell? ⟨w.heap.size + 1, 5, none⟩ = some (.int .i64 emade) := by simpa using HRG.out 5 _ rfl
  have g6 : W9.cell? ⟨w.heap.size + 1, 6, none⟩ = some (.int .i64 eload) := by simpa using HRG.out 6 _ rfl
  refine bodyPost_ret (v := .tuple #[.agg #[.slice A n c, .int .i64 eo, .int .i64 ei, .int .i64 eold, .int .i64 enew, .int .i64 emade, .int .i64 eload], .int .i64 0]) ?_ rfl ⟨A, n, c, rfl, HCH.out, HFR.out⟩
  simp [results, Tryd.results40, asAddr, Act.put, go_sem, g0, g1, g2, g3, g4, g5, g6]
set_option maxRecDepth 100000 in
set_option maxHeartbeats 1000000 in
theorem m_do8_no (R : MR w b t) (m : Nat) (hm : m < t.n) (xa xb xi xn xr xd xs : Int) (er : Int) (her : (er != 0) = true) (HCK : ∀ W, MR W b t → Calls Tryd.prog 74 #[.pointer (some ⟨b.g, 0, none⟩), .agg #[.int .i64 0, .func (.func 91) #[] #[]], .pointer (some ⟨b.sb, m * 16, none⟩), .agg #[.int .i64 8, .int .i64 xa, .int .i64 xb, .int .i64 xi, .int .i64 xn, .int .i64 xr, .int .i64 xd, .int .i64 xs]] W fun e w' => e = .returned (.int .i64 er) ∧ Kp [] W w') :
    Calls Tryd.prog 40 #[.pointer (some ⟨b.g, 0, none⟩), .int .i64 (m : Int), .agg #[.int .i64 8, .int .i64 xa, .int .i64 xb, .int .i64 xi, .int .i64 xn, .int .i64 xr, .int .i64 xd, .int .i64 xs]] w fun e w' => e = .returned (.tuple #[.agg #[.slice none 0 0, .int .i64 0, .int .i64 0, .int .i64 0, .int .i64 0, .int .i64 0, .int .i64 0], .int .i64 er]) ∧ ChgM w b t w' := by
  have HCK2 := hid HCK
  clear HCK
  have h4 := R.ok.n4
  have D2 : DC w b b t ⟨8, xa, xb, xi, xn, xr, xd, xs⟩ ef0 _ := DC.start R
  unfold MA.cells ef0 at D2
  simp only at D2
  have hmi : (m : Int) < (t.n : Int) := by omega
  have HHM : Hid (t.hasM (m : Int) = true) := decide_eq_true ⟨by omega, by omega⟩
  clear R
  go_enter Tryd.func40, Tryd.ntmps40
  go_upto_region 1 with fail
  generalize ((w.alloc (.cells #[.int .i64 8, .int .i64 xa, .int .i64 xb, .int .i64 xi, .int .i64 xn, .int .i64 xr, .int .i64 xd, .int .i64 xs] 35)).alloc (.cells #[.slice none 0 0, .int .i64 0, .int .i64 0, .int .i64 0, .int .i64 0, .int .i64 0, .int .i64 0] 73)) = W2 at D2 ⊢
  have HD2 := hid D2
  clear D2
  go_wp2_with (first
    | (go_at_call 41; go_loud (refine (m_made HD2.out.R).mono ?_; rintro e w' ⟨rfl, n1, rfl⟩; have HD3 : Hid (DC w b b t ⟨8, xa, xb, xi, xn, xr, xd, xs⟩ ef0 (W2.drewN n1)) := HD2.out.kp0 (Kp.draw _ n1)))
    | (go_at_call 73; go_loud (refine (m_ways _).mono ?_; rintro e w4 ⟨rfl, hk4⟩; have HD4 : Hid (DC w b b t ⟨8, xa, xb, xi, xn, xr, xd, xs⟩ ef0 (w4)) := HD3.out.kp0 (hk4); obtain ⟨ht, hkn, hrn⟩ := fillN (vs := wayc) (Blk.new w4 100 #[.int .i64 0, .nilFunc, .int .i64 0, .nilFunc, .int .i64 0, .nilFunc, .int .i64 0, .nilFunc, .int .i64 0, .nilFunc, .int .i64 0, .nilFunc, .int .i64 0, .nilFunc, .int .i64 0, .nilFunc, .int .i64 0, .nilFunc, .int .i64 0, .nilFunc, .int .i64 0, .nilFunc, .int .i64 0, .nilFunc]) rfl (Kp.new w4 _) (Nat.le_refl _); have HT := hid ht; have HKN := hid hkn; have HRN := hid hrn; clear ht hkn hrn hk4))
    | (refine wpList_store_mid (by rfl) 100 (.tmp 8) (.tmp 16) (by rfl) w4.heap.size 0 wayc (by rfl) (by rfl) HT.out wayInfo wayOne ?_; have HD5 : Hid (DC w b b t ⟨8, xa, xb, xi, xn, xr, xd, xs⟩ ef0 ((w4.alloc (.cells #[.int .i64 0, .nilFunc, .int .i64 0, .nilFunc, .int .i64 0, .nilFunc, .int .i64 0, .nilFunc, .int .i64 0, .nilFunc, .int .i64 0, .nilFunc, .int .i64 0, .nilFunc, .int .i64 0, .nilFunc, .int .i64 0, .nilFunc, .int .i64 0, .nilFunc, .int .i64 0, .nilFunc, .int .i64 0, .nilFunc] 100)).setCells w4.heap.size 0 wayc.toList)) := HD4.out.kp0 (HKN.out); generalize (w4.alloc (.cells #[.int .i64 0, .nilFunc, .int .i64 0, .nilFunc, .int .i64 0, .nilFunc, .int .i64 0, .nilFunc, .int .i64 0, .nilFunc, .int .i64 0, .nilFunc, .int .i64 0, .nilFunc, .int .i64 0, .nilFunc, .int .i64 0, .nilFunc, .int .i64 0, .nilFunc, .int .i64 0, .nilFunc, .int .i64 0, .nilFunc] 100)).setCells w4.heap.size 0 wayc.toList = w5 at HD5 HRN ⊢; have a50 : w5.cell? ⟨w.heap.size, 0, none⟩ = some (.int .i64 8) := HD5.out.A.cell 0)
    | (go_at_call 59; go_loud (refine (m_hasMutator HD5.out.R _).mono ?_; rw [HHM.out]; rintro e w' ⟨rfl, rfl⟩)))
  obtain ⟨cs, hcs1, hcs2, hb0⟩ := HD5.out.R.c0
  unfold maxLen at hcs2
  have r1 : w5.cell? ⟨w4.heap.size, 16, none⟩ = some (.int .i64 0) := by simpa using HRN.out 16 _ rfl
  have r2 : w5.cell? ⟨w4.heap.size, 17, none⟩ = some (.func (.func 91) #[] #[]) := by simpa using HRN.out 17 _ rfl
  have HLT : Hid (w.heap.size + 2 ≤ w4.heap.size) := HD4.out.E.lt
  refine wp_region_held_drew (S := (fun wz => wz.cell? ⟨w.heap.size, 0, none⟩ = some (.int .i64 8) ∧ wz.cell? ⟨w4.heap.size, 16, none⟩ = some (.int .i64 0) ∧ wz.cell? ⟨w4.heap.size, 17, none⟩ = some (.func (.func 91) #[] #[]) ∧ wz.cell? ⟨b.g, 0, none⟩ = some (.slice (some ⟨b.sb, 0, none⟩) t.n cs))) (by kernel_rfl) ?_ (fun hHeld => ?_)
  · exact ⟨cell_kp (Kp.draw _ 1) a50, cell_kp (Kp.draw _ 1) r1, cell_kp (Kp.draw _ 1) r2, cell_kp (Kp.draw _ 1) hb0⟩
  have HD6 : Hid (DC w b b t ⟨8, xa, xb, xi, xn, xr, xd, xs⟩ ef0 (w5.drew)) := HD5.out.kp0 (Kp.draw _ 1)
  clear a50 r1 r2 hb0
  generalize w5.drew = w6 at HD6 hHeld ⊢
  have HL4 : Hid (w4.heap.size < w6.heap.size) := cell_lt hHeld.2.1
  have HLW : Hid (w.heap.size + 2 ≤ w6.heap.size) := HD6.out.E.lt
  have HLG : Hid (b.g < w6.heap.size) := cell_lt hHeld.2.2.2
  obtain ⟨ht, hkn, hrn⟩ := fillN (vs := #[.int .i64 0, .func (.func 91) #[] #[]]) (Blk.new w6 99 #[.int .i64 0, .nilFunc]) rfl (Kp.new w6 _) (Nat.le_refl _)
  have HT6 := hid ht
  have HKN6 := hid hkn
  have HRN6 := hid hrn
  clear ht hkn hrn
  refine wpAnyH_take (i := 0) (v := _) rfl (by kernel_rfl) (by kernel_rfl) (by kernel_rfl) (fun _ _ _ h => h) (Or.inl ⟨by rfl, by (intro wz hSw; go_simp; try with_reducible rfl)⟩) (by assumption) ?_
  try simp only [List.getElem_toArray, List.getElem_cons_zero, List.getElem_cons_succ, Act.put, List.setIfInBounds_toArray, List.set_cons_zero, List.set_cons_succ]
  refine wpAnyH_take (i := 1) (v := _) rfl (by kernel_rfl) (by kernel_rfl) (by kernel_rfl) (fun _ _ _ h => h) (Or.inl ⟨by rfl, by (intro wz hSw; have hca := hSw.1; go_simp; try with_reducible rfl)⟩) (by assumption) ?_
  try simp only [List.getElem_toArray, List.getElem_cons_zero, List.getElem_cons_succ, Act.put, List.setIfInBounds_toArray, List.set_cons_zero, List.set_cons_succ]
  refine wpAnyH_take (i := 2) (v := _) rfl (by kernel_rfl) (by kernel_rfl) (by kernel_rfl) (fun _ _ _ h => h) (Or.inl ⟨by rfl, by (intro wz hSw; go_simp; try with_reducible rfl)⟩) (by assumption) ?_
  try simp only [List.getElem_toArray, List.getElem_cons_zero, List.getElem_cons_succ, Act.put, List.setIfInBounds_toArray, List.set_cons_zero, List.set_cons_succ]
  refine wpAnyH_take (i := 3) (v := _) rfl (by kernel_rfl) (by kernel_rfl) (by kernel_rfl) (fun _ _ _ h => h) (Or.inl ⟨by rfl, by (intro wz hSw; have hca := hSw.2.1; have hcb := hSw.2.2.1; go_simp; try with_reducible rfl)⟩) (by assumption) ?_
  try simp only [List.getElem_toArray, List.getElem_cons_zero, List.getElem_cons_succ, Act.put, List.setIfInBounds_toArray, List.set_cons_zero, List.set_cons_succ]
  refine wpAnyH_take (i := 4) (v := _) rfl (by kernel_rfl) (by kernel_rfl) (by kernel_rfl) (fun _ _ _ h => h) (Or.inl ⟨by rfl, by (intro wz hSw; go_simp; try with_reducible rfl)⟩) (by assumption) ?_
  try simp only [List.getElem_toArray, List.getElem_cons_zero, List.getElem_cons_succ, Act.put, List.setIfInBounds_toArray, List.set_cons_zero, List.set_cons_succ]
  refine wpAnyH_take (i := 5) (v := _) rfl (by kernel_rfl) (by kernel_rfl) (by kernel_rfl) (fun _ _ _ h => h) (Or.inl ⟨by rfl, by (intro wz hSw; go_simp; try with_reducible rfl)⟩) (by assumption) ?_
  try simp only [List.getElem_toArray, List.getElem_cons_zero, List.getElem_cons_succ, Act.put, List.setIfInBounds_toArray, List.set_cons_zero, List.set_cons_succ]
  refine wpAnyH_take (i := 6) (v := _) rfl (by kernel_rfl) (by kernel_rfl) (by kernel_rfl) (fun _ _ _ h => h) (Or.inl ⟨by rfl, by (intro wz hSw; go_simp; try with_reducible rfl)⟩) (by assumption) ?_
  try simp only [List.getElem_toArray, List.getElem_cons_zero, List.getElem_cons_succ, Act.put, List.setIfInBounds_toArray, List.set_cons_zero, List.set_cons_succ]
  refine wpAnyH_take (i := 7) (v := _) rfl (by kernel_rfl) (by kernel_rfl) (by kernel_rfl) (fun _ _ _ h => h) (Or.inl ⟨by rfl, by (intro wz hSw; have hca := hSw.2.2.2; go_simp; try with_reducible rfl)⟩) (by assumption) ?_
  try simp only [List.getElem_toArray, List.getElem_cons_zero, List.getElem_cons_succ, Act.put, List.setIfInBounds_toArray, List.set_cons_zero, List.set_cons_succ]
  refine wpAnyH_take (i := 8) (v := _) rfl (by kernel_rfl) (by kernel_rfl) (by kernel_rfl) (fun _ _ _ h => h) (Or.inl ⟨by rfl, by (intro wz hSw; go_simp; try with_reducible rfl)⟩) (by assumption) ?_
  try simp only [List.getElem_toArray, List.getElem_cons_zero, List.getElem_cons_succ, Act.put, List.setIfInBounds_toArray, List.set_cons_zero, List.set_cons_succ]
  refine wpAnyH_take (i := 9) (v := _) rfl (by kernel_rfl) (by kernel_rfl) (by kernel_rfl) (fun _ _ _ h => h) (Or.inl ⟨by rfl, by (intro wz hSw; go_simp; try with_reducible rfl)⟩) (by assumption) ?_
  try simp only [List.getElem_toArray, List.getElem_cons_zero, List.getElem_cons_succ, Act.put, List.setIfInBounds_toArray, List.set_cons_zero, List.set_cons_succ]
  refine wpAnyH_ready (rs := [10]) (by kernel_rfl) (by simp) ?_
  refine AllReadyH.cons rfl (fun K hK => ?_) AllReadyH.nil
  go_simp
  refine hK.out _ _ ?_ (fun hHeld => ?_)
  · exact ⟨cell_kp (Kp.new _ _) hHeld.1, cell_kp (Kp.new _ _) hHeld.2.1, cell_kp (Kp.new _ _) hHeld.2.2.1, cell_kp (Kp.new _ _) hHeld.2.2.2⟩
  clear hK K
  refine wpAnyH_ready (rs := [11]) (by kernel_rfl) (by simp) ?_
  refine AllReadyH.cons rfl (fun K hK => ?_) AllReadyH.nil
  refine step_store_mid (by rfl) 99 (.tmp 9) (.tmp 35) (by rfl) w6.heap.size 0 #[.int .i64 0, .func (.func 91) #[] #[]] (by rfl) (by rfl) HT6.out wayInfo2 (twoOne rfl) ?_
  refine hK.out _ _ ?_ (fun hHeld => ?_)
  · exact ⟨cell_kps (Kp.setCells _ _ _ _) hHeld.1 (by simp; have := HL4.out; have := HLW.out; have := HLG.out; omega), cell_kps (Kp.setCells _ _ _ _) hHeld.2.1 (by simp; have := HL4.out; have := HLW.out; have := HLG.out; omega), cell_kps (Kp.setCells _ _ _ _) hHeld.2.2.1 (by simp; have := HL4.out; have := HLW.out; have := HLG.out; omega), cell_kps (Kp.setCells _ _ _ _) hHeld.2.2.2 (by simp; have := HL4.out; have := HLW.out; have := HLG.out; omega)⟩
  clear hK K
  refine wpAnyH_take (i := 12) (v := _) rfl (by kernel_rfl) (by kernel_rfl) (by kernel_rfl) (fun _ _ _ h => h) (Or.inl ⟨by rfl, by (intro wz hSw; go_simp; try with_reducible rfl)⟩) (by assumption) ?_
  try simp only [List.getElem_toArray, List.getElem_cons_zero, List.getElem_cons_succ, Act.put, List.setIfInBounds_toArray, List.set_cons_zero, List.set_cons_succ]
  refine wpAnyH_done (by kernel_rfl) ?_ _
  clear hHeld
  have HD7 : Hid (DC w b b t ⟨8, xa, xb, xi, xn, xr, xd, xs⟩ ef0 ((w6.alloc (.cells #[.int .i64 0, .nilFunc] 99)).setCells w6.heap.size 0 (#[.int .i64 0, .func (.func 91) #[] #[]] : Array Value).toList)) := HD6.out.kp0 (HKN6.out)
  generalize (w6.alloc (.cells #[.int .i64 0, .nilFunc] 99)).setCells w6.heap.size 0 (#[.int .i64 0, .func (.func 91) #[] #[]] : Array Value).toList = w7 at HD7 HRN6 ⊢
  have z0 : w7.cell? ⟨w6.heap.size, 0, none⟩ = some (.int .i64 0) := by simpa using HRN6.out 0 _ rfl
  have z1 : w7.cell? ⟨w6.heap.size, 1, none⟩ = some (.func (.func 91) #[] #[]) := by simpa using HRN6.out 1 _ rfl
  have a70 : w7.cell? ⟨w.heap.size, 0, none⟩ = some (.int .i64 8) := HD7.out.A.cell 0
  have a71 : w7.cell? ⟨w.heap.size, 1, none⟩ = some (.int .i64 xa) := HD7.out.A.cell 1
  have a72 : w7.cell? ⟨w.heap.size, 2, none⟩ = some (.int .i64 xb) := HD7.out.A.cell 2
  have a73 : w7.cell? ⟨w.heap.size, 3, none⟩ = some (.int .i64 xi) := HD7.out.A.cell 3
  have a74 : w7.cell? ⟨w.heap.size, 4, none⟩ = some (.int .i64 xn) := HD7.out.A.cell 4
  have a75 : w7.cell? ⟨w.heap.size, 5, none⟩ = some (.int .i64 xr) := HD7.out.A.cell 5
  have a76 : w7.cell? ⟨w.heap.size, 6, none⟩ = some (.int .i64 xd) := HD7.out.A.cell 6
  have a77 : w7.cell? ⟨w.heap.size, 7, none⟩ = some (.int .i64 xs) := HD7.out.A.cell 7
  go_wp2_with (first
    | (go_at_call 74; go_loud (refine (HCK2.out _ HD7.out.R).mono ?_; rintro e w8 ⟨rfl, hk8⟩; have HD8 : Hid (DC w b b t ⟨8, xa, xb, xi, xn, xr, xd, xs⟩ ef0 (w8)) := HD7.out.kp0 (hk8); have a80 : w8.cell? ⟨w.heap.size, 0, none⟩ = some (.int .i64 8) := HD8.out.A.cell 0; have a81 : w8.cell? ⟨w.heap.size, 1, none⟩ = some (.int .i64 xa) := HD8.out.A.cell 1; have a82 : w8.cell? ⟨w.heap.size, 2, none⟩ = some (.int .i64 xb) := HD8.out.A.cell 2; have a83 : w8.cell? ⟨w.heap.size, 3, none⟩ = some (.int .i64 xi) := HD8.out.A.cell 3; have a84 : w8.cell? ⟨w.heap.size, 4, none⟩ = some (.int .i64 xn) := HD8.out.A.cell 4; have a85 : w8.cell? ⟨w.heap.size, 5, none⟩ = some (.int .i64 xr) := HD8.out.A.cell 5; have a86 : w8.cell? ⟨w.heap.size, 6, none⟩ = some (.int .i64 xd) := HD8.out.A.cell 6; have a87 : w8.cell? ⟨w.heap.size, 7, none⟩ = some (.int .i64 xs) := HD8.out.A.cell 7; have z81 := cell_kp hk8 z1; obtain ⟨hth, hch, hrg⟩ := DC.fin (ef' := #[.slice none 0 0, .int .i64 0, .int .i64 0, .int .i64 0, .int .i64 0, .int .i64 0, .int .i64 0]) HD8.out rfl rfl; have HTH := hid hth; have HCH := hid hch; have HRG := hid hrg; clear hth hch hrg hk8))
    | (refine wpList_store_mid (by rfl) 73 (.tmp 6) (.tmp 49) (by rfl) (w.heap.size + 1) 0 #[.slice none 0 0, .int .i64 0, .int .i64 0, .int .i64 0, .int .i64 0, .int .i64 0, .int .i64 0] (by rfl) (by rfl) HTH.out effInfo effOne ?_))
  generalize w8.setCells (w.heap.size + 1) 0 (#[.slice none 0 0, .int .i64 0, .int .i64 0, .int .i64 0, .int .i64 0, .int .i64 0, .int .i64 0] : Array Value).toList = W9 at HCH HRG ⊢
  have g0 : W9.cell? ⟨w.heap.size + 1, 0, none⟩ = some (.slice none 0 0) := by simpa using HRG.out 0 _ rfl
  have g1 : W9.cell? ⟨w.heap.size + 1, 1, none⟩ = some (.int .i64 0) := by simpa using HRG.out 1 _ rfl
  have g2 : W9.cell? ⟨w.heap.size + 1, 2, none⟩ = some (.int .i64 0) := by simpa using HRG.out 2 _ rfl
  have g3 : W9.cell? ⟨w.heap.size + 1, 3, none⟩ = some (.int .i64 0) := by simpa using HRG.out 3 _ rfl
  have g4 : W9.cell? ⟨w.heap.size + 1, 4, none⟩ = some (.int .i64 0) := by simpa using HRG.out 4 _ rfl
  have g5 : W9.cell? ⟨w.heap.size + 1, 5, none⟩ = some (.int .i64 0) := by simpa using HRG.out 5 _ rfl
  have g6 : W9.cell? ⟨w.heap.size + 1, 6, none⟩ = some (.int .i64 0) := by simpa using HRG.out 6 _ rfl
  refine bodyPost_ret (v := .tuple #[.agg #[.slice none 0 0, .int .i64 0, .int .i64 0, .int .i64 0, .int .i64 0, .int .i64 0, .int .i64 0], .int .i64 er]) ?_ rfl ⟨rfl, HCH.out⟩
  simp [results, Tryd.results40, asAddr, Act.put, go_sem, g0, g1, g2, g3, g4, g5, g6]
set_option maxRecDepth 100000 in
set_option maxHeartbeats 1000000 in
theorem m_do9_ok (R : MR w b t) (m : Nat) (hm : m < t.n) (xa xb xi xn xr xd xs : Int) (eo ei eold enew emade eload : Int) (zs : List Int) (HCK : ∀ W, MR W b t → Calls Tryd.prog 74 #[.pointer (some ⟨b.g, 0, none⟩), .agg #[.int .i64 64, .func (.func 92) #[] #[]], .pointer (some ⟨b.sb, m * 16, none⟩), .agg #[.int .i64 9, .int .i64 xa, .int .i64 xb, .int .i64 xi, .int .i64 xn, .int .i64 xr, .int .i64 xd, .int .i64 xs]] W fun e w' => e = .returned (.int .i64 0) ∧ Kp [] W w') (HDO : ∀ W, MR W b t → Calls Tryd.prog 92 #[.pointer (some ⟨b.g, 0, none⟩), .pointer (some ⟨b.sb, m * 16, none⟩), .agg #[.int .i64 9, .int .i64 xa, .int .i64 xb, .int .i64 xi, .int .i64 xn, .int .i64 xr, .int .i64 xd, .int .i64 xs]] W fun e w' => ∃ A n c, e = .returned (.agg #[.slice A n c, .int .i64 eo, .int .i64 ei, .int .i64 eold, .int .i64 enew, .int .i64 emade, .int .i64 eload]) ∧ ChgM W b t' w' ∧ FarI w' W.heap.size (.slice A n c) zs) :
    Calls Tryd.prog 40 #[.pointer (some ⟨b.g, 0, none⟩), .int .i64 (m : Int), .agg #[.int .i64 9, .int .i64 xa, .int .i64 xb, .int .i64 xi, .int .i64 xn, .int .i64 xr, .int .i64 xd, .int .i64 xs]] w fun e w' => ∃ A n c, e = .returned (.tuple #[.agg #[.slice A n c, .int .i64 eo, .int .i64 ei, .int .i64 eold, .int .i64 enew, .int .i64 emade, .int .i64 eload], .int .i64 0]) ∧ ChgM w b t' w' ∧ FarI w' w.heap.size (.slice A n c) zs := by
  have HCK2 := hid HCK
  clear HCK
  have HDO2 := hid HDO
  clear HDO
  have h4 := R.ok.n4
  have D2 : DC w b b t ⟨9, xa, xb, xi, xn, xr, xd, xs⟩ ef0 _ := DC.start R
  unfold MA.cells ef0 at D2
  simp only at D2
  have hmi : (m : Int) < (t.n : Int) := by omega
  have HHM : Hid (t.hasM (m : Int) = true) := decide_eq_true ⟨by omega, by omega⟩
  clear R
  go_enter Tryd.func40, Tryd.ntmps40
  go_upto_region 1 with fail
  generalize ((w.alloc (.cells #[.int .i64 9, .int .i64 xa, .int .i64 xb, .int .i64 xi, .int .i64 xn, .int .i64 xr, .int .i64 xd, .int .i64 xs] 35)).alloc (.cells #[.slice none 0 0, .int .i64 0, .int .i64 0, .int .i64 0, .int .i64 0, .int .i64 0, .int .i64 0] 73)) = W2 at D2 ⊢
  have HD2 := hid D2
  clear D2
  go_wp2_with (first
    | (go_at_call 41; go_loud (refine (m_made HD2.out.R).mono ?_; rintro e w' ⟨rfl, n1, rfl⟩; have HD3 : Hid (DC w b b t ⟨9, xa, xb, xi, xn, xr, xd, xs⟩ ef0 (W2.drewN n1)) := HD2.out.kp0 (Kp.draw _ n1)))
    | (go_at_call 73; go_loud (refine (m_ways _).mono ?_; rintro e w4 ⟨rfl, hk4⟩; have HD4 : Hid (DC w b b t ⟨9, xa, xb, xi, xn, xr, xd, xs⟩ ef0 (w4)) := HD3.out.kp0 (hk4); obtain ⟨ht, hkn, hrn⟩ := fillN (vs := wayc) (Blk.new w4 100 #[.int .i64 0, .nilFunc, .int .i64 0, .nilFunc, .int .i64 0, .nilFunc, .int .i64 0, .nilFunc, .int .i64 0, .nilFunc, .int .i64 0, .nilFunc, .int .i64 0, .nilFunc, .int .i64 0, .nilFunc, .int .i64 0, .nilFunc, .int .i64 0, .nilFunc, .int .i64 0, .nilFunc, .int .i64 0, .nilFunc]) rfl (Kp.new w4 _) (Nat.le_refl _); have HT := hid ht; have HKN := hid hkn; have HRN := hid hrn; clear ht hkn hrn hk4))
    | (refine wpList_store_mid (by rfl) 100 (.tmp 8) (.tmp 16) (by rfl) w4.heap.size 0 wayc (by rfl) (by rfl) HT.out wayInfo wayOne ?_; have HD5 : Hid (DC w b b t ⟨9, xa, xb, xi, xn, xr, xd, xs⟩ ef0 ((w4.alloc (.cells #[.int .i64 0, .nilFunc, .int .i64 0, .nilFunc, .int .i64 0, .nilFunc, .int .i64 0, .nilFunc, .int .i64 0, .nilFunc, .int .i64 0, .nilFunc, .int .i64 0, .nilFunc, .int .i64 0, .nilFunc, .int .i64 0, .nilFunc, .int .i64 0, .nilFunc, .int .i64 0, .nilFunc, .int .i64 0, .nilFunc] 100)).setCells w4.heap.size 0 wayc.toList)) := HD4.out.kp0 (HKN.out); generalize (w4.alloc (.cells #[.int .i64 0, .nilFunc, .int .i64 0, .nilFunc, .int .i64 0, .nilFunc, .int .i64 0, .nilFunc, .int .i64 0, .nilFunc, .int .i64 0, .nilFunc, .int .i64 0, .nilFunc, .int .i64 0, .nilFunc, .int .i64 0, .nilFunc, .int .i64 0, .nilFunc, .int .i64 0, .nilFunc, .int .i64 0, .nilFunc] 100)).setCells w4.heap.size 0 wayc.toList = w5 at HD5 HRN ⊢; have a50 : w5.cell? ⟨w.heap.size, 0, none⟩ = some (.int .i64 9) := HD5.out.A.cell 0)
    | (go_at_call 59; go_loud (refine (m_hasMutator HD5.out.R _).mono ?_; rw [HHM.out]; rintro e w' ⟨rfl, rfl⟩)))
  obtain ⟨cs, hcs1, hcs2, hb0⟩ := HD5.out.R.c0
  unfold maxLen at hcs2
  have r1 : w5.cell? ⟨w4.heap.size, 18, none⟩ = some (.int .i64 64) := by simpa using HRN.out 18 _ rfl
  have r2 : w5.cell? ⟨w4.heap.size, 19, none⟩ = some (.func (.func 92) #[] #[]) := by simpa using HRN.out 19 _ rfl
  have HLT : Hid (w.heap.size + 2 ≤ w4.heap.size) := HD4.out.E.lt
  refine wp_region_held_drew (S := (fun wz => wz.cell? ⟨w.heap.size, 0, none⟩ = some (.int .i64 9) ∧ wz.cell? ⟨w4.heap.size, 18, none⟩ = some (.int .i64 64) ∧ wz.cell? ⟨w4.heap.size, 19, none⟩ = some (.func (.func 92) #[] #[]) ∧ wz.cell? ⟨b.g, 0, none⟩ = some (.slice (some ⟨b.sb, 0, none⟩) t.n cs))) (by kernel_rfl) ?_ (fun hHeld => ?_)
  · exact ⟨cell_kp (Kp.draw _ 1) a50, cell_kp (Kp.draw _ 1) r1, cell_kp (Kp.draw _ 1) r2, cell_kp (Kp.draw _ 1) hb0⟩
  have HD6 : Hid (DC w b b t ⟨9, xa, xb, xi, xn, xr, xd, xs⟩ ef0 (w5.drew)) := HD5.out.kp0 (Kp.draw _ 1)
  clear a50 r1 r2 hb0
  generalize w5.drew = w6 at HD6 hHeld ⊢
  have HL4 : Hid (w4.heap.size < w6.heap.size) := cell_lt hHeld.2.1
  have HLW : Hid (w.heap.size + 2 ≤ w6.heap.size) := HD6.out.E.lt
  have HLG : Hid (b.g < w6.heap.size) := cell_lt hHeld.2.2.2
  obtain ⟨ht, hkn, hrn⟩ := fillN (vs := #[.int .i64 64, .func (.func 92) #[] #[]]) (Blk.new w6 99 #[.int .i64 0, .nilFunc]) rfl (Kp.new w6 _) (Nat.le_refl _)
  have HT6 := hid ht
  have HKN6 := hid hkn
  have HRN6 := hid hrn
  clear ht hkn hrn
  refine wpAnyH_take (i := 0) (v := _) rfl (by kernel_rfl) (by kernel_rfl) (by kernel_rfl) (fun _ _ _ h => h) (Or.inl ⟨by rfl, by (intro wz hSw; go_simp; try with_reducible rfl)⟩) (by assumption) ?_
  try simp only [List.getElem_toArray, List.getElem_cons_zero, List.getElem_cons_succ, Act.put, List.setIfInBounds_toArray, List.set_cons_zero, List.set_cons_succ]
  refine wpAnyH_take (i := 1) (v := _) rfl (by kernel_rfl) (by kernel_rfl) (by kernel_rfl) (fun _ _ _ h => h) (Or.inl ⟨by rfl, by (intro wz hSw; have hca := hSw.1; go_simp; try with_reducible rfl)⟩) (by assumption) ?_
  try simp only [List.getElem_toArray, List.getElem_cons_zero, List.getElem_cons_succ, Act.put, List.setIfInBounds_toArray, List.set_cons_zero, List.set_cons_succ]
  refine wpAnyH_take (i := 2) (v := _) rfl (by kernel_rfl) (by kernel_rfl) (by kernel_rfl) (fun _ _ _ h => h) (Or.inl ⟨by rfl, by (intro wz hSw; go_simp; try with_reducible rfl)⟩) (by assumption) ?_
  try simp only [List.getElem_toArray, List.getElem_cons_zero, List.getElem_cons_succ, Act.put, List.setIfInBounds_toArray, List.set_cons_zero, List.set_cons_succ]
  refine wpAnyH_take (i := 3) (v := _) rfl (by kernel_rfl) (by kernel_rfl) (by kernel_rfl) (fun _ _ _ h => h) (Or.inl ⟨by rfl, by (intro wz hSw; have hca := hSw.2.1; have hcb := hSw.2.2.1; go_simp; try with_reducible rfl)⟩) (by assumption) ?_
  try simp only [List.getElem_toArray, List.getElem_cons_zero, List.getElem_cons_succ, Act.put, List.setIfInBounds_toArray, List.set_cons_zero, List.set_cons_succ]
  refine wpAnyH_take (i := 4) (v := _) rfl (by kernel_rfl) (by kernel_rfl) (by kernel_rfl) (fun _ _ _ h => h) (Or.inl ⟨by rfl, by (intro wz hSw; go_simp; try with_reducible rfl)⟩) (by assumption) ?_
  try simp only [List.getElem_toArray, List.getElem_cons_zero, List.getElem_cons_succ, Act.put, List.setIfInBounds_toArray, List.set_cons_zero, List.set_cons_succ]
  refine wpAnyH_take (i := 5) (v := _) rfl (by kernel_rfl) (by kernel_rfl) (by kernel_rfl) (fun _ _ _ h => h) (Or.inl ⟨by rfl, by (intro wz hSw; go_simp; try with_reducible rfl)⟩) (by assumption) ?_
  try simp only [List.getElem_toArray, List.getElem_cons_zero, List.getElem_cons_succ, Act.put, List.setIfInBounds_toArray, List.set_cons_zero, List.set_cons_succ]
  refine wpAnyH_take (i := 6) (v := _) rfl (by kernel_rfl) (by kernel_rfl) (by kernel_rfl) (fun _ _ _ h => h) (Or.inl ⟨by rfl, by (intro wz hSw; go_simp; try with_reducible rfl)⟩) (by assumption) ?_
  try simp only [List.getElem_toArray, List.getElem_cons_zero, List.getElem_cons_succ, Act.put, List.setIfInBounds_toArray, List.set_cons_zero, List.set_cons_succ]
  refine wpAnyH_take (i := 7) (v := _) rfl (by kernel_rfl) (by kernel_rfl) (by kernel_rfl) (fun _ _ _ h => h) (Or.inl ⟨by rfl, by (intro wz hSw; have hca := hSw.2.2.2; go_simp; try with_reducible rfl)⟩) (by assumption) ?_
  try simp only [List.getElem_toArray, List.getElem_cons_zero, List.getElem_cons_succ, Act.put, List.setIfInBounds_toArray, List.set_cons_zero, List.set_cons_succ]
  refine wpAnyH_take (i := 8) (v := _) rfl (by kernel_rfl) (by kernel_rfl) (by kernel_rfl) (fun _ _ _ h => h) (Or.inl ⟨by rfl, by (intro wz hSw; go_simp; try with_reducible rfl)⟩) (by assumption) ?_
  try simp only [List.getElem_toArray, List.getElem_cons_zero, List.getElem_cons_succ, Act.put, List.setIfInBounds_toArray, List.set_cons_zero, List.set_cons_succ]
  refine wpAnyH_take (i := 9) (v := _) rfl (by kernel_rfl) (by kernel_rfl) (by kernel_rfl) (fun _ _ _ h => h) (Or.inl ⟨by rfl, by (intro wz hSw; go_simp; try with_reducible rfl)⟩) (by assumption) ?_
  try simp only [List.getElem_toArray, List.getElem_cons_zero, List.getElem_cons_succ, Act.put, List.setIfInBounds_toArray, List.set_cons_zero, List.set_cons_succ]
  refine wpAnyH_ready (rs := [10]) (by kernel_rfl) (by simp) ?_
  refine AllReadyH.cons rfl (fun K hK => ?_) AllReadyH.nil
  go_simp
  refine hK.out _ _ ?_ (fun hHeld => ?_)
  · exact ⟨cell_kp (Kp.new _ _) hHeld.1, cell_kp (Kp.new _ _) hHeld.2.1, cell_kp (Kp.new _ _) hHeld.2.2.1, cell_kp (Kp.new _ _) hHeld.2.2.2⟩
  clear hK K
  refine wpAnyH_ready (rs := [11]) (by kernel_rfl) (by simp) ?_
  refine AllReadyH.cons rfl (fun K hK => ?_) AllReadyH.nil
  refine step_store_mid (by rfl) 99 (.tmp 9) (.tmp 35) (by rfl) w6.heap.size 0 #[.int .i64 64, .func (.func 92) #[] #[]] (by rfl) (by rfl) HT6.out wayInfo2 (twoOne rfl) ?_
  refine hK.out _ _ ?_ (fun hHeld => ?_)
  · exact ⟨cell_kps (Kp.setCells _ _ _ _) hHeld.1 (by simp; have := HL4.out; have := HLW.out; have := HLG.out; omega), cell_kps (Kp.setCells _ _ _ _) hHeld.2.1 (by simp; have := HL4.out; have := HLW.out; have := HLG.out; omega), cell_kps (Kp.setCells _ _ _ _) hHeld.2.2.1 (by simp; have := HL4.out; have := HLW.out; have := HLG.out; omega), cell_kps (Kp.setCells _ _ _ _) hHeld.2.2.2 (by simp; have := HL4.out; have := HLW.out; have := HLG.out; omega)⟩
  clear hK K
  refine wpAnyH_take (i := 12) (v := _) rfl (by kernel_rfl) (by kernel_rfl) (by kernel_rfl) (fun _ _ _ h => h) (Or.inl ⟨by rfl, by (intro wz hSw; go_simp; try with_reducible rfl)⟩) (by assumption) ?_
  try simp only [List.getElem_toArray, List.getElem_cons_zero, List.getElem_cons_succ, Act.put, List.setIfInBounds_toArray, List.set_cons_zero, List.set_cons_succ]
  refine wpAnyH_done (by kernel_rfl) ?_ _
  clear hHeld
  have HD7 : Hid (DC w b b t ⟨9, xa, xb, xi, xn, xr, xd, xs⟩ ef0 ((w6.alloc (.cells #[.int .i64 0, .nilFunc] 99)).setCells w6.heap.size 0 (#[.int .i64 64, .func (.func 92) #[] #[]] : Array Value).toList)) := HD6.out.kp0 (HKN6.out)
  generalize (w6.alloc (.cells #[.int .i64 0, .nilFunc] 99)).setCells w6.heap.size 0 (#[.int .i64 64, .func (.func 92) #[] #[]] : Array Value).toList = w7 at HD7 HRN6 ⊢
  have z0 : w7.cell? ⟨w6.heap.size, 0, none⟩ = some (.int .i64 64) := by simpa using HRN6.out 0 _ rfl
  have z1 : w7.cell? ⟨w6.heap.size, 1, none⟩ = some (.func (.func 92) #[] #[]) := by simpa using HRN6.out 1 _ rfl
  have a70 : w7.cell? ⟨w.heap.size, 0, none⟩ = some (.int .i64 9) := HD7.out.A.cell 0
  have a71 : w7.cell? ⟨w.heap.size, 1, none⟩ = some (.int .i64 xa) := HD7.out.A.cell 1
  have a72 : w7.cell? ⟨w.heap.size, 2, none⟩ = some (.int .i64 xb) := HD7.out.A.cell 2
  have a73 : w7.cell? ⟨w.heap.size, 3, none⟩ = some (.int .i64 xi) := HD7.out.A.cell 3
  have a74 : w7.cell? ⟨w.heap.size, 4, none⟩ = some (.int .i64 xn) := HD7.out.A.cell 4
  have a75 : w7.cell? ⟨w.heap.size, 5, none⟩ = some (.int .i64 xr) := HD7.out.A.cell 5
  have a76 : w7.cell? ⟨w.heap.size, 6, none⟩ = some (.int .i64 xd) := HD7.out.A.cell 6
  have a77 : w7.cell? ⟨w.heap.size, 7, none⟩ = some (.int .i64 xs) := HD7.out.A.cell 7
  go_wp2_with (first
    | (go_at_call 74; go_loud (refine (HCK2.out _ HD7.out.R).mono ?_; rintro e w8 ⟨rfl, hk8⟩; have HD8 : Hid (DC w b b t ⟨9, xa, xb, xi, xn, xr, xd, xs⟩ ef0 (w8)) := HD7.out.kp0 (hk8); have a80 : w8.cell? ⟨w.heap.size, 0, none⟩ = some (.int .i64 9) := HD8.out.A.cell 0; have a81 : w8.cell? ⟨w.heap.size, 1, none⟩ = some (.int .i64 xa) := HD8.out.A.cell 1; have a82 : w8.cell? ⟨w.heap.size, 2, none⟩ = some (.int .i64 xb) := HD8.out.A.cell 2; have a83 : w8.cell? ⟨w.heap.size, 3, none⟩ = some (.int .i64 xi) := HD8.out.A.cell 3; have a84 : w8.cell? ⟨w.heap.size, 4, none⟩ = some (.int .i64 xn) := HD8.out.A.cell 4; have a85 : w8.cell? ⟨w.heap.size, 5, none⟩ = some (.int .i64 xr) := HD8.out.A.cell 5; have a86 : w8.cell? ⟨w.heap.size, 6, none⟩ = some (.int .i64 xd) := HD8.out.A.cell 6; have a87 : w8.cell? ⟨w.heap.size, 7, none⟩ = some (.int .i64 xs) := HD8.out.A.cell 7; have z81 := cell_kp hk8 z1; clear hk8))
    | (go_at_call 92; go_loud (refine (HDO2.out _ HD8.out.R).mono ?_; rintro e w9 ⟨A, n, c, rfl, hch9, hf9⟩; obtain ⟨b9, e91, e92, D9⟩ := HD8.out.chg hch9; obtain ⟨hth, hch, hrg⟩ := DC.fin (ef' := #[.slice A n c, .int .i64 eo, .int .i64 ei, .int .i64 eold, .int .i64 enew, .int .i64 emade, .int .i64 eload]) D9 rfl rfl; have hfr : FarI (w9.setCells (w.heap.size + 1) 0 (#[.slice A n c, .int .i64 eo, .int .i64 ei, .int .i64 eold, .int .i64 enew, .int .i64 emade, .int .i64 eload] : Array Value).toList) w.heap.size (.slice A n c) zs := (hf9.kp (Kp.setCells w9 (w.heap.size + 1) 0 (#[.slice A n c, .int .i64 eo, .int .i64 ei, .int .i64 eold, .int .i64 enew, .int .i64 emade, .int .i64 eload] : Array Value).toList) (by simp; have := HD8.out.E.lt; omega)).base (by have := HD8.out.E.lt; omega); have HTH := hid hth; have HCH := hid hch; have HRG := hid hrg; have HFR := hid hfr; clear hth hch hrg hfr hch9 hf9 D9 e91 e92))
    | (refine wpList_store_mid (by rfl) 73 (.tmp 6) (.tmp 56) (by rfl) (w.heap.size + 1) 0 #[.slice A n c, .int .i64 eo, .int .i64 ei, .int .i64 eold, .int .i64 enew, .int .i64 emade, .int .i64 eload] (by rfl) (by rfl) HTH.out effInfo effOne ?_))
  generalize w9.setCells (w.heap.size + 1) 0 (#[.slice A n c, .int .i64 eo, .int .i64 ei, .int .i64 eold, .int .i64 enew, .int .i64 emade, .int .i64 eload] : Array Value).toList = W9 at HCH HRG HFR ⊢
  have g0 : W9.cell? ⟨w.heap.size + 1, 0, none⟩ = some (.slice A n c) := by simpa using HRG.out 0 _ rfl
  have g1 : W9.cell? ⟨w.heap.size + 1, 1, none⟩ = some (.int .i64 eo) := by simpa using HRG.out 1 _ rfl
  have g2 : W9.cell? ⟨w.heap.size + 1, 2, none⟩ = some (.int .i64 ei) := by simpa using HRG.out 2 _ rfl
  have g3 : W9.cell? ⟨w.heap.size + 1, 3, none⟩ = some (.int .i64 eold) := by simpa using HRG.out 3 _ rfl
  have g4 : W9.cell? ⟨w.heap.size + 1, 4, none⟩ = some (.int .i64 enew) := by simpa using HRG.out 4 _ rfl
  have g5 : W9.cell? ⟨w.heap.size + 1, 5, none⟩ = some (.int .i64 emade) := by simpa using HRG.out 5 _ rfl
  have g6 : W9.cell? ⟨w.heap.size + 1, 6, none⟩ = some (.int .i64 eload) := by simpa using HRG.out 6 _ rfl
  refine bodyPost_ret (v := .tuple #[.agg #[.slice A n c, .int .i64 eo, .int .i64 ei, .int .i64 eold, .int .i64 enew, .int .i64 emade, .int .i64 eload], .int .i64 0]) ?_ rfl ⟨A, n, c, rfl, HCH.out, HFR.out⟩
  simp [results, Tryd.results40, asAddr, Act.put, go_sem, g0, g1, g2, g3, g4, g5, g6]
set_option maxRecDepth 100000 in
set_option maxHeartbeats 1000000 in
theorem m_do9_no (R : MR w b t) (m : Nat) (hm : m < t.n) (xa xb xi xn xr xd xs : Int) (er : Int) (her : (er != 0) = true) (HCK : ∀ W, MR W b t → Calls Tryd.prog 74 #[.pointer (some ⟨b.g, 0, none⟩), .agg #[.int .i64 64, .func (.func 92) #[] #[]], .pointer (some ⟨b.sb, m * 16, none⟩), .agg #[.int .i64 9, .int .i64 xa, .int .i64 xb, .int .i64 xi, .int .i64 xn, .int .i64 xr, .int .i64 xd, .int .i64 xs]] W fun e w' => e = .returned (.int .i64 er) ∧ Kp [] W w') :
    Calls Tryd.prog 40 #[.pointer (some ⟨b.g, 0, none⟩), .int .i64 (m : Int), .agg #[.int .i64 9, .int .i64 xa, .int .i64 xb, .int .i64 xi, .int .i64 xn, .int .i64 xr, .int .i64 xd, .int .i64 xs]] w fun e w' => e = .returned (.tuple #[.agg #[.slice none 0 0, .int .i64 0, .int .i64 0, .int .i64 0, .int .i64 0, .int .i64 0, .int .i64 0], .int .i64 er]) ∧ ChgM w b t w' := by
  have HCK2 := hid HCK
  clear HCK
  have h4 := R.ok.n4
  have D2 : DC w b b t ⟨9, xa, xb, xi, xn, xr, xd, xs⟩ ef0 _ := DC.start R
  unfold MA.cells ef0 at D2
  simp only at D2
  have hmi : (m : Int) < (t.n : Int) := by omega
  have HHM : Hid (t.hasM (m : Int) = true) := decide_eq_true ⟨by omega, by omega⟩
  clear R
  go_enter Tryd.func40, Tryd.ntmps40
  go_upto_region 1 with fail
  generalize ((w.alloc (.cells #[.int .i64 9, .int .i64 xa, .int .i64 xb, .int .i64 xi, .int .i64 xn, .int .i64 xr, .int .i64 xd, .int .i64 xs] 35)).alloc (.cells #[.slice none 0 0, .int .i64 0, .int .i64 0, .int .i64 0, .int .i64 0, .int .i64 0, .int .i64 0] 73)) = W2 at D2 ⊢
  have HD2 := hid D2
  clear D2
  go_wp2_with (first
    | (go_at_call 41; go_loud (refine (m_made HD2.out.R).mono ?_; rintro e w' ⟨rfl, n1, rfl⟩; have HD3 : Hid (DC w b b t ⟨9, xa, xb, xi, xn, xr, xd, xs⟩ ef0 (W2.drewN n1)) := HD2.out.kp0 (Kp.draw _ n1)))
    | (go_at_call 73; go_loud (refine (m_ways _).mono ?_; rintro e w4 ⟨rfl, hk4⟩; have HD4 : Hid (DC w b b t ⟨9, xa, xb, xi, xn, xr, xd, xs⟩ ef0 (w4)) := HD3.out.kp0 (hk4); obtain ⟨ht, hkn, hrn⟩ := fillN (vs := wayc) (Blk.new w4 100 #[.int .i64 0, .nilFunc, .int .i64 0, .nilFunc, .int .i64 0, .nilFunc, .int .i64 0, .nilFunc, .int .i64 0, .nilFunc, .int .i64 0, .nilFunc, .int .i64 0, .nilFunc, .int .i64 0, .nilFunc, .int .i64 0, .nilFunc, .int .i64 0, .nilFunc, .int .i64 0, .nilFunc, .int .i64 0, .nilFunc]) rfl (Kp.new w4 _) (Nat.le_refl _); have HT := hid ht; have HKN := hid hkn; have HRN := hid hrn; clear ht hkn hrn hk4))
    | (refine wpList_store_mid (by rfl) 100 (.tmp 8) (.tmp 16) (by rfl) w4.heap.size 0 wayc (by rfl) (by rfl) HT.out wayInfo wayOne ?_; have HD5 : Hid (DC w b b t ⟨9, xa, xb, xi, xn, xr, xd, xs⟩ ef0 ((w4.alloc (.cells #[.int .i64 0, .nilFunc, .int .i64 0, .nilFunc, .int .i64 0, .nilFunc, .int .i64 0, .nilFunc, .int .i64 0, .nilFunc, .int .i64 0, .nilFunc, .int .i64 0, .nilFunc, .int .i64 0, .nilFunc, .int .i64 0, .nilFunc, .int .i64 0, .nilFunc, .int .i64 0, .nilFunc, .int .i64 0, .nilFunc] 100)).setCells w4.heap.size 0 wayc.toList)) := HD4.out.kp0 (HKN.out); generalize (w4.alloc (.cells #[.int .i64 0, .nilFunc, .int .i64 0, .nilFunc, .int .i64 0, .nilFunc, .int .i64 0, .nilFunc, .int .i64 0, .nilFunc, .int .i64 0, .nilFunc, .int .i64 0, .nilFunc, .int .i64 0, .nilFunc, .int .i64 0, .nilFunc, .int .i64 0, .nilFunc, .int .i64 0, .nilFunc, .int .i64 0, .nilFunc] 100)).setCells w4.heap.size 0 wayc.toList = w5 at HD5 HRN ⊢; have a50 : w5.cell? ⟨w.heap.size, 0, none⟩ = some (.int .i64 9) := HD5.out.A.cell 0)
    | (go_at_call 59; go_loud (refine (m_hasMutator HD5.out.R _).mono ?_; rw [HHM.out]; rintro e w' ⟨rfl, rfl⟩)))
  obtain ⟨cs, hcs1, hcs2, hb0⟩ := HD5.out.R.c0
  unfold maxLen at hcs2
  have r1 : w5.cell? ⟨w4.heap.size, 18, none⟩ = some (.int .i64 64) := by simpa using HRN.out 18 _ rfl
  have r2 : w5.cell? ⟨w4.heap.size, 19, none⟩ = some (.func (.func 92) #[] #[]) := by simpa using HRN.out 19 _ rfl
  have HLT : Hid (w.heap.size + 2 ≤ w4.heap.size) := HD4.out.E.lt
  refine wp_region_held_drew (S := (fun wz => wz.cell? ⟨w.heap.size, 0, none⟩ = some (.int .i64 9) ∧ wz.cell? ⟨w4.heap.size, 18, none⟩ = some (.int .i64 64) ∧ wz.cell? ⟨w4.heap.size, 19, none⟩ = some (.func (.func 92) #[] #[]) ∧ wz.cell? ⟨b.g, 0, none⟩ = some (.slice (some ⟨b.sb, 0, none⟩) t.n cs))) (by kernel_rfl) ?_ (fun hHeld => ?_)
  · exact ⟨cell_kp (Kp.draw _ 1) a50, cell_kp (Kp.draw _ 1) r1, cell_kp (Kp.draw _ 1) r2, cell_kp (Kp.draw _ 1) hb0⟩
  have HD6 : Hid (DC w b b t ⟨9, xa, xb, xi, xn, xr, xd, xs⟩ ef0 (w5.drew)) := HD5.out.kp0 (Kp.draw _ 1)
  clear a50 r1 r2 hb0
  generalize w5.drew = w6 at HD6 hHeld ⊢
  have HL4 : Hid (w4.heap.size < w6.heap.size) := cell_lt hHeld.2.1
  have HLW : Hid (w.heap.size + 2 ≤ w6.heap.size) := HD6.out.E.lt
  have HLG : Hid (b.g < w6.heap.size) := cell_lt hHeld.2.2.2
  obtain ⟨ht, hkn, hrn⟩ := fillN (vs := #[.int .i64 64, .func (.func 92) #[] #[]]) (Blk.new w6 99 #[.int .i64 0, .nilFunc]) rfl (Kp.new w6 _) (Nat.le_refl _)
  have HT6 := hid ht
  have HKN6 := hid hkn
  have HRN6 := hid hrn
  clear ht hkn hrn
  refine wpAnyH_take (i := 0) (v := _) rfl (by kernel_rfl) (by kernel_rfl) (by kernel_rfl) (fun _ _ _ h => h) (Or.inl ⟨by rfl, by (intro wz hSw; go_simp; try with_reducible rfl)⟩) (by assumption) ?_
  try simp only [List.getElem_toArray, List.getElem_cons_zero, List.getElem_cons_succ, Act.put, List.setIfInBounds_toArray, List.set_cons_zero, List.set_cons_succ]
  refine wpAnyH_take (i := 1) (v := _) rfl (by kernel_rfl) (by kernel_rfl) (by kernel_rfl) (fun _ _ _ h => h) (Or.inl ⟨by rfl, by (intro wz hSw; have hca := hSw.1; go_simp; try with_reducible rfl)⟩) (by assumption) ?_
  try simp only [List.getElem_toArray, List.getElem_cons_zero, List.getElem_cons_succ, Act.put, List.setIfInBounds_toArray, List.set_cons_zero, List.set_cons_succ]
  refine wpAnyH_take (i := 2) (v := _) rfl (by kernel_rfl) (by kernel_rfl) (by kernel_rfl) (fun _ _ _ h => h) (Or.inl ⟨by rfl, by (intro wz hSw; go_simp; try with_reducible rfl)⟩) (by assumption) ?_
  try simp only [List.getElem_toArray, List.getElem_cons_zero, List.getElem_cons_succ, Act.put, List.setIfInBounds_toArray, List.set_cons_zero, List.set_cons_succ]
  refine wpAnyH_take (i := 3) (v := _) rfl (by kernel_rfl) (by kernel_rfl) (by kernel_rfl) (fun _ _ _ h => h) (Or.inl ⟨by rfl, by (intro wz hSw; have hca := hSw.2.1; have hcb := hSw.2.2.1; go_simp; try with_reducible rfl)⟩) (by assumption) ?_
  try simp only [List.getElem_toArray, List.getElem_cons_zero, List.getElem_cons_succ, Act.put, List.setIfInBounds_toArray, List.set_cons_zero, List.set_cons_succ]
  refine wpAnyH_take (i := 4) (v := _) rfl (by kernel_rfl) (by kernel_rfl) (by kernel_rfl) (fun _ _ _ h => h) (Or.inl ⟨by rfl, by (intro wz hSw; go_simp; try with_reducible rfl)⟩) (by assumption) ?_
  try simp only [List.getElem_toArray, List.getElem_cons_zero, List.getElem_cons_succ, Act.put, List.setIfInBounds_toArray, List.set_cons_zero, List.set_cons_succ]
  refine wpAnyH_take (i := 5) (v := _) rfl (by kernel_rfl) (by kernel_rfl) (by kernel_rfl) (fun _ _ _ h => h) (Or.inl ⟨by rfl, by (intro wz hSw; go_simp; try with_reducible rfl)⟩) (by assumption) ?_
  try simp only [List.getElem_toArray, List.getElem_cons_zero, List.getElem_cons_succ, Act.put, List.setIfInBounds_toArray, List.set_cons_zero, List.set_cons_succ]
  refine wpAnyH_take (i := 6) (v := _) rfl (by kernel_rfl) (by kernel_rfl) (by kernel_rfl) (fun _ _ _ h => h) (Or.inl ⟨by rfl, by (intro wz hSw; go_simp; try with_reducible rfl)⟩) (by assumption) ?_
  try simp only [List.getElem_toArray, List.getElem_cons_zero, List.getElem_cons_succ, Act.put, List.setIfInBounds_toArray, List.set_cons_zero, List.set_cons_succ]
  refine wpAnyH_take (i := 7) (v := _) rfl (by kernel_rfl) (by kernel_rfl) (by kernel_rfl) (fun _ _ _ h => h) (Or.inl ⟨by rfl, by (intro wz hSw; have hca := hSw.2.2.2; go_simp; try with_reducible rfl)⟩) (by assumption) ?_
  try simp only [List.getElem_toArray, List.getElem_cons_zero, List.getElem_cons_succ, Act.put, List.setIfInBounds_toArray, List.set_cons_zero, List.set_cons_succ]
  refine wpAnyH_take (i := 8) (v := _) rfl (by kernel_rfl) (by kernel_rfl) (by kernel_rfl) (fun _ _ _ h => h) (Or.inl ⟨by rfl, by (intro wz hSw; go_simp; try with_reducible rfl)⟩) (by assumption) ?_
  try simp only [List.getElem_toArray, List.getElem_cons_zero, List.getElem_cons_succ, Act.put, List.setIfInBounds_toArray, List.set_cons_zero, List.set_cons_succ]
  refine wpAnyH_take (i := 9) (v := _) rfl (by kernel_rfl) (by kernel_rfl) (by kernel_rfl) (fun _ _ _ h => h) (Or.inl ⟨by rfl, by (intro wz hSw; go_simp; try with_reducible rfl)⟩) (by assumption) ?_
  try simp only [List.getElem_toArray, List.getElem_cons_zero, List.getElem_cons_succ, Act.put, List.setIfInBounds_toArray, List.set_cons_zero, List.set_cons_succ]
  refine wpAnyH_ready (rs := [10]) (by kernel_rfl) (by simp) ?_
  refine AllReadyH.cons rfl (fun K hK => ?_) AllReadyH.nil
  go_simp
  refine hK.out _ _ ?_ (fun hHeld => ?_)
  · exact ⟨cell_kp (Kp.new _ _) hHeld.1, cell_kp (Kp.new _ _) hHeld.2.1, cell_kp (Kp.new _ _) hHeld.2.2.1, cell_kp (Kp.new _ _) hHeld.2.2.2⟩
  clear hK K
  refine wpAnyH_ready (rs := [11]) (by kernel_rfl) (by simp) ?_
  refine AllReadyH.cons rfl (fun K hK => ?_) AllReadyH.nil
  refine step_store_mid (by rfl) 99 (.tmp 9) (.tmp 35) (by rfl) w6.heap.size 0 #[.int .i64 64, .func (.func 92) #[] #[]] (by rfl) (by rfl) HT6.out wayInfo2 (twoOne rfl) ?_
  refine hK.out _ _ ?_ (fun hHeld => ?_)
  · exact ⟨cell_kps (Kp.setCells _ _ _ _) hHeld.1 (by simp; have := HL4.out; have := HLW.out; have := HLG.out; omega), cell_kps (Kp.setCells _ _ _ _) hHeld.2.1 (by simp; have := HL4.out; have := HLW.out; have := HLG.out; omega), cell_kps (Kp.setCells _ _ _ _) hHeld.2.2.1 (by simp; have := HL4.out; have := HLW.out; have := HLG.out; omega), cell_kps (Kp.setCells _ _ _ _) hHeld.2.2.2 (by simp; have := HL4.out; have := HLW.out; have := HLG.out; omega)⟩
  clear hK K
  refine wpAnyH_take (i := 12) (v := _) rfl (by kernel_rfl) (by kernel_rfl) (by kernel_rfl) (fun _ _ _ h => h) (Or.inl ⟨by rfl, by (intro wz hSw; go_simp; try with_reducible rfl)⟩) (by assumption) ?_
  try simp only [List.getElem_toArray, List.getElem_cons_zero, List.getElem_cons_succ, Act.put, List.setIfInBounds_toArray, List.set_cons_zero, List.set_cons_succ]
  refine wpAnyH_done (by kernel_rfl) ?_ _
  clear hHeld
  have HD7 : Hid (DC w b b t ⟨9, xa, xb, xi, xn, xr, xd, xs⟩ ef0 ((w6.alloc (.cells #[.int .i64 0, .nilFunc] 99)).setCells w6.heap.size 0 (#[.int .i64 64, .func (.func 92) #[] #[]] : Array Value).toList)) := HD6.out.kp0 (HKN6.out)
  generalize (w6.alloc (.cells #[.int .i64 0, .nilFunc] 99)).setCells w6.heap.size 0 (#[.int .i64 64, .func (.func 92) #[] #[]] : Array Value).toList = w7 at HD7 HRN6 ⊢
  have z0 : w7.cell? ⟨w6.heap.size, 0, none⟩ = some (.int .i64 64) := by simpa using HRN6.out 0 _ rfl
  have z1 : w7.cell? ⟨w6.heap.size, 1, none⟩ = some (.func (.func 92) #[] #[]) := by simpa using HRN6.out 1 _ rfl
  have a70 : w7.cell? ⟨w.heap.size, 0, none⟩ = some (.int .i64 9) := HD7.out.A.cell 0
  have a71 : w7.cell? ⟨w.heap.size, 1, none⟩ = some (.int .i64 xa) := HD7.out.A.cell 1
  have a72 : w7.cell? ⟨w.heap.size, 2, none⟩ = some (.int .i64 xb) := HD7.out.A.cell 2
  have a73 : w7.cell? ⟨w.heap.size, 3, none⟩ = some (.int .i64 xi) := HD7.out.A.cell 3
  have a74 : w7.cell? ⟨w.heap.size, 4, none⟩ = some (.int .i64 xn) := HD7.out.A.cell 4
  have a75 : w7.cell? ⟨w.heap.size, 5, none⟩ = some (.int .i64 xr) := HD7.out.A.cell 5
  have a76 : w7.cell? ⟨w.heap.size, 6, none⟩ = some (.int .i64 xd) := HD7.out.A.cell 6
  have a77 : w7.cell? ⟨w.heap.size, 7, none⟩ = some (.int .i64 xs) := HD7.out.A.cell 7
  go_wp2_with (first
    | (go_at_call 74; go_loud (refine (HCK2.out _ HD7.out.R).mono ?_; rintro e w8 ⟨rfl, hk8⟩; have HD8 : Hid (DC w b b t ⟨9, xa, xb, xi, xn, xr, xd, xs⟩ ef0 (w8)) := HD7.out.kp0 (hk8); have a80 : w8.cell? ⟨w.heap.size, 0, none⟩ = some (.int .i64 9) := HD8.out.A.cell 0; have a81 : w8.cell? ⟨w.heap.size, 1, none⟩ = some (.int .i64 xa) := HD8.out.A.cell 1; have a82 : w8.cell? ⟨w.heap.size, 2, none⟩ = some (.int .i64 xb) := HD8.out.A.cell 2; have a83 : w8.cell? ⟨w.heap.size, 3, none⟩ = some (.int .i64 xi) := HD8.out.A.cell 3; have a84 : w8.cell? ⟨w.heap.size, 4, none⟩ = some (.int .i64 xn) := HD8.out.A.cell 4; have a85 : w8.cell? ⟨w.heap.size, 5, none⟩ = some (.int .i64 xr) := HD8.out.A.cell 5; have a86 : w8.cell? ⟨w.heap.size, 6, none⟩ = some (.int .i64 xd) := HD8.out.A.cell 6; have a87 : w8.cell? ⟨w.heap.size, 7, none⟩ = some (.int .i64 xs) := HD8.out.A.cell 7; have z81 := cell_kp hk8 z1; obtain ⟨hth, hch, hrg⟩ := DC.fin (ef' := #[.slice none 0 0, .int .i64 0, .int .i64 0, .int .i64 0, .int .i64 0, .int .i64 0, .int .i64 0]) HD8.out rfl rfl; have HTH := hid hth; have HCH := hid hch; have HRG := hid hrg; clear hth hch hrg hk8))
    | (refine wpList_store_mid (by rfl) 73 (.tmp 6) (.tmp 49) (by rfl) (w.heap.size + 1) 0 #[.slice none 0 0, .int .i64 0, .int .i64 0, .int .i64 0, .int .i64 0, .int .i64 0, .int .i64 0] (by rfl) (by rfl) HTH.out effInfo effOne ?_))
  generalize w8.setCells (w.heap.size + 1) 0 (#[.slice none 0 0, .int .i64 0, .int .i64 0, .int .i64 0, .int .i64 0, .int .i64 0, .int .i64 0] : Array Value).toList = W9 at HCH HRG ⊢
  have g0 : W9.cell? ⟨w.heap.size + 1, 0, none⟩ = some (.slice none 0 0) := by simpa using HRG.out 0 _ rfl
  have g1 : W9.cell? ⟨w.heap.size + 1, 1, none⟩ = some (.int .i64 0) := by simpa using HRG.out 1 _ rfl
  have g2 : W9.cell? ⟨w.heap.size + 1, 2, none⟩ = some (.int .i64 0) := by simpa using HRG.out 2 _ rfl
  have g3 : W9.cell? ⟨w.heap.size + 1, 3, none⟩ = some (.int .i64 0) := by simpa using HRG.out 3 _ rfl
  have g4 : W9.cell? ⟨w.heap.size + 1, 4, none⟩ = some (.int .i64 0) := by simpa using HRG.out 4 _ rfl
  have g5 : W9.cell? ⟨w.heap.size + 1, 5, none⟩ = some (.int .i64 0) := by simpa using HRG.out 5 _ rfl
  have g6 : W9.cell? ⟨w.heap.size + 1, 6, none⟩ = some (.int .i64 0) := by simpa using HRG.out 6 _ rfl
  refine bodyPost_ret (v := .tuple #[.agg #[.slice none 0 0, .int .i64 0, .int .i64 0, .int .i64 0, .int .i64 0, .int .i64 0, .int .i64 0], .int .i64 er]) ?_ rfl ⟨rfl, HCH.out⟩
  simp [results, Tryd.results40, asAddr, Act.put, go_sem, g0, g1, g2, g3, g4, g5, g6]
set_option maxRecDepth 100000 in
set_option maxHeartbeats 1000000 in
theorem m_do10_ok (R : MR w b t) (m : Nat) (hm : m < t.n) (xa xb xi xn xr xd xs : Int) (eo ei eold enew emade eload : Int) (zs : List Int) (HCK : ∀ W, MR W b t → Calls Tryd.prog 74 #[.pointer (some ⟨b.g, 0, none⟩), .agg #[.int .i64 64, .func (.func 93) #[] #[]], .pointer (some ⟨b.sb, m * 16, none⟩), .agg #[.int .i64 10, .int .i64 xa, .int .i64 xb, .int .i64 xi, .int .i64 xn, .int .i64 xr, .int .i64 xd, .int .i64 xs]] W fun e w' => e = .returned (.int .i64 0) ∧ Kp [] W w') (HDO : ∀ W, MR W b t → Calls Tryd.prog 93 #[.pointer (some ⟨b.g, 0, none⟩), .pointer (some ⟨b.sb, m * 16, none⟩), .agg #[.int .i64 10, .int .i64 xa, .int .i64 xb, .int .i64 xi, .int .i64 xn, .int .i64 xr, .int .i64 xd, .int .i64 xs]] W fun e w' => ∃ A n c, e = .returned (.agg #[.slice A n c, .int .i64 eo, .int .i64 ei, .int .i64 eold, .int .i64 enew, .int .i64 emade, .int .i64 eload]) ∧ ChgM W b t' w' ∧ FarI w' W.heap.size (.slice A n c) zs) :
    Calls Tryd.prog 40 #[.pointer (some ⟨b.g, 0, none⟩), .int .i64 (m : Int), .agg #[.int .i64 10, .int .i64 xa, .int .i64 xb, .int .i64 xi, .int .i64 xn, .int .i64 xr, .int .i64 xd, .int .i64 xs]] w fun e w' => ∃ A n c, e = .returned (.tuple #[.agg #[.slice A n c, .int .i64 eo, .int .i64 ei, .int .i64 eold, .int .i64 enew, .int .i64 emade, .int .i64 eload], .int .i64 0]) ∧ ChgM w b t' w' ∧ FarI w' w.heap.size (.slice A n c) zs := by
  have HCK2 := hid HCK
  clear HCK
  have HDO2 := hid HDO
  clear HDO
  have h4 := R.ok.n4
  have D2 : DC w b b t ⟨10, xa, xb, xi, xn, xr, xd, xs⟩ ef0 _ := DC.start R
  unfold MA.cells ef0 at D2
  simp only at D2
  have hmi : (m : Int) < (t.n : Int) := by omega
  have HHM : Hid (t.hasM (m : Int) = true) := decide_eq_true ⟨by omega, by omega⟩
  clear R
  go_enter Tryd.func40, Tryd.ntmps40
  go_upto_region 1 with fail
  generalize ((w.alloc (.cells #[.int .i64 10, .int .i64 xa, .int .i64 xb, .int .i64 xi, .int .i64 xn, .int .i64 xr, .int .i64 xd, .int .i64 xs] 35)).alloc (.cells #[.slice none 0 0, .int .i64 0, .int .i64 0, .int .i64 0, .int .i64 0, .int .i64 0, .int .i64 0] 73)) = W2 at D2 ⊢
  have HD2 := hid D2
  clear D2
  go_wp2_with (first
    | (go_at_call 41; go_loud (refine (m_made HD2.out.R).mono ?_; rintro e w' ⟨rfl, n1, rfl⟩; have HD3 : Hid (DC w b b t ⟨10, xa, xb, xi, xn, xr, xd, xs⟩ ef0 (W2.drewN n1)) := HD2.out.kp0 (Kp.draw _ n1)))
    | (go_at_call 73; go_loud (refine (m_ways _).mono ?_; rintro e w4 ⟨rfl, hk4⟩; have HD4 : Hid (DC w b b t ⟨10, xa, xb, xi, xn, xr, xd, xs⟩ ef0 (w4)) := HD3.out.kp0 (hk4); obtain ⟨ht, hkn, hrn⟩ := fillN (vs := wayc) (Blk.new w4 100 #[.int .i64 0, .nilFunc, .int .i64 0, .nilFunc, .int .i64 0, .nilFunc, .int .i64 0, .nilFunc, .int .i64 0, .nilFunc, .int .i64 0, .nilFunc, .int .i64 0, .nilFunc, .int .i64 0, .nilFunc, .int .i64 0, .nilFunc, .int .i64 0, .nilFunc, .int .i64 0, .nilFunc, .int .i64 0, .nilFunc]) rfl (Kp.new w4 _) (Nat.le_refl _); have HT := hid ht; have HKN := hid hkn; have HRN := hid hrn; clear ht hkn hrn hk4))
    | (refine wpList_store_mid (by rfl) 100 (.tmp 8) (.tmp 16) (by rfl) w4.heap.size 0 wayc (by rfl) (by rfl) HT.out wayInfo wayOne ?_; have HD5 : Hid (DC w b b t ⟨10, xa, xb, xi, xn, xr, xd, xs⟩ ef0 ((w4.alloc (.cells #[.int .i64 0, .nilFunc, .int .i64 0, .nilFunc, .int .i64 0, .nilFunc, .int .i64 0, .nilFunc, .int .i64 0, .nilFunc, .int .i64 0, .nilFunc, .int .i64 0, .nilFunc, .int .i64 0, .nilFunc, .int .i64 0, .nilFunc, .int .i64 0, .nilFunc, .int .i64 0, .nilFunc, .int .i64 0, .nilFunc] 100)).setCells w4.heap.size 0 wayc.toList)) := HD4.out.kp0 (HKN.out); generalize (w4.alloc (.cells #[.int .i64 0, .nilFunc, .int .i64 0, .nilFunc, .int .i64 0, .nilFunc, .int .i64 0, .nilFunc, .int .i64 0, .nilFunc, .int .i64 0, .nilFunc, .int .i64 0, .nilFunc, .int .i64 0, .nilFunc, .int .i64 0, .nilFunc, .int .i64 0, .nilFunc, .int .i64 0, .nilFunc, .int .i64 0, .nilFunc] 100)).setCells w4.heap.size 0 wayc.toList = w5 at HD5 HRN ⊢; have a50 : w5.cell? ⟨w.heap.size, 0, none⟩ = some (.int .i64 10) := HD5.out.A.cell 0)
    | (go_at_call 59; go_loud (refine (m_hasMutator HD5.out.R _).mono ?_; rw [HHM.out]; rintro e w' ⟨rfl, rfl⟩)))
  obtain ⟨cs, hcs1, hcs2, hb0⟩ := HD5.out.R.c0
  unfold maxLen at hcs2
  have r1 : w5.cell? ⟨w4.heap.size, 20, none⟩ = some (.int .i64 64) := by simpa using HRN.out 20 _ rfl
  have r2 : w5.cell? ⟨w4.heap.size, 21, none⟩ = some (.func (.func 93) #[] #[]) := by simpa using HRN.out 21 _ rfl
  have HLT : Hid (w.heap.size + 2 ≤ w4.heap.size) := HD4.out.E.lt
  refine wp_region_held_drew (S := (fun wz => wz.cell? ⟨w.heap.size, 0, none⟩ = some (.int .i64 10) ∧ wz.cell? ⟨w4.heap.size, 20, none⟩ = some (.int .i64 64) ∧ wz.cell? ⟨w4.heap.size, 21, none⟩ = some (.func (.func 93) #[] #[]) ∧ wz.cell? ⟨b.g, 0, none⟩ = some (.slice (some ⟨b.sb, 0, none⟩) t.n cs))) (by kernel_rfl) ?_ (fun hHeld => ?_)
  · exact ⟨cell_kp (Kp.draw _ 1) a50, cell_kp (Kp.draw _ 1) r1, cell_kp (Kp.draw _ 1) r2, cell_kp (Kp.draw _ 1) hb0⟩
  have HD6 : Hid (DC w b b t ⟨10, xa, xb, xi, xn, xr, xd, xs⟩ ef0 (w5.drew)) := HD5.out.kp0 (Kp.draw _ 1)
  clear a50 r1 r2 hb0
  generalize w5.drew = w6 at HD6 hHeld ⊢
  have HL4 : Hid (w4.heap.size < w6.heap.size) := cell_lt hHeld.2.1
  have HLW : Hid (w.heap.size + 2 ≤ w6.heap.size) := HD6.out.E.lt
  have HLG : Hid (b.g < w6.heap.size) := cell_lt hHeld.2.2.2
  obtain ⟨ht, hkn, hrn⟩ := fillN (vs := #[.int .i64 64, .func (.func 93) #[] #[]]) (Blk.new w6 99 #[.int .i64 0, .nilFunc]) rfl (Kp.new w6 _) (Nat.le_refl _)
  have HT6 := hid ht
  have HKN6 := hid hkn
  have HRN6 := hid hrn
  clear ht hkn hrn
  refine wpAnyH_take (i := 0) (v := _) rfl (by kernel_rfl) (by kernel_rfl) (by kernel_rfl) (fun _ _ _ h => h) (Or.inl ⟨by rfl, by (intro wz hSw; go_simp; try with_reducible rfl)⟩) (by assumption) ?_
  try simp only [List.getElem_toArray, List.getElem_cons_zero, List.getElem_cons_succ, Act.put, List.setIfInBounds_toArray, List.set_cons_zero, List.set_cons_succ]
  refine wpAnyH_take (i := 1) (v := _) rfl (by kernel_rfl) (by kernel_rfl) (by kernel_rfl) (fun _ _ _ h => h) (Or.inl ⟨by rfl, by (intro wz hSw; have hca := hSw.1; go_simp; try with_reducible rfl)⟩) (by assumption) ?_
  try simp only [List.getElem_toArray, List.getElem_cons_zero, List.getElem_cons_succ, Act.put, List.setIfInBounds_toArray, List.set_cons_zero, List.set_cons_succ]
  refine wpAnyH_take (i := 2) (v := _) rfl (by kernel_rfl) (by kernel_rfl) (by kernel_rfl) (fun _ _ _ h => h) (Or.inl ⟨by rfl, by (intro wz hSw; go_simp; try with_reducible rfl)⟩) (by assumption) ?_
  try simp only [List.getElem_toArray, List.getElem_cons_zero, List.getElem_cons_succ, Act.put, List.setIfInBounds_toArray, List.set_cons_zero, List.set_cons_succ]
  refine wpAnyH_take (i := 3) (v := _) rfl (by kernel_rfl) (by kernel_rfl) (by kernel_rfl) (fun _ _ _ h => h) (Or.inl ⟨by rfl, by (intro wz hSw; have hca := hSw.2.1; have hcb := hSw.2.2.1; go_simp; try with_reducible rfl)⟩) (by assumption) ?_
  try simp only [List.getElem_toArray, List.getElem_cons_zero, List.getElem_cons_succ, Act.put, List.setIfInBounds_toArray, List.set_cons_zero, List.set_cons_succ]
  refine wpAnyH_take (i := 4) (v := _) rfl (by kernel_rfl) (by kernel_rfl) (by kernel_rfl) (fun _ _ _ h => h) (Or.inl ⟨by rfl, by (intro wz hSw; go_simp; try with_reducible rfl)⟩) (by assumption) ?_
  try simp only [List.getElem_toArray, List.getElem_cons_zero, List.getElem_cons_succ, Act.put, List.setIfInBounds_toArray, List.set_cons_zero, List.set_cons_succ]
  refine wpAnyH_take (i := 5) (v := _) rfl (by kernel_rfl) (by kernel_rfl) (by kernel_rfl) (fun _ _ _ h => h) (Or.inl ⟨by rfl, by (intro wz hSw; go_simp; try with_reducible rfl)⟩) (by assumption) ?_
  try simp only [List.getElem_toArray, List.getElem_cons_zero, List.getElem_cons_succ, Act.put, List.setIfInBounds_toArray, List.set_cons_zero, List.set_cons_succ]
  refine wpAnyH_take (i := 6) (v := _) rfl (by kernel_rfl) (by kernel_rfl) (by kernel_rfl) (fun _ _ _ h => h) (Or.inl ⟨by rfl, by (intro wz hSw; go_simp; try with_reducible rfl)⟩) (by assumption) ?_
  try simp only [List.getElem_toArray, List.getElem_cons_zero, List.getElem_cons_succ, Act.put, List.setIfInBounds_toArray, List.set_cons_zero, List.set_cons_succ]
  refine wpAnyH_take (i := 7) (v := _) rfl (by kernel_rfl) (by kernel_rfl) (by kernel_rfl) (fun _ _ _ h => h) (Or.inl ⟨by rfl, by (intro wz hSw; have hca := hSw.2.2.2; go_simp; try with_reducible rfl)⟩) (by assumption) ?_
  try simp only [List.getElem_toArray, List.getElem_cons_zero, List.getElem_cons_succ, Act.put, List.setIfInBounds_toArray, List.set_cons_zero, List.set_cons_succ]
  refine wpAnyH_take (i := 8) (v := _) rfl (by kernel_rfl) (by kernel_rfl) (by kernel_rfl) (fun _ _ _ h => h) (Or.inl ⟨by rfl, by (intro wz hSw; go_simp; try with_reducible rfl)⟩) (by assumption) ?_
  try simp only [List.getElem_toArray, List.getElem_cons_zero, List.getElem_cons_succ, Act.put, List.setIfInBounds_toArray, List.set_cons_zero, List.set_cons_succ]
  refine wpAnyH_take (i := 9) (v := _) rfl (by kernel_rfl) (by kernel_rfl) (by kernel_rfl) (fun _ _ _ h => h) (Or.inl ⟨by rfl, by (intro wz hSw; go_simp; try with_reducible rfl)⟩) (by assumption) ?_
  try simp only [List.getElem_toArray, List.getElem_cons_zero, List.getElem_cons_succ, Act.put, List.setIfInBounds_toArray, List.set_cons_zero, List.set_cons_succ]
  refine wpAnyH_ready (rs := [10]) (by kernel_rfl) (by simp) ?_
  refine AllReadyH.cons rfl (fun K hK => ?_) AllReadyH.nil
  go_simp
  refine hK.out _ _ ?_ (fun hHeld => ?_)
  · exact ⟨cell_kp (Kp.new _ _) hHeld.1, cell_kp (Kp.new _ _) hHeld.2.1, cell_kp (Kp.new _ _) hHeld.2.2.1, cell_kp (Kp.new _ _) hHeld.2.2.2⟩
  clear hK K
  refine wpAnyH_ready (rs := [11]) (by kernel_rfl) (by simp) ?_
  refine AllReadyH.cons rfl (fun K hK => ?_) AllReadyH.nil
  refine step_store_mid (by rfl) 99 (.tmp 9) (.tmp 35) (by rfl) w6.heap.size 0 #[.int .i64 64, .func (.func 93) #[] #[]] (by rfl) (by rfl) HT6.out wayInfo2 (twoOne rfl) ?_
  refine hK.out _ _ ?_ (fun hHeld => ?_)
  · exact ⟨cell_kps (Kp.setCells _ _ _ _) hHeld.1 (by simp; have := HL4.out; have := HLW.out; have := HLG.out; omega), cell_kps (Kp.setCells _ _ _ _) hHeld.2.1 (by simp; have := HL4.out; have := HLW.out; have := HLG.out; omega), cell_kps (Kp.setCells _ _ _ _) hHeld.2.2.1 (by simp; have := HL4.out; have := HLW.out; have := HLG.out; omega), cell_kps (Kp.setCells _ _ _ _) hHeld.2.2.2 (by simp; have := HL4.out; have := HLW.out; have := HLG.out; omega)⟩
  clear hK K
  refine wpAnyH_take (i := 12) (v := _) rfl (by kernel_rfl) (by kernel_rfl) (by kernel_rfl) (fun _ _ _ h => h) (Or.inl ⟨by rfl, by (intro wz hSw; go_simp; try with_reducible rfl)⟩) (by assumption) ?_
  try simp only [List.getElem_toArray, List.getElem_cons_zero, List.getElem_cons_succ, Act.put, List.setIfInBounds_toArray, List.set_cons_zero, List.set_cons_succ]
  refine wpAnyH_done (by kernel_rfl) ?_ _
  clear hHeld
  have HD7 : Hid (DC w b b t ⟨10, xa, xb, xi, xn, xr, xd, xs⟩ ef0 ((w6.alloc (.cells #[.int .i64 0, .nilFunc] 99)).setCells w6.heap.size 0 (#[.int .i64 64, .func (.func 93) #[] #[]] : Array Value).toList)) := HD6.out.kp0 (HKN6.out)
  generalize (w6.alloc (.cells #[.int .i64 0, .nilFunc] 99)).setCells w6.heap.size 0 (#[.int .i64 64, .func (.func 93) #[] #[]] : Array Value).toList = w7 at HD7 HRN6 ⊢
  have z0 : w7.cell? ⟨w6.heap.size, 0, none⟩ = some (.int .i64 64) := by simpa using HRN6.out 0 _ rfl
  have z1 : w7.cell? ⟨w6.heap.size, 1, none⟩ = some (.func (.func 93) #[] #[]) := by simpa using HRN6.out 1 _ rfl
  have a70 : w7.cell? ⟨w.heap.size, 0, none⟩ = some (.int .i64 10) := HD7.out.A.cell 0
  have a71 : w7.cell? ⟨w.heap.size, 1, none⟩ = some (.int .i64 xa) := HD7.out.A.cell 1
  have a72 : w7.cell? ⟨w.heap.size, 2, none⟩ = some (.int .i64 xb) := HD7.out.A.cell 2
  have a73 : w7.cell? ⟨w.heap.size, 3, none⟩ = some (.int .i64 xi) := HD7.out.A.cell 3
  have a74 : w7.cell? ⟨w.heap.size, 4, none⟩ = some (.int .i64 xn) := HD7.out.A.cell 4
  have a75 : w7.cell? ⟨w.heap.size, 5, none⟩ = some (.int .i64 xr) := HD7.out.A.cell 5
  have a76 : w7.cell? ⟨w.heap.size, 6, none⟩ = some (.int .i64 xd) := HD7.out.A.cell 6
  have a77 : w7.cell? ⟨w.heap.size, 7, none⟩ = some (.int .i64 xs) := HD7.out.A.cell 7
  go_wp2_with (first
    | (go_at_call 74; go_loud (refine (HCK2.out _ HD7.out.R).mono ?_; rintro e w8 ⟨rfl, hk8⟩; have HD8 : Hid (DC w b b t ⟨10, xa, xb, xi, xn, xr, xd, xs⟩ ef0 (w8)) := HD7.out.kp0 (hk8); have a80 : w8.cell? ⟨w.heap.size, 0, none⟩ = some (.int .i64 10) := HD8.out.A.cell 0; have a81 : w8.cell? ⟨w.heap.size, 1, none⟩ = some (.int .i64 xa) := HD8.out.A.cell 1; have a82 : w8.cell? ⟨w.heap.size, 2, none⟩ = some (.int .i64 xb) := HD8.out.A.cell 2; have a83 : w8.cell? ⟨w.heap.size, 3, none⟩ = some (.int .i64 xi) := HD8.out.A.cell 3; have a84 : w8.cell? ⟨w.heap.size, 4, none⟩ = some (.int .i64 xn) := HD8.out.A.cell 4; have a85 : w8.cell? ⟨w.heap.size, 5, none⟩ = some (.int .i64 xr) := HD8.out.A.cell 5; have a86 : w8.cell? ⟨w.heap.size, 6, none⟩ = some (.int .i64 xd) := HD8.out.A.cell 6; have a87 : w8.cell? ⟨w.heap.size, 7, none⟩ = some (.int .i64 xs) := HD8.out.A.cell 7; have z81 := cell_kp hk8 z1; clear hk8))
    | (go_at_call 93; go_loud (refine (HDO2.out _ HD8.out.R).mono ?_; rintro e w9 ⟨A, n, c, rfl, hch9, hf9⟩; obtain ⟨b9, e91, e92, D9⟩ := HD8.out.chg hch9; obtain ⟨hth, hch, hrg⟩ := DC.fin (ef' := #[.slice A n c, .int .i64 eo, .int .i64 ei, .int .i64 eold, .int .i64 enew, .int .i64 emade, .int .i64 eload]) D9 rfl rfl; have hfr : FarI (w9.setCells (w.heap.size + 1) 0 (#[.slice A n c, .int .i64 eo, .int .i64 ei, .int .i64 eold, .int .i64 enew, .int .i64 emade, .int .i64 eload] : Array Value).toList) w.heap.size (.slice A n c) zs := (hf9.kp (Kp.setCells w9 (w.heap.size + 1) 0 (#[.slice A n c, .int .i64 eo, .int .i64 ei, .int .i64 eold, .int .i64 enew, .int .i64 emade, .int .i64 eload] : Array Value).toList) (by simp; have := HD8.out.E.lt; omega)).base (by have := HD8.out.E.lt; omega); have HTH := hid hth; have HCH := hid hch; have HRG := hid hrg; have HFR := hid hfr; clear hth hch hrg hfr hch9 hf9 D9 e91 e92))
    | (refine wpList_store_mid (by rfl) 73 (.tmp 6) (.tmp 56) (by rfl) (w.heap.size + 1) 0 #[.slice A n c, .int .i64 eo, .int .i64 ei, .int .i64 eold, .int .i64 enew, .int .i64 emade, .int .i64 eload] (by rfl) (by rfl) HTH.out effInfo effOne ?_))
  generalize w9.setCells (w.heap.size + 1) 0 (#[.slice A n c, .int .i64 eo, .int .i64 ei, .int .i64 eold, .int .i64 enew, .int .i64 emade, .int .i64 eload] : Array Value).toList = W9 at HCH HRG HFR ⊢
  have g0 : W9.cell? ⟨w.heap.size + 1, 0, none⟩ = some (.slice A n c) := by simpa using HRG.out 0 _ rfl
  have g1 : W9.cell? ⟨w.heap.size + 1, 1, none⟩ = some (.int .i64 eo) := by simpa using HRG.out 1 _ rfl
  have g2 : W9.cell? ⟨w.heap.size + 1, 2, none⟩ = some (.int .i64 ei) := by simpa using HRG.out 2 _ rfl
  have g3 : W9.cell? ⟨w.heap.size + 1, 3, none⟩ = some (.int .i64 eold) := by simpa using HRG.out 3 _ rfl
  have g4 : W9.cell? ⟨w.heap.size + 1, 4, none⟩ = some (.int .i64 enew) := by simpa using HRG.out 4 _ rfl
  have g5 : W9.cell? ⟨w.heap.size + 1, 5, none⟩ = some (.int .i64 emade) := by simpa using HRG.out 5 _ rfl
  have g6 : W9.cell? ⟨w.heap.size + 1, 6, none⟩ = some (.int .i64 eload) := by simpa using HRG.out 6 _ rfl
  refine bodyPost_ret (v := .tuple #[.agg #[.slice A n c, .int .i64 eo, .int .i64 ei, .int .i64 eold, .int .i64 enew, .int .i64 emade, .int .i64 eload], .int .i64 0]) ?_ rfl ⟨A, n, c, rfl, HCH.out, HFR.out⟩
  simp [results, Tryd.results40, asAddr, Act.put, go_sem, g0, g1, g2, g3, g4, g5, g6]
set_option maxRecDepth 100000 in
set_option maxHeartbeats 1000000 in
theorem m_do10_no (R : MR w b t) (m : Nat) (hm : m < t.n) (xa xb xi xn xr xd xs : Int) (er : Int) (her : (er != 0) = true) (HCK : ∀ W, MR W b t → Calls Tryd.prog 74 #[.pointer (some ⟨b.g, 0, none⟩), .agg #[.int .i64 64, .func (.func 93) #[] #[]], .pointer (some ⟨b.sb, m * 16, none⟩), .agg #[.int .i64 10, .int .i64 xa, .int .i64 xb, .int .i64 xi, .int .i64 xn, .int .i64 xr, .int .i64 xd, .int .i64 xs]] W fun e w' => e = .returned (.int .i64 er) ∧ Kp [] W w') :
    Calls Tryd.prog 40 #[.pointer (some ⟨b.g, 0, none⟩), .int .i64 (m : Int), .agg #[.int .i64 10, .int .i64 xa, .int .i64 xb, .int .i64 xi, .int .i64 xn, .int .i64 xr, .int .i64 xd, .int .i64 xs]] w fun e w' => e = .returned (.tuple #[.agg #[.slice none 0 0, .int .i64 0, .int .i64 0, .int .i64 0, .int .i64 0, .int .i64 0, .int .i64 0], .int .i64 er]) ∧ ChgM w b t w' := by
  have HCK2 := hid HCK
  clear HCK
  have h4 := R.ok.n4
  have D2 : DC w b b t ⟨10, xa, xb, xi, xn, xr, xd, xs⟩ ef0 _ := DC.start R
  unfold MA.cells ef0 at D2
  simp only at D2
  have hmi : (m : Int) < (t.n : Int) := by omega
  have HHM : Hid (t.hasM (m : Int) = true) := decide_eq_true ⟨by omega, by omega⟩
  clear R
  go_enter Tryd.func40, Tryd.ntmps40
  go_upto_region 1 with fail
  generalize ((w.alloc (.cells #[.int .i64 10, .int .i64 xa, .int .i64 xb, .int .i64 xi, .int .i64 xn, .int .i64 xr, .int .i64 xd, .int .i64 xs] 35)).alloc (.cells #[.slice none 0 0, .int .i64 0, .int .i64 0, .int .i64 0, .int .i64 0, .int .i64 0, .int .i64 0] 73)) = W2 at D2 ⊢
  have HD2 := hid D2
  clear D2
  go_wp2_with (first
    | (go_at_call 41; go_loud (refine (m_made HD2.out.R).mono ?_; rintro e w' ⟨rfl, n1, rfl⟩; have HD3 : Hid (DC w b b t ⟨10, xa, xb, xi, xn, xr, xd, xs⟩ ef0 (W2.drewN n1)) := HD2.out.kp0 (Kp.draw _ n1)))
    | (go_at_call 73; go_loud (refine (m_ways _).mono ?_; rintro e w4 ⟨rfl, hk4⟩; have HD4 : Hid (DC w b b t ⟨10, xa, xb, xi, xn, xr, xd, xs⟩ ef0 (w4)) := HD3.out.kp0 (hk4); obtain ⟨ht, hkn, hrn⟩ := fillN (vs := wayc) (Blk.new w4 100 #[.int .i64 0, .nilFunc, .int .i64 0, .nilFunc, .int .i64 0, .nilFunc, .int .i64 0, .nilFunc, .int .i64 0, .nilFunc, .int .i64 0, .nilFunc, .int .i64 0, .nilFunc, .int .i64 0, .nilFunc, .int .i64 0, .nilFunc, .int .i64 0, .nilFunc, .int .i64 0, .nilFunc, .int .i64 0, .nilFunc]) rfl (Kp.new w4 _) (Nat.le_refl _); have HT := hid ht; have HKN := hid hkn; have HRN := hid hrn; clear ht hkn hrn hk4))
    | (refine wpList_store_mid (by rfl) 100 (.tmp 8) (.tmp 16) (by rfl) w4.heap.size 0 wayc (by rfl) (by rfl) HT.out wayInfo wayOne ?_; have HD5 : Hid (DC w b b t ⟨10, xa, xb, xi, xn, xr, xd, xs⟩ ef0 ((w4.alloc (.cells #[.int .i64 0, .nilFunc, .int .i64 0, .nilFunc, .int .i64 0, .nilFunc, .int .i64 0, .nilFunc, .int .i64 0, .nilFunc, .int .i64 0, .nilFunc, .int .i64 0, .nilFunc, .int .i64 0, .nilFunc, .int .i64 0, .nilFunc, .int .i64 0, .nilFunc, .int .i64 0, .nilFunc, .int .i64 0, .nilFunc] 100)).setCells w4.heap.size 0 wayc.toList)) := HD4.out.kp0 (HKN.out); generalize (w4.alloc (.cells #[.int .i64 0, .nilFunc, .int .i64 0, .nilFunc, .int .i64 0, .nilFunc, .int .i64 0, .nilFunc, .int .i64 0, .nilFunc, .int .i64 0, .nilFunc, .int .i64 0, .nilFunc, .int .i64 0, .nilFunc, .int .i64 0, .nilFunc, .int .i64 0, .nilFunc, .int .i64 0, .nilFunc, .int .i64 0, .nilFunc] 100)).setCells w4.heap.size 0 wayc.toList = w5 at HD5 HRN ⊢; have a50 : w5.cell? ⟨w.heap.size, 0, none⟩ = some (.int .i64 10) := HD5.out.A.cell 0)
    | (go_at_call 59; go_loud (refine (m_hasMutator HD5.out.R _).mono ?_; rw [HHM.out]; rintro e w' ⟨rfl, rfl⟩)))
  obtain ⟨cs, hcs1, hcs2, hb0⟩ := HD5.out.R.c0
  unfold maxLen at hcs2
  have r1 : w5.cell? ⟨w4.heap.size, 20, none⟩ = some (.int .i64 64) := by simpa using HRN.out 20 _ rfl
  have r2 : w5.cell? ⟨w4.heap.size, 21, none⟩ = some (.func (.func 93) #[] #[]) := by simpa using HRN.out 21 _ rfl
  have HLT : Hid (w.heap.size + 2 ≤ w4.heap.size) := HD4.out.E.lt
  refine wp_region_held_drew (S := (fun wz => wz.cell? ⟨w.heap.size, 0, none⟩ = some (.int .i64 10) ∧ wz.cell? ⟨w4.heap.size, 20, none⟩ = some (.int .i64 64) ∧ wz.cell? ⟨w4.heap.size, 21, none⟩ = some (.func (.func 93) #[] #[]) ∧ wz.cell? ⟨b.g, 0, none⟩ = some (.slice (some ⟨b.sb, 0, none⟩) t.n cs))) (by kernel_rfl) ?_ (fun hHeld => ?_)
  · exact ⟨cell_kp (Kp.draw _ 1) a50, cell_kp (Kp.draw _ 1) r1, cell_kp (Kp.draw _ 1) r2, cell_kp (Kp.draw _ 1) hb0⟩
  have HD6 : Hid (DC w b b t ⟨10, xa, xb, xi, xn, xr, xd, xs⟩ ef0 (w5.drew)) := HD5.out.kp0 (Kp.draw _ 1)
  clear a50 r1 r2 hb0
  generalize w5.drew = w6 at HD6 hHeld ⊢
  have HL4 : Hid (w4.heap.size < w6.heap.size) := cell_lt hHeld.2.1
  have HLW : Hid (w.heap.size + 2 ≤ w6.heap.size) := HD6.out.E.lt
  have HLG : Hid (b.g < w6.heap.size) := cell_lt hHeld.2.2.2
  obtain ⟨ht, hkn, hrn⟩ := fillN (vs := #[.int .i64 64, .func (.func 93) #[] #[]]) (Blk.new w6 99 #[.int .i64 0, .nilFunc]) rfl (Kp.new w6 _) (Nat.le_refl _)
  have HT6 := hid ht
  have HKN6 := hid hkn
  have HRN6 := hid hrn
  clear ht hkn hrn
  refine wpAnyH_take (i := 0) (v := _) rfl (by kernel_rfl) (by kernel_rfl) (by kernel_rfl) (fun _ _ _ h => h) (Or.inl ⟨by rfl, by (intro wz hSw; go_simp; try with_reducible rfl)⟩) (by assumption) ?_
  try simp only [List.getElem_toArray, List.getElem_cons_zero, List.getElem_cons_succ, Act.put, List.setIfInBounds_toArray, List.set_cons_zero, List.set_cons_succ]
  refine wpAnyH_take (i := 1) (v := _) rfl (by kernel_rfl) (by kernel_rfl) (by kernel_rfl) (fun _ _ _ h => h) (Or.inl ⟨by rfl, by (intro wz hSw; have hca := hSw.1; go_simp; try with_reducible rfl)⟩) (by assumption) ?_
  try simp only [List.getElem_toArray, List.getElem_cons_zero, List.getElem_cons_succ, Act.put, List.setIfInBounds_toArray, List.set_cons_zero, List.set_cons_succ]
  refine wpAnyH_take (i := 2) (v := _) rfl (by kernel_rfl) (by kernel_rfl) (by kernel_rfl) (fun _ _ _ h => h) (Or.inl ⟨by rfl, by (intro wz hSw; go_simp; try with_reducible rfl)⟩) (by assumption) ?_
  try simp only [List.getElem_toArray, List.getElem_cons_zero, List.getElem_cons_succ, Act.put, List.setIfInBounds_toArray, List.set_cons_zero, List.set_cons_succ]
  refine wpAnyH_take (i := 3) (v := _) rfl (by kernel_rfl) (by kernel_rfl) (by kernel_rfl) (fun _ _ _ h => h) (Or.inl ⟨by rfl, by (intro wz hSw; have hca := hSw.2.1; have hcb := hSw.2.2.1; go_simp; try with_reducible rfl)⟩) (by assumption) ?_
  try simp only [List.getElem_toArray, List.getElem_cons_zero, List.getElem_cons_succ, Act.put, List.setIfInBounds_toArray, List.set_cons_zero, List.set_cons_succ]
  refine wpAnyH_take (i := 4) (v := _) rfl (by kernel_rfl) (by kernel_rfl) (by kernel_rfl) (fun _ _ _ h => h) (Or.inl ⟨by rfl, by (intro wz hSw; go_simp; try with_reducible rfl)⟩) (by assumption) ?_
  try simp only [List.getElem_toArray, List.getElem_cons_zero, List.getElem_cons_succ, Act.put, List.setIfInBounds_toArray, List.set_cons_zero, List.set_cons_succ]
  refine wpAnyH_take (i := 5) (v := _) rfl (by kernel_rfl) (by kernel_rfl) (by kernel_rfl) (fun _ _ _ h => h) (Or.inl ⟨by rfl, by (intro wz hSw; go_simp; try with_reducible rfl)⟩) (by assumption) ?_
  try simp only [List.getElem_toArray, List.getElem_cons_zero, List.getElem_cons_succ, Act.put, List.setIfInBounds_toArray, List.set_cons_zero, List.set_cons_succ]
  refine wpAnyH_take (i := 6) (v := _) rfl (by kernel_rfl) (by kernel_rfl) (by kernel_rfl) (fun _ _ _ h => h) (Or.inl ⟨by rfl, by (intro wz hSw; go_simp; try with_reducible rfl)⟩) (by assumption) ?_
  try simp only [List.getElem_toArray, List.getElem_cons_zero, List.getElem_cons_succ, Act.put, List.setIfInBounds_toArray, List.set_cons_zero, List.set_cons_succ]
  refine wpAnyH_take (i := 7) (v := _) rfl (by kernel_rfl) (by kernel_rfl) (by kernel_rfl) (fun _ _ _ h => h) (Or.inl ⟨by rfl, by (intro wz hSw; have hca := hSw.2.2.2; go_simp; try with_reducible rfl)⟩) (by assumption) ?_
  try simp only [List.getElem_toArray, List.getElem_cons_zero, List.getElem_cons_succ, Act.put, List.setIfInBounds_toArray, List.set_cons_zero, List.set_cons_succ]
  refine wpAnyH_take (i := 8) (v := _) rfl (by kernel_rfl) (by kernel_rfl) (by kernel_rfl) (fun _ _ _ h => h) (Or.inl ⟨by rfl, by (intro wz hSw; go_simp; try with_reducible rfl)⟩) (by assumption) ?_
  try simp only [List.getElem_toArray, List.getElem_cons_zero, List.getElem_cons_succ, Act.put, List.setIfInBounds_toArray, List.set_cons_zero, List.set_cons_succ]
  refine wpAnyH_take (i := 9) (v := _) rfl (by kernel_rfl) (by kernel_rfl) (by kernel_rfl) (fun _ _ _ h => h) (Or.inl ⟨by rfl, by (intro wz hSw; go_simp; try with_reducible rfl)⟩) (by assumption) ?_
  try simp only [List.getElem_toArray, List.getElem_cons_zero, List.getElem_cons_succ, Act.put, List.setIfInBounds_toArray, List.set_cons_zero, List.set_cons_succ]
  refine wpAnyH_ready (rs := [10]) (by kernel_rfl) (by simp) ?_
  refine AllReadyH.cons rfl (fun K hK => ?_) AllReadyH.nil
  go_simp
  refine hK.out _ _ ?_ (fun hHeld => ?_)
  · exact ⟨cell_kp (Kp.new _ _) hHeld.1, cell_kp (Kp.new _ _) hHeld.2.1, cell_kp (Kp.new _ _) hHeld.2.2.1, cell_kp (Kp.new _ _) hHeld.2.2.2⟩
  clear hK K
  refine wpAnyH_ready (rs := [11]) (by kernel_rfl) (by simp) ?_
  refine AllReadyH.cons rfl (fun K hK => ?_) AllReadyH.nil
  refine step_store_mid (by rfl) 99 (.tmp 9) (.tmp 35) (by rfl) w6.heap.size 0 #[.int .i64 64, .func (.func 93) #[] #[]] (by rfl) (by rfl) HT6.out wayInfo2 (twoOne rfl) ?_
  refine hK.out _ _ ?_ (fun hHeld => ?_)
  · exact ⟨cell_kps (Kp.setCells _ _ _ _) hHeld.1 (by simp; have := HL4.out; have := HLW.out; have := HLG.out; omega), cell_kps (Kp.setCells _ _ _ _) hHeld.2.1 (by simp; have := HL4.out; have := HLW.out; have := HLG.out; omega), cell_kps (Kp.setCells _ _ _ _) hHeld.2.2.1 (by simp; have := HL4.out; have := HLW.out; have := HLG.out; omega), cell_kps (Kp.setCells _ _ _ _) hHeld.2.2.2 (by simp; have := HL4.out; have := HLW.out; have := HLG.out; omega)⟩
  clear hK K
  refine wpAnyH_take (i := 12) (v := _) rfl (by kernel_rfl) (by kernel_rfl) (by kernel_rfl) (fun _ _ _ h => h) (Or.inl ⟨by rfl, by (intro wz hSw; go_simp; try with_reducible rfl)⟩) (by assumption) ?_
  try simp only [List.getElem_toArray, List.getElem_cons_zero, List.getElem_cons_succ, Act.put, List.setIfInBounds_toArray, List.set_cons_zero, List.set_cons_succ]
  refine wpAnyH_done (by kernel_rfl) ?_ _
  clear hHeld
  have HD7 : Hid (DC w b b t ⟨10, xa, xb, xi, xn, xr, xd, xs⟩ ef0 ((w6.alloc (.cells #[.int .i64 0, .nilFunc] 99)).setCells w6.heap.size 0 (#[.int .i64 64, .func (.func 93) #[] #[]] : Array Value).toList)) := HD6.out.kp0 (HKN6.out)
  generalize (w6.alloc (.cells #[.int .i64 0, .nilFunc] 99)).setCells w6.heap.size 0 (#[.int .i64 64, .func (.func 93) #[] #[]] : Array Value).toList = w7 at HD7 HRN6 ⊢
  have z0 : w7.cell? ⟨w6.heap.size, 0, none⟩ = some (.int .i64 64) := by simpa using HRN6.out 0 _ rfl
  have z1 : w7.cell? ⟨w6.heap.size, 1, none⟩ = some (.func (.func 93) #[] #[]) := by simpa using HRN6.out 1 _ rfl
  have a70 : w7.cell? ⟨w.heap.size, 0, none⟩ = some (.int .i64 10) := HD7.out.A.cell 0
  have a71 : w7.cell? ⟨w.heap.size, 1, none⟩ = some (.int .i64 xa) := HD7.out.A.cell 1
  have a72 : w7.cell? ⟨w.heap.size, 2, none⟩ = some (.int .i64 xb) := HD7.out.A.cell 2
  have a73 : w7.cell? ⟨w.heap.size, 3, none⟩ = some (.int .i64 xi) := HD7.out.A.cell 3
  have a74 : w7.cell? ⟨w.heap.size, 4, none⟩ = some (.int .i64 xn) := HD7.out.A.cell 4
  have a75 : w7.cell? ⟨w.heap.size, 5, none⟩ = some (.int .i64 xr) := HD7.out.A.cell 5
  have a76 : w7.cell? ⟨w.heap.size, 6, none⟩ = some (.int .i64 xd) := HD7.out.A.cell 6
  have a77 : w7.cell? ⟨w.heap.size, 7, none⟩ = some (.int .i64 xs) := HD7.out.A.cell 7
  go_wp2_with (first
    | (go_at_call 74; go_loud (refine (HCK2.out _ HD7.out.R).mono ?_; rintro e w8 ⟨rfl, hk8⟩; have HD8 : Hid (DC w b b t ⟨10, xa, xb, xi, xn, xr, xd, xs⟩ ef0 (w8)) := HD7.out.kp0 (hk8); have a80 : w8.cell? ⟨w.heap.size, 0, none⟩ = some (.int .i64 10) := HD8.out.A.cell 0; have a81 : w8.cell? ⟨w.heap.size, 1, none⟩ = some (.int .i64 xa) := HD8.out.A.cell 1; have a82 : w8.cell? ⟨w.heap.size, 2, none⟩ = some (.int .i64 xb) := HD8.out.A.cell 2; have a83 : w8.cell? ⟨w.heap.size, 3, none⟩ = some (.int .i64 xi) := HD8.out.A.cell 3; have a84 : w8.cell? ⟨w.heap.size, 4, none⟩ = some (.int .i64 xn) := HD8.out.A.cell 4; have a85 : w8.cell? ⟨w.heap.size, 5, none⟩ = some (.int .i64 xr) := HD8.out.A.cell 5; have a86 : w8.cell? ⟨w.heap.size, 6, none⟩ = some (.int .i64 xd) := HD8.out.A.cell 6; have a87 : w8.cell? ⟨w.heap.size, 7, none⟩ = some (.int .i64 xs) := HD8.out.A.cell 7; have z81 := cell_kp hk8 z1; obtain ⟨hth, hch, hrg⟩ := DC.fin (ef' := #[.slice none 0 0, .int .i64 0, .int .i64 0, .int .i64 0, .int .i64 0, .int .i64 0, .int .i64 0]) HD8.out rfl rfl; have HTH := hid hth; have HCH := hid hch; have HRG := hid hrg; clear hth hch hrg hk8))
    | (refine wpList_store_mid (by rfl) 73 (.tmp 6) (.tmp 49) (by rfl) (w.heap.size + 1) 0 #[.slice none 0 0, .int .i64 0, .int .i64 0, .int .i64 0, .int .i64 0, .int .i64 0, .int .i64 0] (by rfl) (by rfl) HTH.out effInfo effOne ?_))
  generalize w8.setCells (w.heap.size + 1) 0 (#[.slice none 0 0, .int .i64 0, .int .i64 0, .int .i64 0, .int .i64 0, .int .i64 0, .int .i64 0] : Array Value).toList = W9 at HCH HRG ⊢
  have g0 : W9.cell? ⟨w.heap.size + 1, 0, none⟩ = some (.slice none 0 0) := by simpa using HRG.out 0 _ rfl
  have g1 : W9.cell? ⟨w.heap.size + 1, 1, none⟩ = some (.int .i64 0) := by simpa using HRG.out 1 _ rfl
  have g2 : W9.cell? ⟨w.heap.size + 1, 2, none⟩ = some (.int .i64 0) := by simpa using HRG.out 2 _ rfl
  have g3 : W9.cell? ⟨w.heap.size + 1, 3, none⟩ = some (.int .i64 0) := by simpa using HRG.out 3 _ rfl
  have g4 : W9.cell? ⟨w.heap.size + 1, 4, none⟩ = some (.int .i64 0) := by simpa using HRG.out 4 _ rfl
  have g5 : W9.cell? ⟨w.heap.size + 1, 5, none⟩ = some (.int .i64 0) := by simpa using HRG.out 5 _ rfl
  have g6 : W9.cell? ⟨w.heap.size + 1, 6, none⟩ = some (.int .i64 0) := by simpa using HRG.out 6 _ rfl
  refine bodyPost_ret (v := .tuple #[.agg #[.slice none 0 0, .int .i64 0, .int .i64 0, .int .i64 0, .int .i64 0, .int .i64 0, .int .i64 0], .int .i64 er]) ?_ rfl ⟨rfl, HCH.out⟩
  simp [results, Tryd.results40, asAddr, Act.put, go_sem, g0, g1, g2, g3, g4, g5, g6]
set_option maxRecDepth 100000 in
set_option maxHeartbeats 1000000 in
theorem m_do11_ok (R : MR w b t) (m : Nat) (hm : m < t.n) (xa xb xi xn xr xd xs : Int) (eo ei eold enew emade eload : Int) (zs : List Int) (HCK : ∀ W, MR W b t → Calls Tryd.prog 74 #[.pointer (some ⟨b.g, 0, none⟩), .agg #[.int .i64 4, .func (.func 94) #[] #[]], .pointer (some ⟨b.sb, m * 16, none⟩), .agg #[.int .i64 11, .int .i64 xa, .int .i64 xb, .int .i64 xi, .int .i64 xn, .int .i64 xr, .int .i64 xd, .int .i64 xs]] W fun e w' => e = .returned (.int .i64 0) ∧ Kp [] W w') (HDO : ∀ W, MR W b t → Calls Tryd.prog 94 #[.pointer (some ⟨b.g, 0, none⟩), .pointer (some ⟨b.sb, m * 16, none⟩), .agg #[.int .i64 11, .int .i64 xa, .int .i64 xb, .int .i64 xi, .int .i64 xn, .int .i64 xr, .int .i64 xd, .int .i64 xs]] W fun e w' => ∃ A n c, e = .returned (.agg #[.slice A n c, .int .i64 eo, .int .i64 ei, .int .i64 eold, .int .i64 enew, .int .i64 emade, .int .i64 eload]) ∧ ChgM W b t' w' ∧ FarI w' W.heap.size (.slice A n c) zs) :
    Calls Tryd.prog 40 #[.pointer (some ⟨b.g, 0, none⟩), .int .i64 (m : Int), .agg #[.int .i64 11, .int .i64 xa, .int .i64 xb, .int .i64 xi, .int .i64 xn, .int .i64 xr, .int .i64 xd, .int .i64 xs]] w fun e w' => ∃ A n c, e = .returned (.tuple #[.agg #[.slice A n c, .int .i64 eo, .int .i64 ei, .int .i64 eold, .int .i64 enew, .int .i64 emade, .int .i64 eload], .int .i64 0]) ∧ ChgM w b t' w' ∧ FarI w' w.heap.size (.slice A n c) zs := by
  have HCK2 := hid HCK
  clear HCK
  have HDO2 := hid HDO
  clear HDO
  have h4 := R.ok.n4
  have D2 : DC w b b t ⟨11, xa, xb, xi, xn, xr, xd, xs⟩ ef0 _ := DC.start R
  unfold MA.cells ef0 at D2
  simp only at D2
  have hmi : (m : Int) < (t.n : Int) := by omega
  have HHM : Hid (t.hasM (m : Int) = true) := decide_eq_true ⟨by omega, by omega⟩
  clear R
  go_enter Tryd.func40, Tryd.ntmps40
  go_upto_region 1 with fail
  generalize ((w.alloc (.cells #[.int .i64 11, .int .i64 xa, .int .i64 xb, .int .i64 xi, .int .i64 xn, .int .i64 xr, .int .i64 xd, .int .i64 xs] 35)).alloc (.cells #[.slice none 0 0, .int .i64 0, .int .i64 0, .int .i64 0, .int .i64 0, .int .i64 0, .int .i64 0] 73)) = W2 at D2 ⊢
  have HD2 := hid D2
  clear D2
  go_wp2_with (first
    | (go_at_call 41; go_loud (refine (m_made HD2.out.R).mono ?_; rintro e w' ⟨rfl, n1, rfl⟩; have HD3 : Hid (DC w b b t ⟨11, xa, xb, xi, xn, xr, xd, xs⟩ ef0 (W2.drewN n1)) := HD2.out.kp0 (Kp.draw _ n1)))
    | (go_at_call 73; go_loud (refine (m_ways _).mono ?_; rintro e w4 ⟨rfl, hk4⟩; have HD4 : Hid (DC w b b t ⟨11, xa, xb, xi, xn, xr, xd, xs⟩ ef0 (w4)) := HD3.out.kp0 (hk4); obtain ⟨ht, hkn, hrn⟩ := fillN (vs := wayc) (Blk.new w4 100 #[.int .i64 0, .nilFunc, .int .i64 0, .nilFunc, .int .i64 0, .nilFunc, .int .i64 0, .nilFunc, .int .i64 0, .nilFunc, .int .i64 0, .nilFunc, .int .i64 0, .nilFunc, .int .i64 0, .nilFunc, .int .i64 0, .nilFunc, .int .i64 0, .nilFunc, .int .i64 0, .nilFunc, .int .i64 0, .nilFunc]) rfl (Kp.new w4 _) (Nat.le_refl _); have HT := hid ht; have HKN := hid hkn; have HRN := hid hrn; clear ht hkn hrn hk4))
    | (refine wpList_store_mid (by rfl) 100 (.tmp 8) (.tmp 16) (by rfl) w4.heap.size 0 wayc (by rfl) (by rfl) HT.out wayInfo wayOne ?_; have HD5 : Hid (DC w b b t ⟨11, xa, xb, xi, xn, xr, xd, xs⟩ ef0 ((w4.alloc (.cells #[.int .i64 0, .nilFunc, .int .i64 0, .nilFunc, .int .i64 0, .nilFunc, .int .i64 0, .nilFunc, .int .i64 0, .nilFunc, .int .i64 0, .nilFunc, .int .i64 0, .nilFunc, .int .i64 0, .nilFunc, .int .i64 0, .nilFunc, .int .i64 0, .nilFunc, .int .i64 0, .nilFunc, .int .i64 0, .nilFunc] 100)).setCells w4.heap.size 0 wayc.toList)) := HD4.out.kp0 (HKN.out); generalize (w4.alloc (.cells #[.int .i64 0, .nilFunc, .int .i64 0, .nilFunc, .int .i64 0, .nilFunc, .int .i64 0, .nilFunc, .int .i64 0, .nilFunc, .int .i64 0, .nilFunc, .int .i64 0, .nilFunc, .int .i64 0, .nilFunc, .int .i64 0, .nilFunc, .int .i64 0, .nilFunc, .int .i64 0, .nilFunc, .int .i64 0, .nilFunc] 100)).setCells w4.heap.size 0 wayc.toList = w5 at HD5 HRN ⊢; have a50 : w5.cell? ⟨w.heap.size, 0, none⟩ = some (.int .i64 11) := HD5.out.A.cell 0)
    | (go_at_call 59; go_loud (refine (m_hasMutator HD5.out.R _).mono ?_; rw [HHM.out]; rintro e w' ⟨rfl, rfl⟩)))
  obtain ⟨cs, hcs1, hcs2, hb0⟩ := HD5.out.R.c0
  unfold maxLen at hcs2
  have r1 : w5.cell? ⟨w4.heap.size, 22, none⟩ = some (.int .i64 4) := by simpa using HRN.out 22 _ rfl
  have r2 : w5.cell? ⟨w4.heap.size, 23, none⟩ = some (.func (.func 94) #[] #[]) := by simpa using HRN.out 23 _ rfl
  have HLT : Hid (w.heap.size + 2 ≤ w4.heap.size) := HD4.out.E.lt
  refine wp_region_held_drew (S := (fun wz => wz.cell? ⟨w.heap.size, 0, none⟩ = some (.int .i64 11) ∧ wz.cell? ⟨w4.heap.size, 22, none⟩ = some (.int .i64 4) ∧ wz.cell? ⟨w4.heap.size, 23, none⟩ = some (.func (.func 94) #[] #[]) ∧ wz.cell? ⟨b.g, 0, none⟩ = some (.slice (some ⟨b.sb, 0, none⟩) t.n cs))) (by kernel_rfl) ?_ (fun hHeld => ?_)
  · exact ⟨cell_kp (Kp.draw _ 1) a50, cell_kp (Kp.draw _ 1) r1, cell_kp (Kp.draw _ 1) r2, cell_kp (Kp.draw _ 1) hb0⟩
  have HD6 : Hid (DC w b b t ⟨11, xa, xb, xi, xn, xr, xd, xs⟩ ef0 (w5.drew)) := HD5.out.kp0 (Kp.draw _ 1)
  clear a50 r1 r2 hb0
  generalize w5.drew = w6 at HD6 hHeld ⊢
  have HL4 : Hid (w4.heap.size < w6.heap.size) := cell_lt hHeld.2.1
  have HLW : Hid (w.heap.size + 2 ≤ w6.heap.size) := HD6.out.E.lt
  have HLG : Hid (b.g < w6.heap.size) := cell_lt hHeld.2.2.2
  obtain ⟨ht, hkn, hrn⟩ := fillN (vs := #[.int .i64 4, .func (.func 94) #[] #[]]) (Blk.new w6 99 #[.int .i64 0, .nilFunc]) rfl (Kp.new w6 _) (Nat.le_refl _)
  have HT6 := hid ht
  have HKN6 := hid hkn
  have HRN6 := hid hrn
  clear ht hkn hrn
  refine wpAnyH_take (i := 0) (v := _) rfl (by kernel_rfl) (by kernel_rfl) (by kernel_rfl) (fun _ _ _ h => h) (Or.inl ⟨by rfl, by (intro wz hSw; go_simp; try with_reducible rfl)⟩) (by assumption) ?_
  try simp only [List.getElem_toArray, List.getElem_cons_zero, List.getElem_cons_succ, Act.put, List.setIfInBounds_toArray, List.set_cons_zero, List.set_cons_succ]
  refine wpAnyH_take (i := 1) (v := _) rfl (by kernel_rfl) (by kernel_rfl) (by kernel_rfl) (fun _ _ _ h => h) (Or.inl ⟨by rfl, by (intro wz hSw; have hca := hSw.1; go_simp; try with_reducible rfl)⟩) (by assumption) ?_
  try simp only [List.getElem_toArray, List.getElem_cons_zero, List.getElem_cons_succ, Act.put, List.setIfInBounds_toArray, List.set_cons_zero, List.set_cons_succ]
  refine wpAnyH_take (i := 2) (v := _) rfl (by kernel_rfl) (by kernel_rfl) (by kernel_rfl) (fun _ _ _ h => h) (Or.inl ⟨by rfl, by (intro wz hSw; go_simp; try with_reducible rfl)⟩) (by assumption) ?_
  try simp only [List.getElem_toArray, List.getElem_cons_zero, List.getElem_cons_succ, Act.put, List.setIfInBounds_toArray, List.set_cons_zero, List.set_cons_succ]
  refine wpAnyH_take (i := 3) (v := _) rfl (by kernel_rfl) (by kernel_rfl) (by kernel_rfl) (fun _ _ _ h => h) (Or.inl ⟨by rfl, by (intro wz hSw; have hca := hSw.2.1; have hcb := hSw.2.2.1; go_simp; try with_reducible rfl)⟩) (by assumption) ?_
  try simp only [List.getElem_toArray, List.getElem_cons_zero, List.getElem_cons_succ, Act.put, List.setIfInBounds_toArray, List.set_cons_zero, List.set_cons_succ]
  refine wpAnyH_take (i := 4) (v := _) rfl (by kernel_rfl) (by kernel_rfl) (by kernel_rfl) (fun _ _ _ h => h) (Or.inl ⟨by rfl, by (intro wz hSw; go_simp; try with_reducible rfl)⟩) (by assumption) ?_
  try simp only [List.getElem_toArray, List.getElem_cons_zero, List.getElem_cons_succ, Act.put, List.setIfInBounds_toArray, List.set_cons_zero, List.set_cons_succ]
  refine wpAnyH_take (i := 5) (v := _) rfl (by kernel_rfl) (by kernel_rfl) (by kernel_rfl) (fun _ _ _ h => h) (Or.inl ⟨by rfl, by (intro wz hSw; go_simp; try with_reducible rfl)⟩) (by assumption) ?_
  try simp only [List.getElem_toArray, List.getElem_cons_zero, List.getElem_cons_succ, Act.put, List.setIfInBounds_toArray, List.set_cons_zero, List.set_cons_succ]
  refine wpAnyH_take (i := 6) (v := _) rfl (by kernel_rfl) (by kernel_rfl) (by kernel_rfl) (fun _ _ _ h => h) (Or.inl ⟨by rfl, by (intro wz hSw; go_simp; try with_reducible rfl)⟩) (by assumption) ?_
  try simp only [List.getElem_toArray, List.getElem_cons_zero, List.getElem_cons_succ, Act.put, List.setIfInBounds_toArray, List.set_cons_zero, List.set_cons_succ]
  refine wpAnyH_take (i := 7) (v := _) rfl (by kernel_rfl) (by kernel_rfl) (by kernel_rfl) (fun _ _ _ h => h) (Or.inl ⟨by rfl, by (intro wz hSw; have hca := hSw.2.2.2; go_simp; try with_reducible rfl)⟩) (by assumption) ?_
  try simp only [List.getElem_toArray, List.getElem_cons_zero, List.getElem_cons_succ, Act.put, List.setIfInBounds_toArray, List.set_cons_zero, List.set_cons_succ]
  refine wpAnyH_take (i := 8) (v := _) rfl (by kernel_rfl) (by kernel_rfl) (by kernel_rfl) (fun _ _ _ h => h) (Or.inl ⟨by rfl, by (intro wz hSw; go_simp; try with_reducible rfl)⟩) (by assumption) ?_
  try simp only [List.getElem_toArray, List.getElem_cons_zero, List.getElem_cons_succ, Act.put, List.setIfInBounds_toArray, List.set_cons_zero, List.set_cons_succ]
  refine wpAnyH_take (i := 9) (v := _) rfl (by kernel_rfl) (by kernel_rfl) (by kernel_rfl) (fun _ _ _ h => h) (Or.inl ⟨by rfl, by (intro wz hSw; go_simp; try with_reducible rfl)⟩) (by assumption) ?_
  try simp only [List.getElem_toArray, List.getElem_cons_zero, List.getElem_cons_succ, Act.put, List.setIfInBounds_toArray, List.set_cons_zero, List.set_cons_succ]
  refine wpAnyH_ready (rs := [10]) (by kernel_rfl) (by simp) ?_
  refine AllReadyH.cons rfl (fun K hK => ?_) AllReadyH.nil
  go_simp
  refine hK.out _ _ ?_ (fun hHeld => ?_)
  · exact ⟨cell_kp (Kp.new _ _) hHeld.1, cell_kp (Kp.new _ _) hHeld.2.1, cell_kp (Kp.new _ _) hHeld.2.2.1, cell_kp (Kp.new _ _) hHeld.2.2.2⟩
  clear hK K
  refine wpAnyH_ready (rs := [11]) (by kernel_rfl) (by simp) ?_
  refine AllReadyH.cons rfl (fun K hK => ?_) AllReadyH.nil
  refine step_store_mid (by rfl) 99 (.tmp 9) (.tmp 35) (by rfl) w6.heap.size 0 #[.int .i64 4, .func (.func 94) #[] #[]] (by rfl) (by rfl) HT6.out wayInfo2 (twoOne rfl) ?_
  refine hK.out _ _ ?_ (fun hHeld => ?_)
  · exact ⟨cell_kps (Kp.setCells _ _ _ _) hHeld.1 (by simp; have := HL4.out; have := HLW.out; have := HLG.out; omega), cell_kps (Kp.setCells _ _ _ _) hHeld.2.1 (by simp; have := HL4.out; have := HLW.out; have := HLG.out; omega), cell_kps (Kp.setCells _ _ _ _) hHeld.2.2.1 (by simp; have := HL4.out; have := HLW.out; have := HLG.out; omega), cell_kps (Kp.setCells _ _ _ _) hHeld.2.2.2 (by simp; have := HL4.out; have := HLW.out; have := HLG.out; omega)⟩
  clear hK K
  refine wpAnyH_take (i := 12) (v := _) rfl (by kernel_rfl) (by kernel_rfl) (by kernel_rfl) (fun _ _ _ h => h) (Or.inl ⟨by rfl, by (intro wz hSw; go_simp; try with_reducible rfl)⟩) (by assumption) ?_
  try simp only [List.getElem_toArray, List.getElem_cons_zero, List.getElem_cons_succ, Act.put, List.setIfInBounds_toArray, List.set_cons_zero, List.set_cons_succ]
  refine wpAnyH_done (by kernel_rfl) ?_ _
  clear hHeld
  have HD7 : Hid (DC w b b t ⟨11, xa, xb, xi, xn, xr, xd, xs⟩ ef0 ((w6.alloc (.cells #[.int .i64 0, .nilFunc] 99)).setCells w6.heap.size 0 (#[.int .i64 4, .func (.func 94) #[] #[]] : Array Value).toList)) := HD6.out.kp0 (HKN6.out)
  generalize (w6.alloc (.cells #[.int .i64 0, .nilFunc] 99)).setCells w6.heap.size 0 (#[.int .i64 4, .func (.func 94) #[] #[]] : Array Value).toList = w7 at HD7 HRN6 ⊢
  have z0 : w7.cell? ⟨w6.heap.size, 0, none⟩ = some (.int .i64 4) := by simpa using HRN6.out 0 _ rfl
  have z1 : w7.cell? ⟨w6.heap.size, 1, none⟩ = some (.func (.func 94) #[] #[]) := by simpa using HRN6.out 1 _ rfl
  have a70 : w7.cell? ⟨w.heap.size, 0, none⟩ = some (.int .i64 11) := HD7.out.A.cell 0
  have a71 : w7.cell? ⟨w.heap.size, 1, none⟩ = some (.int .i64 xa) := HD7.out.A.cell 1
  have a72 : w7.cell? ⟨w.heap.size, 2, none⟩ = some (.int .i64 xb) := HD7.out.A.cell 2
  have a73 : w7.cell? ⟨w.heap.size, 3, none⟩ = some (.int .i64 xi) := HD7.out.A.cell 3
  have a74 : w7.cell? ⟨w.heap.size, 4, none⟩ = some (.int .i64 xn) := HD7.out.A.cell 4
  have a75 : w7.cell? ⟨w.heap.size, 5, none⟩ = some (.int .i64 xr) := HD7.out.A.cell 5
  have a76 : w7.cell? ⟨w.heap.size, 6, none⟩ = some (.int .i64 xd) := HD7.out.A.cell 6
  have a77 : w7.cell? ⟨w.heap.size, 7, none⟩ = some (.int .i64 xs) := HD7.out.A.cell 7
  go_wp2_with (first
    | (go_at_call 74; go_loud (refine (HCK2.out _ HD7.out.R).mono ?_; rintro e w8 ⟨rfl, hk8⟩; have HD8 : Hid (DC w b b t ⟨11, xa, xb, xi, xn, xr, xd, xs⟩ ef0 (w8)) := HD7.out.kp0 (hk8); have a80 : w8.cell? ⟨w.heap.size, 0, none⟩ = some (.int .i64 11) := HD8.out.A.cell 0; have a81 : w8.cell? ⟨w.heap.size, 1, none⟩ = some (.int .i64 xa) := HD8.out.A.cell 1; have a82 : w8.cell? ⟨w.heap.size, 2, none⟩ = some (.int .i64 xb) := HD8.out.A.cell 2; have a83 : w8.cell? ⟨w.heap.size, 3, none⟩ = some (.int .i64 xi) := HD8.out.A.cell 3; have a84 : w8.cell? ⟨w.heap.size, 4, none⟩ = some (.int .i64 xn) := HD8.out.A.cell 4; have a85 : w8.cell? ⟨w.heap.size, 5, none⟩ = some (.int .i64 xr) := HD8.out.A.cell 5; have a86 : w8.cell? ⟨w.heap.size, 6, none⟩ = some (.int .i64 xd) := HD8.out.A.cell 6; have a87 : w8.cell? ⟨w.heap.size, 7, none⟩ = some (.int .i64 xs) := HD8.out.A.cell 7; have z81 := cell_kp hk8 z1; clear hk8))
    | (go_at_call 94; go_loud (refine (HDO2.out _ HD8.out.R).mono ?_; rintro e w9 ⟨A, n, c, rfl, hch9, hf9⟩; obtain ⟨b9, e91, e92, D9⟩ := HD8.out.chg hch9; obtain ⟨hth, hch, hrg⟩ := DC.fin (ef' := #[.slice A n c, .int .i64 eo, .int .i64 ei, .int .i64 eold, .int .i64 enew, .int .i64 emade, .int .i64 eload]) D9 rfl rfl; have hfr : FarI (w9.setCells (w.heap.size + 1) 0 (#[.slice A n c, .int .i64 eo, .int .i64 ei, .int .i64 eold, .int .i64 enew, .int .i64 emade, .int .i64 eload] : Array Value).toList) w.heap.size (.slice A n c) zs := (hf9.kp (Kp.setCells w9 (w.heap.size + 1) 0 (#[.slice A n c, .int .i64 eo, .int .i64 ei, .int .i64 eold, .int .i64 enew, .int .i64 emade, .int .i64 eload] : Array Value).toList) (by simp; have := HD8.out.E.lt; omega)).base (by have := HD8.out.E.lt; omega); have HTH := hid hth; have HCH := hid hch; have HRG := hid hrg; have HFR := hid hfr; clear hth hch hrg hfr hch9 hf9 D9 e91 e92))
    | (refine wpList_store_mid (by rfl) 73 (.tmp 6) (.tmp 56) (by rfl) (w.heap.size + 1) 0 #[.slice A n c, .int .i64 eo, .int .i64 ei, .int .i64 eold, .int .i64 enew, .int .i64 emade, .int .i64 eload] (by rfl) (by rfl) HTH.out effInfo effOne ?_))
  generalize w9.setCells (w.heap.size + 1) 0 (#[.slice A n c, .int .i64 eo, .int .i64 ei, .int .i64 eold, .int .i64 enew, .int .i64 emade, .int .i64 eload] : Array Value).toList = W9 at HCH HRG HFR ⊢
  have g0 : W9.cell? ⟨w.heap.size + 1, 0, none⟩ = some (.slice A n c) := by simpa using HRG.out 0 _ rfl
  have g1 : W9.cell? ⟨w.heap.size + 1, 1, none⟩ = some (.int .i64 eo) := by simpa using HRG.out 1 _ rfl
  have g2 : W9.cell? ⟨w.heap.size + 1, 2, none⟩ = some (.int .i64 ei) := by simpa using HRG.out 2 _ rfl
  have g3 : W9.cell? ⟨w.heap.size + 1, 3, none⟩ = some (.int .i64 eold) := by simpa using HRG.out 3 _ rfl
  have g4 : W9.cell? ⟨w.heap.size + 1, 4, none⟩ = some (.int .i64 enew) := by simpa using HRG.out 4 _ rfl
  have g5 : W9.cell? ⟨w.heap.size + 1, 5, none⟩ = some (.int .i64 emade) := by simpa using HRG.out 5 _ rfl
  have g6 : W9.cell? ⟨w.heap.size + 1, 6, none⟩ = some (.int .i64 eload) := by simpa using HRG.out 6 _ rfl
  refine bodyPost_ret (v := .tuple #[.agg #[.slice A n c, .int .i64 eo, .int .i64 ei, .int .i64 eold, .int .i64 enew, .int .i64 emade, .int .i64 eload], .int .i64 0]) ?_ rfl ⟨A, n, c, rfl, HCH.out, HFR.out⟩
  simp [results, Tryd.results40, asAddr, Act.put, go_sem, g0, g1, g2, g3, g4, g5, g6]
set_option maxRecDepth 100000 in
set_option maxHeartbeats 1000000 in
theorem m_do11_no (R : MR w b t) (m : Nat) (hm : m < t.n) (xa xb xi xn xr xd xs : Int) (er : Int) (her : (er != 0) = true) (HCK : ∀ W, MR W b t → Calls Tryd.prog 74 #[.pointer (some ⟨b.g, 0, none⟩), .agg #[.int .i64 4, .func (.func 94) #[] #[]], .pointer (some ⟨b.sb, m * 16, none⟩), .agg #[.int .i64 11, .int .i64 xa, .int .i64 xb, .int .i64 xi, .int .i64 xn, .int .i64 xr, .int .i64 xd, .int .i64 xs]] W fun e w' => e = .returned (.int .i64 er) ∧ Kp [] W w') :
    Calls Tryd.prog 40 #[.pointer (some ⟨b.g, 0, none⟩), .int .i64 (m : Int), .agg #[.int .i64 11, .int .i64 xa, .int .i64 xb, .int .i64 xi, .int .i64 xn, .int .i64 xr, .int .i64 xd, .int .i64 xs]] w fun e w' => e = .returned (.tuple #[.agg #[.slice none 0 0, .int .i64 0, .int .i64 0, .int .i64 0, .int .i64 0, .int .i64 0, .int .i64 0], .int .i64 er]) ∧ ChgM w b t w' := by
  have HCK2 := hid HCK
  clear HCK
  have h4 := R.ok.n4
  have D2 : DC w b b t ⟨11, xa, xb, xi, xn, xr, xd, xs⟩ ef0 _ := DC.start R
  unfold MA.cells ef0 at D2
  simp only at D2
  have hmi : (m : Int) < (t.n : Int) := by omega
  have HHM : Hid (t.hasM (m : Int) = true) := decide_eq_true ⟨by omega, by omega⟩
  clear R
  go_enter Tryd.func40, Tryd.ntmps40
  go_upto_region 1 with fail
  generalize ((w.alloc (.cells #[.int .i64 11, .int .i64 xa, .int .i64 xb, .int .i64 xi, .int .i64 xn, .int .i64 xr, .int .i64 xd, .int .i64 xs] 35)).alloc (.cells #[.slice none 0 0, .int .i64 0, .int .i64 0, .int .i64 0, .int .i64 0, .int .i64 0, .int .i64 0] 73)) = W2 at D2 ⊢
  have HD2 := hid D2
  clear D2
  go_wp2_with (first
    | (go_at_call 41; go_loud (refine (m_made HD2.out.R).mono ?_; rintro e w' ⟨rfl, n1, rfl⟩; have HD3 : Hid (DC w b b t ⟨11, xa, xb, xi, xn, xr, xd, xs⟩ ef0 (W2.drewN n1)) := HD2.out.kp0 (Kp.draw _ n1)))
    | (go_at_call 73; go_loud (refine (m_ways _).mono ?_; rintro e w4 ⟨rfl, hk4⟩; have HD4 : Hid (DC w b b t ⟨11, xa, xb, xi, xn, xr, xd, xs⟩ ef0 (w4)) := HD3.out.kp0 (hk4); obtain ⟨ht, hkn, hrn⟩ := fillN (vs := wayc) (Blk.new w4 100 #[.int .i64 0, .nilFunc, .int .i64 0, .nilFunc, .int .i64 0, .nilFunc, .int .i64 0, .nilFunc, .int .i64 0, .nilFunc, .int .i64 0, .nilFunc, .int .i64 0, .nilFunc, .int .i64 0, .nilFunc, .int .i64 0, .nilFunc, .int .i64 0, .nilFunc, .int .i64 0, .nilFunc, .int .i64 0, .nilFunc]) rfl (Kp.new w4 _) (Nat.le_refl _); have HT := hid ht; have HKN := hid hkn; have HRN := hid hrn; clear ht hkn hrn hk4))
    | (refine wpList_store_mid (by rfl) 100 (.tmp 8) (.tmp 16) (by rfl) w4.heap.size 0 wayc (by rfl) (by rfl) HT.out wayInfo wayOne ?_; have HD5 : Hid (DC w b b t ⟨11, xa, xb, xi, xn, xr, xd, xs⟩ ef0 ((w4.alloc (.cells #[.int .i64 0, .nilFunc, .int .i64 0, .nilFunc, .int .i64 0, .nilFunc, .int .i64 0, .nilFunc, .int .i64 0, .nilFunc, .int .i64 0, .nilFunc, .int .i64 0, .nilFunc, .int .i64 0, .nilFunc, .int .i64 0, .nilFunc, .int .i64 0, .nilFunc, .int .i64 0, .nilFunc, .int .i64 0, .nilFunc] 100)).setCells w4.heap.size 0 wayc.toList)) := HD4.out.kp0 (HKN.out); generalize (w4.alloc (.cells #[.int .i64 0, .nilFunc, .int .i64 0, .nilFunc, .int .i64 0, .nilFunc, .int .i64 0, .nilFunc, .int .i64 0, .nilFunc, .int .i64 0, .nilFunc, .int .i64 0, .nilFunc, .int .i64 0, .nilFunc, .int .i64 0, .nilFunc, .int .i64 0, .nilFunc, .int .i64 0, .nilFunc, .int .i64 0, .nilFunc] 100)).setCells w4.heap.size 0 wayc.toList = w5 at HD5 HRN ⊢; have a50 : w5.cell? ⟨w.heap.size, 0, none⟩ = some (.int .i64 11) := HD5.out.A.cell 0)
    | (go_at_call 59; go_loud (refine (m_hasMutator HD5.out.R _).mono ?_; rw [HHM.out]; rintro e w' ⟨rfl, rfl⟩)))
  obtain ⟨cs, hcs1, hcs2, hb0⟩ := HD5.out.R.c0
  unfold maxLen at hcs2
  have r1 : w5.cell? ⟨w4.heap.size, 22, none⟩ = some (.int .i64 4) := by simpa using HRN.out 22 _ rfl
  have r2 : w5.cell? ⟨w4.heap.size, 23, none⟩ = some (.func (.func 94) #[] #[]) := by simpa using HRN.out 23 _ rfl
  have HLT : Hid (w.heap.size + 2 ≤ w4.heap.size) := HD4.out.E.lt
  refine wp_region_held_drew (S := (fun wz => wz.cell? ⟨w.heap.size, 0, none⟩ = some (.int .i64 11) ∧ wz.cell? ⟨w4.heap.size, 22, none⟩ = some (.int .i64 4) ∧ wz.cell? ⟨w4.heap.size, 23, none⟩ = some (.func (.func 94) #[] #[]) ∧ wz.cell? ⟨b.g, 0, none⟩ = some (.slice (some ⟨b.sb, 0, none⟩) t.n cs))) (by kernel_rfl) ?_ (fun hHeld => ?_)
  · exact ⟨cell_kp (Kp.draw _ 1) a50, cell_kp (Kp.draw _ 1) r1, cell_kp (Kp.draw _ 1) r2, cell_kp (Kp.draw _ 1) hb0⟩
  have HD6 : Hid (DC w b b t ⟨11, xa, xb, xi, xn, xr, xd, xs⟩ ef0 (w5.drew)) := HD5.out.kp0 (Kp.draw _ 1)
  clear a50 r1 r2 hb0
  generalize w5.drew = w6 at HD6 hHeld ⊢
  have HL4 : Hid (w4.heap.size < w6.heap.size) := cell_lt hHeld.2.1
  have HLW : Hid (w.heap.size + 2 ≤ w6.heap.size) := HD6.out.E.lt
  have HLG : Hid (b.g < w6.heap.size) := cell_lt hHeld.2.2.2
  obtain ⟨ht, hkn, hrn⟩ := fillN (vs := #[.int .i64 4, .func (.func 94) #[] #[]]) (Blk.new w6 99 #[.int .i64 0, .nilFunc]) rfl (Kp.new w6 _) (Nat.le_refl _)
  have HT6 := hid ht
  have HKN6 := hid hkn
  have HRN6 := hid hrn
  clear ht hkn hrn
  refine wpAnyH_take (i := 0) (v := _) rfl (by kernel_rfl) (by kernel_rfl) (by kernel_rfl) (fun _ _ _ h => h) (Or.inl ⟨by rfl, by (intro wz hSw; go_simp; try with_reducible rfl)⟩) (by assumption) ?_
  try simp only [List.getElem_toArray, List.getElem_cons_zero, List.getElem_cons_succ, Act.put, List.setIfInBounds_toArray, List.set_cons_zero, List.set_cons_succ]
  refine wpAnyH_take (i := 1) (v := _) rfl (by kernel_rfl) (by kernel_rfl) (by kernel_rfl) (fun _ _ _ h => h) (Or.inl ⟨by rfl, by (intro wz hSw; have hca := hSw.1; go_simp; try with_reducible rfl)⟩) (by assumption) ?_
  try simp only [List.getElem_toArray, List.getElem_cons_zero, List.getElem_cons_succ, Act.put, List.setIfInBounds_toArray, List.set_cons_zero, List.set_cons_succ]
  refine wpAnyH_take (i := 2) (v := _) rfl (by kernel_rfl) (by kernel_rfl) (by kernel_rfl) (fun _ _ _ h => h) (Or.inl ⟨by rfl, by (intro wz hSw; go_simp; try with_reducible rfl)⟩) (by assumption) ?_
  try simp only [List.getElem_toArray, List.getElem_cons_zero, List.getElem_cons_succ, Act.put, List.setIfInBounds_toArray, List.set_cons_zero, List.set_cons_succ]
  refine wpAnyH_take (i := 3) (v := _) rfl (by kernel_rfl) (by kernel_rfl) (by kernel_rfl) (fun _ _ _ h => h) (Or.inl ⟨by rfl, by (intro wz hSw; have hca := hSw.2.1; have hcb := hSw.2.2.1; go_simp; try with_reducible rfl)⟩) (by assumption) ?_
  try simp only [List.getElem_toArray, List.getElem_cons_zero, List.getElem_cons_succ, Act.put, List.setIfInBounds_toArray, List.set_cons_zero, List.set_cons_succ]
  refine wpAnyH_take (i := 4) (v := _) rfl (by kernel_rfl) (by kernel_rfl) (by kernel_rfl) (fun _ _ _ h => h) (Or.inl ⟨by rfl, by (intro wz hSw; go_simp; try with_reducible rfl)⟩) (by assumption) ?_
  try simp only [List.getElem_toArray, List.getElem_cons_zero, List.getElem_cons_succ, Act.put, List.setIfInBounds_toArray, List.set_cons_zero, List.set_cons_succ]
  refine wpAnyH_take (i := 5) (v := _) rfl (by kernel_rfl) (by kernel_rfl) (by kernel_rfl) (fun _ _ _ h => h) (Or.inl ⟨by rfl, by (intro wz hSw; go_simp; try with_reducible rfl)⟩) (by assumption) ?_
  try simp only [List.getElem_toArray, List.getElem_cons_zero, List.getElem_cons_succ, Act.put, List.setIfInBounds_toArray, List.set_cons_zero, List.set_cons_succ]
  refine wpAnyH_take (i := 6) (v := _) rfl (by kernel_rfl) (by kernel_rfl) (by kernel_rfl) (fun _ _ _ h => h) (Or.inl ⟨by rfl, by (intro wz hSw; go_simp; try with_reducible rfl)⟩) (by assumption) ?_
  try simp only [List.getElem_toArray, List.getElem_cons_zero, List.getElem_cons_succ, Act.put, List.setIfInBounds_toArray, List.set_cons_zero, List.set_cons_succ]
  refine wpAnyH_take (i := 7) (v := _) rfl (by kernel_rfl) (by kernel_rfl) (by kernel_rfl) (fun _ _ _ h => h) (Or.inl ⟨by rfl, by (intro wz hSw; have hca := hSw.2.2.2; go_simp; try with_reducible rfl)⟩) (by assumption) ?_
  try simp only [List.getElem_toArray, List.getElem_cons_zero, List.getElem_cons_succ, Act.put, List.setIfInBounds_toArray, List.set_cons_zero, List.set_cons_succ]
  refine wpAnyH_take (i := 8) (v := _) rfl (by kernel_rfl) (by kernel_rfl) (by kernel_rfl) (fun _ _ _ h => h) (Or.inl ⟨by rfl, by (intro wz hSw; go_simp; try with_reducible rfl)⟩) (by assumption) ?_
  try simp only [List.getElem_toArray, List.getElem_cons_zero, List.getElem_cons_succ, Act.put, List.setIfInBounds_toArray, List.set_cons_zero, List.set_cons_succ]
  refine wpAnyH_take (i := 9) (v := _) rfl (by kernel_rfl) (by kernel_rfl) (by kernel_rfl) (fun _ _ _ h => h) (Or.inl ⟨by rfl, by (intro wz hSw; go_simp; try with_reducible rfl)⟩) (by assumption) ?_
  try simp only [List.getElem_toArray, List.getElem_cons_zero, List.getElem_cons_succ, Act.put, List.setIfInBounds_toArray, List.set_cons_zero, List.set_cons_succ]
  refine wpAnyH_ready (rs := [10]) (by kernel_rfl) (by simp) ?_
  refine AllReadyH.cons rfl (fun K hK => ?_) AllReadyH.nil
  go_simp
  refine hK.out _ _ ?_ (fun hHeld => ?_)
  · exact ⟨cell_kp (Kp.new _ _) hHeld.1, cell_kp (Kp.new _ _) hHeld.2.1, cell_kp (Kp.new _ _) hHeld.2.2.1, cell_kp (Kp.new _ _) hHeld.2.2.2⟩
  clear hK K
  refine wpAnyH_ready (rs := [11]) (by kernel_rfl) (by simp) ?_
  refine AllReadyH.cons rfl (fun K hK => ?_) AllReadyH.nil
  refine step_store_mid (by rfl) 99 (.tmp 9) (.tmp 35) (by rfl) w6.heap.size 0 #[.int .i64 4, .func (.func 94) #[] #[]] (by rfl) (by rfl) HT6.out wayInfo2 (twoOne rfl) ?_
  refine hK.out _ _ ?_ (fun hHeld => ?_)
  · exact ⟨cell_kps (Kp.setCells _ _ _ _) hHeld.1 (by simp; have := HL4.out; have := HLW.out; have := HLG.out; omega), cell_kps (Kp.setCells _ _ _ _) hHeld.2.1 (by simp; have := HL4.out; have := HLW.out; have := HLG.out; omega), cell_kps (Kp.setCells _ _ _ _) hHeld.2.2.1 (by simp; have := HL4.out; have := HLW.out; have := HLG.out; omega), cell_kps (Kp.setCells _ _ _ _) hHeld.2.2.2 (by simp; have := HL4.out; have := HLW.out; have := HLG.out; omega)⟩
  clear hK K
  refine wpAnyH_take (i := 12) (v := _) rfl (by kernel_rfl) (by kernel_rfl) (by kernel_rfl) (fun _ _ _ h => h) (Or.inl ⟨by rfl, by (intro wz hSw; go_simp; try with_reducible rfl)⟩) (by assumption) ?_
  try simp only [List.getElem_toArray, List.getElem_cons_zero, List.getElem_cons_succ, Act.put, List.setIfInBounds_toArray, List.set_cons_zero, List.set_cons_succ]
  refine wpAnyH_done (by kernel_rfl) ?_ _
  clear hHeld
  have HD7 : Hid (DC w b b t ⟨11, xa, xb, xi, xn, xr, xd, xs⟩ ef0 ((w6.alloc (.cells #[.int .i64 0, .nilFunc] 99)).setCells w6.heap.size 0 (#[.int .i64 4, .func (.func 94) #[] #[]] : Array Value).toList)) := HD6.out.kp0 (HKN6.out)
  generalize (w6.alloc (.cells #[.int .i64 0, .nilFunc] 99)).setCells w6.heap.size 0 (#[.int .i64 4, .func (.func 94) #[] #[]] : Array Value).toList = w7 at HD7 HRN6 ⊢
  have z0 : w7.cell? ⟨w6.heap.size, 0, none⟩ = some (.int .i64 4) := by simpa using HRN6.out 0 _ rfl
  have z1 : w7.cell? ⟨w6.heap.size, 1, none⟩ = some (.func (.func 94) #[] #[]) := by simpa using HRN6.out 1 _ rfl
  have a70 : w7.cell? ⟨w.heap.size, 0, none⟩ = some (.int .i64 11) := HD7.out.A.cell 0
  have a71 : w7.cell? ⟨w.heap.size, 1, none⟩ = some (.int .i64 xa) := HD7.out.A.cell 1
  have a72 : w7.cell? ⟨w.heap.size, 2, none⟩ = some (.int .i64 xb) := HD7.out.A.cell 2
  have a73 : w7.cell? ⟨w.heap.size, 3, none⟩ = some (.int .i64 xi) := HD7.out.A.cell 3
  have a74 : w7.cell? ⟨w.heap.size, 4, none⟩ = some (.int .i64 xn) := HD7.out.A.cell 4
  have a75 : w7.cell? ⟨w.heap.size, 5, none⟩ = some (.int .i64 xr) := HD7.out.A.cell 5
  have a76 : w7.cell? ⟨w.heap.size, 6, none⟩ = some (.int .i64 xd) := HD7.out.A.cell 6
  have a77 : w7.cell? ⟨w.heap.size, 7, none⟩ = some (.int .i64 xs) := HD7.out.A.cell 7
  go_wp2_with (first
    | (go_at_call 74; go_loud (refine (HCK2.out _ HD7.out.R).mono ?_; rintro e w8 ⟨rfl, hk8⟩; have HD8 : Hid (DC w b b t ⟨11, xa, xb, xi, xn, xr, xd, xs⟩ ef0 (w8)) := HD7.out.kp0 (hk8); have a80 : w8.cell? ⟨w.heap.size, 0, none⟩ = some (.int .i64 11) := HD8.out.A.cell 0; have a81 : w8.cell? ⟨w.heap.size, 1, none⟩ = some (.int .i64 xa) := HD8.out.A.cell 1; have a82 : w8.cell? ⟨w.heap.size, 2, none⟩ = some (.int .i64 xb) := HD8.out.A.cell 2; have a83 : w8.cell? ⟨w.heap.size, 3, none⟩ = some (.int .i64 xi) := HD8.out.A.cell 3; have a84 : w8.cell? ⟨w.heap.size, 4, none⟩ = some (.int .i64 xn) := HD8.out.A.cell 4; have a85 : w8.cell? ⟨w.heap.size, 5, none⟩ = some (.int .i64 xr) := HD8.out.A.cell 5; have a86 : w8.cell? ⟨w.heap.size, 6, none⟩ = some (.int .i64 xd) := HD8.out.A.cell 6; have a87 : w8.cell? ⟨w.heap.size, 7, none⟩ = some (.int .i64 xs) := HD8.out.A.cell 7; have z81 := cell_kp hk8 z1; obtain ⟨hth, hch, hrg⟩ := DC.fin (ef' := #[.slice none 0 0, .int .i64 0, .int .i64 0, .int .i64 0, .int .i64 0, .int .i64 0, .int .i64 0]) HD8.out rfl rfl; have HTH := hid hth; have HCH := hid hch; have HRG := hid hrg; clear hth hch hrg hk8))
    | (refine wpList_store_mid (by rfl) 73 (.tmp 6) (.tmp 49) (by rfl) (w.heap.size + 1) 0 #[.slice none 0 0, .int .i64 0, .int .i64 0, .int .i64 0, .int .i64 0, .int .i64 0, .int .i64 0] (by rfl) (by rfl) HTH.out effInfo effOne ?_))
  generalize w8.setCells (w.heap.size + 1) 0 (#[.slice none 0 0, .int .i64 0, .int .i64 0, .int .i64 0, .int .i64 0, .int .i64 0, .int .i64 0] : Array Value).toList = W9 at HCH HRG ⊢
  have g0 : W9.cell? ⟨w.heap.size + 1, 0, none⟩ = some (.slice none 0 0) := by simpa using HRG.out 0 _ rfl
  have g1 : W9.cell? ⟨w.heap.size + 1, 1, none⟩ = some (.int .i64 0) := by simpa using HRG.out 1 _ rfl
  have g2 : W9.cell? ⟨w.heap.size + 1, 2, none⟩ = some (.int .i64 0) := by simpa using HRG.out 2 _ rfl
  have g3 : W9.cell? ⟨w.heap.size + 1, 3, none⟩ = some (.int .i64 0) := by simpa using HRG.out 3 _ rfl
  have g4 : W9.cell? ⟨w.heap.size + 1, 4, none⟩ = some (.int .i64 0) := by simpa using HRG.out 4 _ rfl
  have g5 : W9.cell? ⟨w.heap.size + 1, 5, none⟩ = some (.int .i64 0) := by simpa using HRG.out 5 _ rfl
  have g6 : W9.cell? ⟨w.heap.size + 1, 6, none⟩ = some (.int .i64 0) := by simpa using HRG.out 6 _ rfl
  refine bodyPost_ret (v := .tuple #[.agg #[.slice none 0 0, .int .i64 0, .int .i64 0, .int .i64 0, .int .i64 0, .int .i64 0, .int .i64 0], .int .i64 er]) ?_ rfl ⟨rfl, HCH.out⟩
  simp [results, Tryd.results40, asAddr, Act.put, go_sem, g0, g1, g2, g3, g4, g5, g6]
end
end Go.Proofs.YtbiompmklijgoaaDoor
