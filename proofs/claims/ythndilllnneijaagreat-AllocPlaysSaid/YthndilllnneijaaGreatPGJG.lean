/-
  The contracts of package alloc's choose, best and next. Conditions: those that stand in each theorem.
-/
import Derived.Test.YthndilllnneijaaGreatPGJF
set_option linter.unusedSimpArgs false
set_option linter.unusedVariables false
set_option maxRecDepth 100000
set_option maxHeartbeats 2000000
namespace Go.Proofs.YthndilllnneijaaGreat
open Go.RowKit Go.Deep Go.Maps
section
variable {w W V : World} {b : HB} {m : HM} {q g : Nat} {A : AS}
theorem choose_best (h : SH w b q m) (ha : AL w g b A) (hA : A.Ok) (n : Nat) (hn : n ≤ 1000) (h32 : ¬ 32 < n) (hpo : A.po = 1)  :
   Calls Tryz.prog 110 #[.pointer (some ⟨g, 0, none⟩), .int .i64 (n : Int)] w fun e w' => e = .returned (.tuple #[.int .i64 ((orN (m.leastG A.sp n) (m.freeB 1) : Nat) : Int), .agg #[.int .i64 ((A.c : Nat) : Int), .int .i64 ((A.l : Nat) : Int), .int .i64 ((A.oc : Nat) : Int), .int .i64 ((A.ol : Nat) : Int)]]) ∧ Kp [] w w' := by
 have t : decide ((32 : Int) < (n : Int)) = false := decide_eq_false (by omega)
 have HPO := hid hpo
 have HC := hid (fun (W : World) (hs : SH W b q m) => a_best hs A.sp A.c A.l A.oc A.ol n (by omega))
 generalize orN (m.leastG A.sp n) (m.freeB 1) = z0 at HC ⊢
 clear h32
 have hgl : g < w.heap.size := Blk.lt ha
 obtain ⟨w0, hw0⟩ : ∃ w0, w0 = w.alloc (.cells #[.int .i64 0, .int .i64 0, .int .i64 0, .int .i64 0] 122) := ⟨_, rfl⟩
 have K0 : Kp [] w w0 := by rw [hw0]; exact Kp.new _ _
 have B5 : Blk w0 w.heap.size 122 #[.int .i64 0, .int .i64 0, .int .i64 0, .int .i64 0] := by rw [hw0]; exact Blk.new _ _ _
 obtain ⟨g5, hg5⟩ : ∃ z, z = w.heap.size := ⟨_, rfl⟩
 rw [← hg5] at B5
 have HU : Hid (CA w w0.drew b q m g A g5) := CA.step ⟨h.k0 K0, ha.kp K0 (by simp), B5, K0⟩ (Kp.draw _ 1)
 have k00 : w0.drew.cell? ⟨g, 0, none⟩ = some (.pointer (some ⟨b.g, 0, none⟩)) := HU.out.al.cell 0
 have k01 : w0.drew.cell? ⟨g, 1, none⟩ = some (.int .i64 (A.sp : Int)) := HU.out.al.cell 1
 have k02 : w0.drew.cell? ⟨g, 2, none⟩ = some (.int .i64 (1 : Int)) := HU.out.al.po_ hpo
 have k03 : w0.drew.cell? ⟨g, 3, none⟩ = some (.int .i64 (A.c : Int)) := HU.out.al.cell 3
 have k04 : w0.drew.cell? ⟨g, 4, none⟩ = some (.int .i64 (A.l : Int)) := HU.out.al.cell 4
 have k05 : w0.drew.cell? ⟨g, 5, none⟩ = some (.int .i64 (A.oc : Int)) := HU.out.al.cell 5
 have k06 : w0.drew.cell? ⟨g, 6, none⟩ = some (.int .i64 (A.ol : Int)) := HU.out.al.cell 6
 have HW := hid hw0
 have H5 := hid hg5
 have HLE : Hid (w.heap.size ≤ g5) := by show _ ≤ _; omega
 have hn5 : g5 ≠ g := by omega
 have hn6 : g ≠ g5 := by omega
 clear h K0 B5 hg5 ha hpo
 go_enter Tryz.func110, Tryz.ntmps110
 go_wp2
 rw [← HW.out, ← H5.out]
 clear H5 hw0
 refine wp_region_held_drew (S := fun W => AL W g b A) (by kernel_rfl) ?_ (fun hHeld => ?_)
 · exact HU.out.al
 refine tk0 1 rfl ?_
 refine tk0 2 rfl ?_
 refine tk0 3 rfl ?_
 refine tk 4 rfl (Or.inl ⟨by rfl, by (intro wz hSw; have cc2 := AL.po_ hSw HPO.out; go_simp; try with_reducible rfl)⟩) ?_
 refine tk0 7 rfl ?_
 refine tk0 8 rfl ?_
 refine tk0 9 rfl ?_
 refine tk 10 rfl (Or.inl ⟨by rfl, by (intro wz hSw; have cc0 : wz.cell? ⟨g, 0, none⟩ = some (.pointer (some ⟨b.g, 0, none⟩)) := hSw.cell 0; have cc1 : wz.cell? ⟨g, 1, none⟩ = some (.int .i64 (A.sp : Int)) := hSw.cell 1; go_simp; try with_reducible rfl)⟩) ?_
 refine tk0 11 rfl ?_
 refine tk0 12 rfl ?_
 refine tk0 13 rfl ?_
 refine tk 14 rfl (Or.inl ⟨by rfl, by (intro wz hSw; have cc3 : wz.cell? ⟨g, 3, none⟩ = some (.int .i64 (A.c : Int)) := hSw.cell 3; have cc4 : wz.cell? ⟨g, 4, none⟩ = some (.int .i64 (A.l : Int)) := hSw.cell 4; have cc5 : wz.cell? ⟨g, 5, none⟩ = some (.int .i64 (A.oc : Int)) := hSw.cell 5; have cc6 : wz.cell? ⟨g, 6, none⟩ = some (.int .i64 (A.ol : Int)) := hSw.cell 6; go_simp; try with_reducible rfl)⟩) ?_
 refine tk0 15 rfl ?_
 refine rd 0 rfl fun K hK => ?_
 go_simp
 (refine (a_policies _).mono ?_
  rintro e w5 ⟨rfl, hw5⟩
  have K5 : Kp [] w0.drew w5 := (by rw [hw5]; exact Kp.new _ _)
  have P5 := Blk.new w0.drew 164 polCells
  rw [← hw5] at P5
  have p5 : w5.cell? ⟨w0.heap.size, 1, none⟩ = some (.iface 156 (.agg #[])) := P5.cell 1
  have U1 := HU.out.step K5
  clear K5 hw5 P5)
 try go_wp2_with fail
 refine hK.out _ _ ?_ (fun hHeld => ?_)
 · exact U1.al
 clear hK K
 refine tk0 5 rfl ?_
 refine rd 6 rfl fun K hK => ?_
 go_simp
 refine hK.out _ _ ?_ (fun hHeld => ?_)
 · exact U1.al
 clear hK K
 refine tk0 16 rfl ?_
 refine tk0 17 rfl ?_
 refine rd 18 rfl fun K hK => ?_
 go_simp
 (refine (HC.out _ U1.sh).mono ?_
  rintro e w6 ⟨rfl, K6⟩
  have U2 := U1.step K6
  have y20 := U2.b5.cell 0; have z20 := U2.b5.frozen 0; have y21 := U2.b5.cell 1; have z21 := U2.b5.frozen 1; have y22 := U2.b5.cell 2; have z22 := U2.b5.frozen 2; have y23 := U2.b5.cell 3; have z23 := U2.b5.frozen 3
  clear K6)
 try go_wp2_with fail
 refine hK.out _ _ ?_ (fun hHeld => ?_)
 · exact U2.al
 clear hK K
 refine tk0 19 rfl ?_
 refine tk0 20 rfl ?_
 refine tk0 21 rfl ?_
 refine rd 22 rfl fun K hK => ?_
 go_simp
 refine hK.out _ _ ?_ (fun hHeld => ?_)
 · exact U2.al.kp (four_kp _ _ _ _ _ _) (by simpa using hn6)
 clear hK K
 refine wpAnyH_done (by kernel_rfl) ?_ _
 all_goals (
   go_wp2
   obtain ⟨q0, q1, q2, q3, K9⟩ := four_set U2.b5 HLE.out U2.kp (.int .i64 (A.c : Int)) (.int .i64 (A.l : Int)) (.int .i64 (A.oc : Int)) (.int .i64 (A.ol : Int))
   generalize ((((w6.setCell ⟨g5, 0, none⟩ (.int .i64 (A.c : Int))).setCell ⟨g5, 1, none⟩ (.int .i64 (A.l : Int))).setCell ⟨g5, 2, none⟩ (.int .i64 (A.oc : Int))).setCell ⟨g5, 3, none⟩ (.int .i64 (A.ol : Int))) = W9 at q0 q1 q2 q3 K9 ⊢
   refine bodyPost_ret (v := .tuple #[.int .i64 (z0 : Int), .agg #[.int .i64 (A.c : Int), .int .i64 (A.l : Int), .int .i64 (A.oc : Int), .int .i64 (A.ol : Int)]]) ?_ rfl ⟨rfl, K9⟩
   simp [results, Tryz.results110, q0, q1, q2, q3, go_sem])
theorem choose_next (h : SH w b q m) (ha : AL w g b A) (hA : A.Ok) (n : Nat) (hn : n ≤ 1000) (h32 : ¬ 32 < n) (hpo : A.po = 2)  :
   Calls Tryz.prog 110 #[.pointer (some ⟨g, 0, none⟩), .int .i64 (n : Int)] w fun e w' => e = .returned (.tuple #[.int .i64 ((orN (orN (m.lowG A.sp A.c n) (m.lowG A.sp 0 n)) (m.freeB 1) : Nat) : Int), .agg #[.int .i64 (((orN (orN (m.lowG A.sp A.c n) (m.lowG A.sp 0 n)) (m.freeB 1)) + n : Nat) : Int), .int .i64 ((A.l : Nat) : Int), .int .i64 ((A.oc : Nat) : Int), .int .i64 ((A.ol : Nat) : Int)]]) ∧ Kp [] w w' := by
 have t : decide ((32 : Int) < (n : Int)) = false := decide_eq_false (by omega)
 have HPO := hid hpo
 have HC := hid (fun (W : World) (hs : SH W b q m) => a_next hs A.sp A.c A.l A.oc A.ol n (Nat.le_trans hA.c (by omega)) (Nat.le_trans hA.l (by omega)) (Nat.le_trans hA.oc (by omega)) (Nat.le_trans hA.ol (by omega)) (by omega))
 generalize (orN (orN (m.lowG A.sp A.c n) (m.lowG A.sp 0 n)) (m.freeB 1)) + n = z1 at HC ⊢
 generalize orN (orN (m.lowG A.sp A.c n) (m.lowG A.sp 0 n)) (m.freeB 1) = z0 at HC ⊢
 clear h32
 have hgl : g < w.heap.size := Blk.lt ha
 obtain ⟨w0, hw0⟩ : ∃ w0, w0 = w.alloc (.cells #[.int .i64 0, .int .i64 0, .int .i64 0, .int .i64 0] 122) := ⟨_, rfl⟩
 have K0 : Kp [] w w0 := by rw [hw0]; exact Kp.new _ _
 have B5 : Blk w0 w.heap.size 122 #[.int .i64 0, .int .i64 0, .int .i64 0, .int .i64 0] := by rw [hw0]; exact Blk.new _ _ _
 obtain ⟨g5, hg5⟩ : ∃ z, z = w.heap.size := ⟨_, rfl⟩
 rw [← hg5] at B5
 have HU : Hid (CA w w0.drew b q m g A g5) := CA.step ⟨h.k0 K0, ha.kp K0 (by simp), B5, K0⟩ (Kp.draw _ 1)
 have k00 : w0.drew.cell? ⟨g, 0, none⟩ = some (.pointer (some ⟨b.g, 0, none⟩)) := HU.out.al.cell 0
 have k01 : w0.drew.cell? ⟨g, 1, none⟩ = some (.int .i64 (A.sp : Int)) := HU.out.al.cell 1
 have k02 : w0.drew.cell? ⟨g, 2, none⟩ = some (.int .i64 (2 : Int)) := HU.out.al.po_ hpo
 have k03 : w0.drew.cell? ⟨g, 3, none⟩ = some (.int .i64 (A.c : Int)) := HU.out.al.cell 3
 have k04 : w0.drew.cell? ⟨g, 4, none⟩ = some (.int .i64 (A.l : Int)) := HU.out.al.cell 4
 have k05 : w0.drew.cell? ⟨g, 5, none⟩ = some (.int .i64 (A.oc : Int)) := HU.out.al.cell 5
 have k06 : w0.drew.cell? ⟨g, 6, none⟩ = some (.int .i64 (A.ol : Int)) := HU.out.al.cell 6
 have HW := hid hw0
 have H5 := hid hg5
 have HLE : Hid (w.heap.size ≤ g5) := by show _ ≤ _; omega
 have hn5 : g5 ≠ g := by omega
 have hn6 : g ≠ g5 := by omega
 clear h K0 B5 hg5 ha hpo
 go_enter Tryz.func110, Tryz.ntmps110
 go_wp2
 rw [← HW.out, ← H5.out]
 clear H5 hw0
 refine wp_region_held_drew (S := fun W => AL W g b A) (by kernel_rfl) ?_ (fun hHeld => ?_)
 · exact HU.out.al
 refine tk0 1 rfl ?_
 refine tk0 2 rfl ?_
 refine tk0 3 rfl ?_
 refine tk 4 rfl (Or.inl ⟨by rfl, by (intro wz hSw; have cc2 := AL.po_ hSw HPO.out; go_simp; try with_reducible rfl)⟩) ?_
 refine tk0 7 rfl ?_
 refine tk0 8 rfl ?_
 refine tk0 9 rfl ?_
 refine tk 10 rfl (Or.inl ⟨by rfl, by (intro wz hSw; have cc0 : wz.cell? ⟨g, 0, none⟩ = some (.pointer (some ⟨b.g, 0, none⟩)) := hSw.cell 0; have cc1 : wz.cell? ⟨g, 1, none⟩ = some (.int .i64 (A.sp : Int)) := hSw.cell 1; go_simp; try with_reducible rfl)⟩) ?_
 refine tk0 11 rfl ?_
 refine tk0 12 rfl ?_
 refine tk0 13 rfl ?_
 refine tk 14 rfl (Or.inl ⟨by rfl, by (intro wz hSw; have cc3 : wz.cell? ⟨g, 3, none⟩ = some (.int .i64 (A.c : Int)) := hSw.cell 3; have cc4 : wz.cell? ⟨g, 4, none⟩ = some (.int .i64 (A.l : Int)) := hSw.cell 4; have cc5 : wz.cell? ⟨g, 5, none⟩ = some (.int .i64 (A.oc : Int)) := hSw.cell 5; have cc6 : wz.cell? ⟨g, 6, none⟩ = some (.int .i64 (A.ol : Int)) := hSw.cell 6; go_simp; try with_reducible rfl)⟩) ?_
 refine tk0 15 rfl ?_
 refine rd 0 rfl fun K hK => ?_
 go_simp
 (refine (a_policies _).mono ?_
  rintro e w5 ⟨rfl, hw5⟩
  have K5 : Kp [] w0.drew w5 := (by rw [hw5]; exact Kp.new _ _)
  have P5 := Blk.new w0.drew 164 polCells
  rw [← hw5] at P5
  have p5 : w5.cell? ⟨w0.heap.size, 2, none⟩ = some (.iface 157 (.agg #[])) := P5.cell 2
  have U1 := HU.out.step K5
  clear K5 hw5 P5)
 try go_wp2_with fail
 refine hK.out _ _ ?_ (fun hHeld => ?_)
 · exact U1.al
 clear hK K
 refine tk0 5 rfl ?_
 refine rd 6 rfl fun K hK => ?_
 go_simp
 refine hK.out _ _ ?_ (fun hHeld => ?_)
 · exact U1.al
 clear hK K
 refine tk0 16 rfl ?_
 refine tk0 17 rfl ?_
 refine rd 18 rfl fun K hK => ?_
 go_simp
 (refine (HC.out _ U1.sh).mono ?_
  rintro e w6 ⟨rfl, K6⟩
  have U2 := U1.step K6
  have y20 := U2.b5.cell 0; have z20 := U2.b5.frozen 0; have y21 := U2.b5.cell 1; have z21 := U2.b5.frozen 1; have y22 := U2.b5.cell 2; have z22 := U2.b5.frozen 2; have y23 := U2.b5.cell 3; have z23 := U2.b5.frozen 3
  clear K6)
 try go_wp2_with fail
 refine hK.out _ _ ?_ (fun hHeld => ?_)
 · exact U2.al
 clear hK K
 refine tk0 19 rfl ?_
 refine tk0 20 rfl ?_
 refine tk0 21 rfl ?_
 refine rd 22 rfl fun K hK => ?_
 go_simp
 refine hK.out _ _ ?_ (fun hHeld => ?_)
 · exact U2.al.kp (four_kp _ _ _ _ _ _) (by simpa using hn6)
 clear hK K
 refine wpAnyH_done (by kernel_rfl) ?_ _
 all_goals (
   go_wp2
   obtain ⟨q0, q1, q2, q3, K9⟩ := four_set U2.b5 HLE.out U2.kp (.int .i64 (z1 : Int)) (.int .i64 (A.l : Int)) (.int .i64 (A.oc : Int)) (.int .i64 (A.ol : Int))
   generalize ((((w6.setCell ⟨g5, 0, none⟩ (.int .i64 (z1 : Int))).setCell ⟨g5, 1, none⟩ (.int .i64 (A.l : Int))).setCell ⟨g5, 2, none⟩ (.int .i64 (A.oc : Int))).setCell ⟨g5, 3, none⟩ (.int .i64 (A.ol : Int))) = W9 at q0 q1 q2 q3 K9 ⊢
   refine bodyPost_ret (v := .tuple #[.int .i64 (z0 : Int), .agg #[.int .i64 (z1 : Int), .int .i64 (A.l : Int), .int .i64 (A.oc : Int), .int .i64 (A.ol : Int)]]) ?_ rfl ⟨rfl, K9⟩
   simp [results, Tryz.results110, q0, q1, q2, q3, go_sem])
end
section
variable {w W V : World} {b : HB} {m : HM} {q g : Nat} {A : AS}
theorem choose_bump (h : SH w b q m) (ha : AL w g b A) (hA : A.Ok) (n : Nat) (hn : n ≤ 1000) (h32 : ¬ 32 < n) (hpo : A.po = 3)  :
   Calls Tryz.prog 110 #[.pointer (some ⟨g, 0, none⟩), .int .i64 (n : Int)] w fun e w' => e = .returned (.tuple #[.int .i64 (((m.bumpA A.sp (A.c, A.l) n).1 : Nat) : Int), .agg #[.int .i64 (((m.bumpA A.sp (A.c, A.l) n).2.1 : Nat) : Int), .int .i64 (((m.bumpA A.sp (A.c, A.l) n).2.2 : Nat) : Int), .int .i64 ((A.oc : Nat) : Int), .int .i64 ((A.ol : Nat) : Int)]]) ∧ Kp [] w w' := by
 have t : decide ((32 : Int) < (n : Int)) = false := decide_eq_false (by omega)
 have HPO := hid hpo
 have HC := hid (fun (W : World) (hs : SH W b q m) => a_bumpC hs A.sp A.c A.l A.oc A.ol n (Nat.le_trans hA.c (by omega)) (Nat.le_trans hA.l (by omega)) (Nat.le_trans hA.oc (by omega)) (Nat.le_trans hA.ol (by omega)) (by omega))
 generalize (m.bumpA A.sp (A.c, A.l) n).2.1 = z1 at HC ⊢
 generalize (m.bumpA A.sp (A.c, A.l) n).2.2 = z2 at HC ⊢
 generalize (m.bumpA A.sp (A.c, A.l) n).1 = z0 at HC ⊢
 clear h32
 have hgl : g < w.heap.size := Blk.lt ha
 obtain ⟨w0, hw0⟩ : ∃ w0, w0 = w.alloc (.cells #[.int .i64 0, .int .i64 0, .int .i64 0, .int .i64 0] 122) := ⟨_, rfl⟩
 have K0 : Kp [] w w0 := by rw [hw0]; exact Kp.new _ _
 have B5 : Blk w0 w.heap.size 122 #[.int .i64 0, .int .i64 0, .int .i64 0, .int .i64 0] := by rw [hw0]; exact Blk.new _ _ _
 obtain ⟨g5, hg5⟩ : ∃ z, z = w.heap.size := ⟨_, rfl⟩
 rw [← hg5] at B5
 have HU : Hid (CA w w0.drew b q m g A g5) := CA.step ⟨h.k0 K0, ha.kp K0 (by simp), B5, K0⟩ (Kp.draw _ 1)
 have k00 : w0.drew.cell? ⟨g, 0, none⟩ = some (.pointer (some ⟨b.g, 0, none⟩)) := HU.out.al.cell 0
 have k01 : w0.drew.cell? ⟨g, 1, none⟩ = some (.int .i64 (A.sp : Int)) := HU.out.al.cell 1
 have k02 : w0.drew.cell? ⟨g, 2, none⟩ = some (.int .i64 (3 : Int)) := HU.out.al.po_ hpo
 have k03 : w0.drew.cell? ⟨g, 3, none⟩ = some (.int .i64 (A.c : Int)) := HU.out.al.cell 3
 have k04 : w0.drew.cell? ⟨g, 4, none⟩ = some (.int .i64 (A.l : Int)) := HU.out.al.cell 4
 have k05 : w0.drew.cell? ⟨g, 5, none⟩ = some (.int .i64 (A.oc : Int)) := HU.out.al.cell 5
 have k06 : w0.drew.cell? ⟨g, 6, none⟩ = some (.int .i64 (A.ol : Int)) := HU.out.al.cell 6
 have HW := hid hw0
 have H5 := hid hg5
 have HLE : Hid (w.heap.size ≤ g5) := by show _ ≤ _; omega
 have hn5 : g5 ≠ g := by omega
 have hn6 : g ≠ g5 := by omega
 clear h K0 B5 hg5 ha hpo
 go_enter Tryz.func110, Tryz.ntmps110
 go_wp2
 rw [← HW.out, ← H5.out]
 clear H5 hw0
 refine wp_region_held_drew (S := fun W => AL W g b A) (by kernel_rfl) ?_ (fun hHeld => ?_)
 · exact HU.out.al
 refine tk0 1 rfl ?_
 refine tk0 2 rfl ?_
 refine tk0 3 rfl ?_
 refine tk 4 rfl (Or.inl ⟨by rfl, by (intro wz hSw; have cc2 := AL.po_ hSw HPO.out; go_simp; try with_reducible rfl)⟩) ?_
 refine tk0 7 rfl ?_
 refine tk0 8 rfl ?_
 refine tk0 9 rfl ?_
 refine tk 10 rfl (Or.inl ⟨by rfl, by (intro wz hSw; have cc0 : wz.cell? ⟨g, 0, none⟩ = some (.pointer (some ⟨b.g, 0, none⟩)) := hSw.cell 0; have cc1 : wz.cell? ⟨g, 1, none⟩ = some (.int .i64 (A.sp : Int)) := hSw.cell 1; go_simp; try with_reducible rfl)⟩) ?_
 refine tk0 11 rfl ?_
 refine tk0 12 rfl ?_
 refine tk0 13 rfl ?_
 refine tk 14 rfl (Or.inl ⟨by rfl, by (intro wz hSw; have cc3 : wz.cell? ⟨g, 3, none⟩ = some (.int .i64 (A.c : Int)) := hSw.cell 3; have cc4 : wz.cell? ⟨g, 4, none⟩ = some (.int .i64 (A.l : Int)) := hSw.cell 4; have cc5 : wz.cell? ⟨g, 5, none⟩ = some (.int .i64 (A.oc : Int)) := hSw.cell 5; have cc6 : wz.cell? ⟨g, 6, none⟩ = some (.int .i64 (A.ol : Int)) := hSw.cell 6; go_simp; try with_reducible rfl)⟩) ?_
 refine tk0 15 rfl ?_
 refine rd 0 rfl fun K hK => ?_
 go_simp
 (refine (a_policies _).mono ?_
  rintro e w5 ⟨rfl, hw5⟩
  have K5 : Kp [] w0.drew w5 := (by rw [hw5]; exact Kp.new _ _)
  have P5 := Blk.new w0.drew 164 polCells
  rw [← hw5] at P5
  have p5 : w5.cell? ⟨w0.heap.size, 3, none⟩ = some (.iface 158 (.agg #[])) := P5.cell 3
  have U1 := HU.out.step K5
  clear K5 hw5 P5)
 try go_wp2_with fail
 refine hK.out _ _ ?_ (fun hHeld => ?_)
 · exact U1.al
 clear hK K
 refine tk0 5 rfl ?_
 refine rd 6 rfl fun K hK => ?_
 go_simp
 refine hK.out _ _ ?_ (fun hHeld => ?_)
 · exact U1.al
 clear hK K
 refine tk0 16 rfl ?_
 refine tk0 17 rfl ?_
 refine rd 18 rfl fun K hK => ?_
 go_simp
 (refine (HC.out _ U1.sh).mono ?_
  rintro e w6 ⟨rfl, K6⟩
  have U2 := U1.step K6
  have y20 := U2.b5.cell 0; have z20 := U2.b5.frozen 0; have y21 := U2.b5.cell 1; have z21 := U2.b5.frozen 1; have y22 := U2.b5.cell 2; have z22 := U2.b5.frozen 2; have y23 := U2.b5.cell 3; have z23 := U2.b5.frozen 3
  clear K6)
 try go_wp2_with fail
 refine hK.out _ _ ?_ (fun hHeld => ?_)
 · exact U2.al
 clear hK K
 refine tk0 19 rfl ?_
 refine tk0 20 rfl ?_
 refine tk0 21 rfl ?_
 refine rd 22 rfl fun K hK => ?_
 go_simp
 refine hK.out _ _ ?_ (fun hHeld => ?_)
 · exact U2.al.kp (four_kp _ _ _ _ _ _) (by simpa using hn6)
 clear hK K
 refine wpAnyH_done (by kernel_rfl) ?_ _
 all_goals (
   go_wp2
   obtain ⟨q0, q1, q2, q3, K9⟩ := four_set U2.b5 HLE.out U2.kp (.int .i64 (z1 : Int)) (.int .i64 (z2 : Int)) (.int .i64 (A.oc : Int)) (.int .i64 (A.ol : Int))
   generalize ((((w6.setCell ⟨g5, 0, none⟩ (.int .i64 (z1 : Int))).setCell ⟨g5, 1, none⟩ (.int .i64 (z2 : Int))).setCell ⟨g5, 2, none⟩ (.int .i64 (A.oc : Int))).setCell ⟨g5, 3, none⟩ (.int .i64 (A.ol : Int))) = W9 at q0 q1 q2 q3 K9 ⊢
   refine bodyPost_ret (v := .tuple #[.int .i64 (z0 : Int), .agg #[.int .i64 (z1 : Int), .int .i64 (z2 : Int), .int .i64 (A.oc : Int), .int .i64 (A.ol : Int)]]) ?_ rfl ⟨rfl, K9⟩
   simp [results, Tryz.results110, q0, q1, q2, q3, go_sem])
end
section
variable {w W V : World} {b : HB} {m : HM} {q g : Nat} {A : AS}
theorem choose_lines_fit (h : SH w b q m) (ha : AL w g b A) (hA : A.Ok) (n : Nat) (hn : n ≤ 1000) (h32 : ¬ 32 < n) (hpo : A.po = 4) (hfit : fitA (A.c, A.l) n = true) :
   Calls Tryz.prog 110 #[.pointer (some ⟨g, 0, none⟩), .int .i64 (n : Int)] w fun e w' => e = .returned (.tuple #[.int .i64 (((m.bumpA A.sp (A.c, A.l) n).1 : Nat) : Int), .agg #[.int .i64 (((m.bumpA A.sp (A.c, A.l) n).2.1 : Nat) : Int), .int .i64 (((m.bumpA A.sp (A.c, A.l) n).2.2 : Nat) : Int), .int .i64 ((A.oc : Nat) : Int), .int .i64 ((A.ol : Nat) : Int)]]) ∧ Kp [] w w' := by
 have t : decide ((32 : Int) < (n : Int)) = false := decide_eq_false (by omega)
 have HPO := hid hpo
 have HC := hid (fun (W : World) (hs : SH W b q m) => a_lines_fit hs A.sp A.c A.l A.oc A.ol n (Nat.le_trans hA.c (by omega)) (Nat.le_trans hA.l (by omega)) (Nat.le_trans hA.oc (by omega)) (Nat.le_trans hA.ol (by omega)) (by omega) hfit)
 generalize (m.bumpA A.sp (A.c, A.l) n).2.1 = z1 at HC ⊢
 generalize (m.bumpA A.sp (A.c, A.l) n).2.2 = z2 at HC ⊢
 generalize (m.bumpA A.sp (A.c, A.l) n).1 = z0 at HC ⊢
 clear hfit
 clear h32
 have hgl : g < w.heap.size := Blk.lt ha
 obtain ⟨w0, hw0⟩ : ∃ w0, w0 = w.alloc (.cells #[.int .i64 0, .int .i64 0, .int .i64 0, .int .i64 0] 122) := ⟨_, rfl⟩
 have K0 : Kp [] w w0 := by rw [hw0]; exact Kp.new _ _
 have B5 : Blk w0 w.heap.size 122 #[.int .i64 0, .int .i64 0, .int .i64 0, .int .i64 0] := by rw [hw0]; exact Blk.new _ _ _
 obtain ⟨g5, hg5⟩ : ∃ z, z = w.heap.size := ⟨_, rfl⟩
 rw [← hg5] at B5
 have HU : Hid (CA w w0.drew b q m g A g5) := CA.step ⟨h.k0 K0, ha.kp K0 (by simp), B5, K0⟩ (Kp.draw _ 1)
 have k00 : w0.drew.cell? ⟨g, 0, none⟩ = some (.pointer (some ⟨b.g, 0, none⟩)) := HU.out.al.cell 0
 have k01 : w0.drew.cell? ⟨g, 1, none⟩ = some (.int .i64 (A.sp : Int)) := HU.out.al.cell 1
 have k02 : w0.drew.cell? ⟨g, 2, none⟩ = some (.int .i64 (4 : Int)) := HU.out.al.po_ hpo
 have k03 : w0.drew.cell? ⟨g, 3, none⟩ = some (.int .i64 (A.c : Int)) := HU.out.al.cell 3
 have k04 : w0.drew.cell? ⟨g, 4, none⟩ = some (.int .i64 (A.l : Int)) := HU.out.al.cell 4
 have k05 : w0.drew.cell? ⟨g, 5, none⟩ = some (.int .i64 (A.oc : Int)) := HU.out.al.cell 5
 have k06 : w0.drew.cell? ⟨g, 6, none⟩ = some (.int .i64 (A.ol : Int)) := HU.out.al.cell 6
 have HW := hid hw0
 have H5 := hid hg5
 have HLE : Hid (w.heap.size ≤ g5) := by show _ ≤ _; omega
 have hn5 : g5 ≠ g := by omega
 have hn6 : g ≠ g5 := by omega
 clear h K0 B5 hg5 ha hpo
 go_enter Tryz.func110, Tryz.ntmps110
 go_wp2
 rw [← HW.out, ← H5.out]
 clear H5 hw0
 refine wp_region_held_drew (S := fun W => AL W g b A) (by kernel_rfl) ?_ (fun hHeld => ?_)
 · exact HU.out.al
 refine tk0 1 rfl ?_
 refine tk0 2 rfl ?_
 refine tk0 3 rfl ?_
 refine tk 4 rfl (Or.inl ⟨by rfl, by (intro wz hSw; have cc2 := AL.po_ hSw HPO.out; go_simp; try with_reducible rfl)⟩) ?_
 refine tk0 7 rfl ?_
 refine tk0 8 rfl ?_
 refine tk0 9 rfl ?_
 refine tk 10 rfl (Or.inl ⟨by rfl, by (intro wz hSw; have cc0 : wz.cell? ⟨g, 0, none⟩ = some (.pointer (some ⟨b.g, 0, none⟩)) := hSw.cell 0; have cc1 : wz.cell? ⟨g, 1, none⟩ = some (.int .i64 (A.sp : Int)) := hSw.cell 1; go_simp; try with_reducible rfl)⟩) ?_
 refine tk0 11 rfl ?_
 refine tk0 12 rfl ?_
 refine tk0 13 rfl ?_
 refine tk 14 rfl (Or.inl ⟨by rfl, by (intro wz hSw; have cc3 : wz.cell? ⟨g, 3, none⟩ = some (.int .i64 (A.c : Int)) := hSw.cell 3; have cc4 : wz.cell? ⟨g, 4, none⟩ = some (.int .i64 (A.l : Int)) := hSw.cell 4; have cc5 : wz.cell? ⟨g, 5, none⟩ = some (.int .i64 (A.oc : Int)) := hSw.cell 5; have cc6 : wz.cell? ⟨g, 6, none⟩ = some (.int .i64 (A.ol : Int)) := hSw.cell 6; go_simp; try with_reducible rfl)⟩) ?_
 refine tk0 15 rfl ?_
 refine rd 0 rfl fun K hK => ?_
 go_simp
 (refine (a_policies _).mono ?_
  rintro e w5 ⟨rfl, hw5⟩
  have K5 : Kp [] w0.drew w5 := (by rw [hw5]; exact Kp.new _ _)
  have P5 := Blk.new w0.drew 164 polCells
  rw [← hw5] at P5
  have p5 : w5.cell? ⟨w0.heap.size, 4, none⟩ = some (.iface 159 (.agg #[])) := P5.cell 4
  have U1 := HU.out.step K5
  clear K5 hw5 P5)
 try go_wp2_with fail
 refine hK.out _ _ ?_ (fun hHeld => ?_)
 · exact U1.al
 clear hK K
 refine tk0 5 rfl ?_
 refine rd 6 rfl fun K hK => ?_
 go_simp
 refine hK.out _ _ ?_ (fun hHeld => ?_)
 · exact U1.al
 clear hK K
 refine tk0 16 rfl ?_
 refine tk0 17 rfl ?_
 refine rd 18 rfl fun K hK => ?_
 go_simp
 (refine (HC.out _ U1.sh).mono ?_
  rintro e w6 ⟨rfl, K6⟩
  have U2 := U1.step K6
  have y20 := U2.b5.cell 0; have z20 := U2.b5.frozen 0; have y21 := U2.b5.cell 1; have z21 := U2.b5.frozen 1; have y22 := U2.b5.cell 2; have z22 := U2.b5.frozen 2; have y23 := U2.b5.cell 3; have z23 := U2.b5.frozen 3
  clear K6)
 try go_wp2_with fail
 refine hK.out _ _ ?_ (fun hHeld => ?_)
 · exact U2.al
 clear hK K
 refine tk0 19 rfl ?_
 refine tk0 20 rfl ?_
 refine tk0 21 rfl ?_
 refine rd 22 rfl fun K hK => ?_
 go_simp
 refine hK.out _ _ ?_ (fun hHeld => ?_)
 · exact U2.al.kp (four_kp _ _ _ _ _ _) (by simpa using hn6)
 clear hK K
 refine wpAnyH_done (by kernel_rfl) ?_ _
 all_goals (
   go_wp2
   obtain ⟨q0, q1, q2, q3, K9⟩ := four_set U2.b5 HLE.out U2.kp (.int .i64 (z1 : Int)) (.int .i64 (z2 : Int)) (.int .i64 (A.oc : Int)) (.int .i64 (A.ol : Int))
   generalize ((((w6.setCell ⟨g5, 0, none⟩ (.int .i64 (z1 : Int))).setCell ⟨g5, 1, none⟩ (.int .i64 (z2 : Int))).setCell ⟨g5, 2, none⟩ (.int .i64 (A.oc : Int))).setCell ⟨g5, 3, none⟩ (.int .i64 (A.ol : Int))) = W9 at q0 q1 q2 q3 K9 ⊢
   refine bodyPost_ret (v := .tuple #[.int .i64 (z0 : Int), .agg #[.int .i64 (z1 : Int), .int .i64 (z2 : Int), .int .i64 (A.oc : Int), .int .i64 (A.ol : Int)]]) ?_ rfl ⟨rfl, K9⟩
   simp [results, Tryz.results110, q0, q1, q2, q3, go_sem])
theorem choose_lines_over (h : SH w b q m) (ha : AL w g b A) (hA : A.Ok) (n : Nat) (hn : n ≤ 1000) (h32 : ¬ 32 < n) (hpo : A.po = 4) (hfit : fitA (A.c, A.l) n = false) (h8 : 8 < n) :
   Calls Tryz.prog 110 #[.pointer (some ⟨g, 0, none⟩), .int .i64 (n : Int)] w fun e w' => e = .returned (.tuple #[.int .i64 (((m.bumpA A.sp (A.oc, A.ol) n).1 : Nat) : Int), .agg #[.int .i64 ((A.c : Nat) : Int), .int .i64 ((A.l : Nat) : Int), .int .i64 (((m.bumpA A.sp (A.oc, A.ol) n).2.1 : Nat) : Int), .int .i64 (((m.bumpA A.sp (A.oc, A.ol) n).2.2 : Nat) : Int)]]) ∧ Kp [] w w' := by
 have t : decide ((32 : Int) < (n : Int)) = false := decide_eq_false (by omega)
 have HPO := hid hpo
 have HC := hid (fun (W : World) (hs : SH W b q m) => a_lines_over hs A.sp A.c A.l A.oc A.ol n (Nat.le_trans hA.c (by omega)) (Nat.le_trans hA.l (by omega)) (Nat.le_trans hA.oc (by omega)) (Nat.le_trans hA.ol (by omega)) (by omega) hfit h8)
 generalize (m.bumpA A.sp (A.oc, A.ol) n).2.1 = z1 at HC ⊢
 generalize (m.bumpA A.sp (A.oc, A.ol) n).2.2 = z2 at HC ⊢
 generalize (m.bumpA A.sp (A.oc, A.ol) n).1 = z0 at HC ⊢
 clear hfit h8
 clear h32
 have hgl : g < w.heap.size := Blk.lt ha
 obtain ⟨w0, hw0⟩ : ∃ w0, w0 = w.alloc (.cells #[.int .i64 0, .int .i64 0, .int .i64 0, .int .i64 0] 122) := ⟨_, rfl⟩
 have K0 : Kp [] w w0 := by rw [hw0]; exact Kp.new _ _
 have B5 : Blk w0 w.heap.size 122 #[.int .i64 0, .int .i64 0, .int .i64 0, .int .i64 0] := by rw [hw0]; exact Blk.new _ _ _
 obtain ⟨g5, hg5⟩ : ∃ z, z = w.heap.size := ⟨_, rfl⟩
 rw [← hg5] at B5
 have HU : Hid (CA w w0.drew b q m g A g5) := CA.step ⟨h.k0 K0, ha.kp K0 (by simp), B5, K0⟩ (Kp.draw _ 1)
 have k00 : w0.drew.cell? ⟨g, 0, none⟩ = some (.pointer (some ⟨b.g, 0, none⟩)) := HU.out.al.cell 0
 have k01 : w0.drew.cell? ⟨g, 1, none⟩ = some (.int .i64 (A.sp : Int)) := HU.out.al.cell 1
 have k02 : w0.drew.cell? ⟨g, 2, none⟩ = some (.int .i64 (4 : Int)) := HU.out.al.po_ hpo
 have k03 : w0.drew.cell? ⟨g, 3, none⟩ = some (.int .i64 (A.c : Int)) := HU.out.al.cell 3
 have k04 : w0.drew.cell? ⟨g, 4, none⟩ = some (.int .i64 (A.l : Int)) := HU.out.al.cell 4
 have k05 : w0.drew.cell? ⟨g, 5, none⟩ = some (.int .i64 (A.oc : Int)) := HU.out.al.cell 5
 have k06 : w0.drew.cell? ⟨g, 6, none⟩ = some (.int .i64 (A.ol : Int)) := HU.out.al.cell 6
 have HW := hid hw0
 have H5 := hid hg5
 have HLE : Hid (w.heap.size ≤ g5) := by show _ ≤ _; omega
 have hn5 : g5 ≠ g := by omega
 have hn6 : g ≠ g5 := by omega
 clear h K0 B5 hg5 ha hpo
 go_enter Tryz.func110, Tryz.ntmps110
 go_wp2
 rw [← HW.out, ← H5.out]
 clear H5 hw0
 refine wp_region_held_drew (S := fun W => AL W g b A) (by kernel_rfl) ?_ (fun hHeld => ?_)
 · exact HU.out.al
 refine tk0 1 rfl ?_
 refine tk0 2 rfl ?_
 refine tk0 3 rfl ?_
 refine tk 4 rfl (Or.inl ⟨by rfl, by (intro wz hSw; have cc2 := AL.po_ hSw HPO.out; go_simp; try with_reducible rfl)⟩) ?_
 refine tk0 7 rfl ?_
 refine tk0 8 rfl ?_
 refine tk0 9 rfl ?_
 refine tk 10 rfl (Or.inl ⟨by rfl, by (intro wz hSw; have cc0 : wz.cell? ⟨g, 0, none⟩ = some (.pointer (some ⟨b.g, 0, none⟩)) := hSw.cell 0; have cc1 : wz.cell? ⟨g, 1, none⟩ = some (.int .i64 (A.sp : Int)) := hSw.cell 1; go_simp; try with_reducible rfl)⟩) ?_
 refine tk0 11 rfl ?_
 refine tk0 12 rfl ?_
 refine tk0 13 rfl ?_
 refine tk 14 rfl (Or.inl ⟨by rfl, by (intro wz hSw; have cc3 : wz.cell? ⟨g, 3, none⟩ = some (.int .i64 (A.c : Int)) := hSw.cell 3; have cc4 : wz.cell? ⟨g, 4, none⟩ = some (.int .i64 (A.l : Int)) := hSw.cell 4; have cc5 : wz.cell? ⟨g, 5, none⟩ = some (.int .i64 (A.oc : Int)) := hSw.cell 5; have cc6 : wz.cell? ⟨g, 6, none⟩ = some (.int .i64 (A.ol : Int)) := hSw.cell 6; go_simp; try with_reducible rfl)⟩) ?_
 refine tk0 15 rfl ?_
 refine rd 0 rfl fun K hK => ?_
 go_simp
 (refine (a_policies _).mono ?_
  rintro e w5 ⟨rfl, hw5⟩
  have K5 : Kp [] w0.drew w5 := (by rw [hw5]; exact Kp.new _ _)
  have P5 := Blk.new w0.drew 164 polCells
  rw [← hw5] at P5
  have p5 : w5.cell? ⟨w0.heap.size, 4, none⟩ = some (.iface 159 (.agg #[])) := P5.cell 4
  have U1 := HU.out.step K5
  clear K5 hw5 P5)
 try go_wp2_with fail
 refine hK.out _ _ ?_ (fun hHeld => ?_)
 · exact U1.al
 clear hK K
 refine tk0 5 rfl ?_
 refine rd 6 rfl fun K hK => ?_
 go_simp
 refine hK.out _ _ ?_ (fun hHeld => ?_)
 · exact U1.al
 clear hK K
 refine tk0 16 rfl ?_
 refine tk0 17 rfl ?_
 refine rd 18 rfl fun K hK => ?_
 go_simp
 (refine (HC.out _ U1.sh).mono ?_
  rintro e w6 ⟨rfl, K6⟩
  have U2 := U1.step K6
  have y20 := U2.b5.cell 0; have z20 := U2.b5.frozen 0; have y21 := U2.b5.cell 1; have z21 := U2.b5.frozen 1; have y22 := U2.b5.cell 2; have z22 := U2.b5.frozen 2; have y23 := U2.b5.cell 3; have z23 := U2.b5.frozen 3
  clear K6)
 try go_wp2_with fail
 refine hK.out _ _ ?_ (fun hHeld => ?_)
 · exact U2.al
 clear hK K
 refine tk0 19 rfl ?_
 refine tk0 20 rfl ?_
 refine tk0 21 rfl ?_
 refine rd 22 rfl fun K hK => ?_
 go_simp
 refine hK.out _ _ ?_ (fun hHeld => ?_)
 · exact U2.al.kp (four_kp _ _ _ _ _ _) (by simpa using hn6)
 clear hK K
 refine wpAnyH_done (by kernel_rfl) ?_ _
 all_goals (
   go_wp2
   obtain ⟨q0, q1, q2, q3, K9⟩ := four_set U2.b5 HLE.out U2.kp (.int .i64 (A.c : Int)) (.int .i64 (A.l : Int)) (.int .i64 (z1 : Int)) (.int .i64 (z2 : Int))
   generalize ((((w6.setCell ⟨g5, 0, none⟩ (.int .i64 (A.c : Int))).setCell ⟨g5, 1, none⟩ (.int .i64 (A.l : Int))).setCell ⟨g5, 2, none⟩ (.int .i64 (z1 : Int))).setCell ⟨g5, 3, none⟩ (.int .i64 (z2 : Int))) = W9 at q0 q1 q2 q3 K9 ⊢
   refine bodyPost_ret (v := .tuple #[.int .i64 (z0 : Int), .agg #[.int .i64 (A.c : Int), .int .i64 (A.l : Int), .int .i64 (z1 : Int), .int .i64 (z2 : Int)]]) ?_ rfl ⟨rfl, K9⟩
   simp [results, Tryz.results110, q0, q1, q2, q3, go_sem])
end
end Go.Proofs.YthndilllnneijaaGreat
