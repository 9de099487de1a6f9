/-
  The contracts of package alloc's policies next, bump and lines. Conditions: those that stand in each theorem.
-/
import Derived.Test.YthndilllnneijaaGreatPGJE
set_option linter.unusedSimpArgs false
set_option linter.unusedVariables false
set_option maxRecDepth 100000
set_option maxHeartbeats 2000000
namespace Go.Proofs.YthndilllnneijaaGreat
open Go.RowKit Go.Deep Go.Maps
theorem or3 (x y z : Nat) : orN (orN x y) z = orL [x, y, z] := by
 show _ = orN x (orN y (orN z 0))
 unfold orN
 by_cases hx : x = 0
 · subst hx
   by_cases hy : y = 0
   · subst hy
     by_cases hz : z = 0
     · subst hz; rfl
     · simp [hz]
   · simp [hy]
 · simp [hx]
theorem firstFit_le {xs : List (Nat × Nat)} {n B : Nat} (h : ∀ a ∈ xs, a.1 ≤ B) : firstFit xs n ≤ B := by
 unfold firstFit
 split
 · exact h _ (List.mem_of_find?_eq_some (by assumption))
 · exact Nat.zero_le _
theorem lowG_le {m : HM} (I : m.Inv) (s f n : Nat) : m.lowG s f n ≤ max 4096 f := firstFit_le (fun a ha => (ars_bd I ha).1)
theorem orN_le {a b B : Nat} (ha : a ≤ B) (hb : b ≤ B) : orN a b ≤ B := by unfold orN; split <;> assumption
section
variable {w W V : World} {b : HB} {m : HM} {q g5 g6 g9 : Nat}
theorem a_next (h : SH w b q m) (s x y ox oy n : Nat) (hx : x ≤ 10000) (hy : y ≤ 10000) (hox : ox ≤ 10000) (hoy : oy ≤ 10000) (hn : n ≤ 10000) :
   Calls Tryz.prog 214 #[.agg #[], .agg #[.pointer (some ⟨b.g, 0, none⟩), .int .i64 (s : Int)], .agg #[.int .i64 (x : Int), .int .i64 (y : Int), .int .i64 (ox : Int), .int .i64 (oy : Int)], .int .i64 (n : Int)] w fun e w' => e = .returned (.tuple #[.int .i64 (orN (orN (m.lowG s x n) (m.lowG s 0 n)) (m.freeB 1) : Nat), .agg #[.int .i64 (((orN (orN (m.lowG s x n) (m.lowG s 0 n)) (m.freeB 1)) + n : Nat) : Int), .int .i64 ((y : Nat) : Int), .int .i64 ((ox : Nat) : Int), .int .i64 ((oy : Nat) : Int)]]) ∧ Kp [] w w' := by
 have HI := hid h.inv
 have hb1 := orN_le (orN_le (Nat.le_trans (lowG_le h.inv s x n) (show max 4096 x ≤ 10000 by omega)) (Nat.le_trans (lowG_le h.inv s 0 n) (show max 4096 0 ≤ 10000 by omega))) (Nat.le_trans (freeB_le m 1 h.inv) (show 4096 ≤ 10000 by omega))
 rw [or3] at hb1 ⊢
 obtain ⟨g1, hg1⟩ : ∃ z, m.lowG s x n = z := ⟨_, rfl⟩
 obtain ⟨g2, hg2⟩ : ∃ z, m.lowG s 0 n = z := ⟨_, rfl⟩
 obtain ⟨g3, hg3⟩ : ∃ z, m.freeB 1 = z := ⟨_, rfl⟩
 rw [hg1, hg2, hg3] at hb1 ⊢
 have HG1 := hid hg1
 have HG2 := hid hg2
 have HG3 := hid hg3
 clear hg1 hg2 hg3
 obtain ⟨ad, had⟩ : ∃ z, orL [g1, g2, g3] = z := ⟨_, rfl⟩
 rw [had] at hb1 ⊢
 have HAD := hid had
 have hcast : ((ad + n : Nat) : Int) = (ad : Int) + (n : Int) := by omega
 rw [hcast]
 clear had hcast
 obtain ⟨w0, hw0⟩ : ∃ w0, w0 = ((((w.alloc (.cells #[] 157)).alloc (.cells #[.pointer (some ⟨b.g, 0, none⟩), .int .i64 (s : Int)] 118)).alloc (.cells #[.int .i64 (x : Int), .int .i64 (y : Int), .int .i64 (ox : Int), .int .i64 (oy : Int)] 122)).alloc (.cells #[.int .i64 0, .int .i64 0, .int .i64 0, .int .i64 0] 122)) := ⟨_, rfl⟩
 have K0 : Kp [] w w0 := by rw [hw0]; exact (((Kp.new _ _).chain (Kp.new _ _)).chain (Kp.new _ _)).chain (Kp.new _ _)
 have B5 : Blk w0 (w.heap.size + 1) 118 #[.pointer (some ⟨b.g, 0, none⟩), .int .i64 (s : Int)] := by
   rw [hw0]
   have := ((Blk.new (w.alloc (.cells #[] 157)) 118 #[.pointer (some ⟨b.g, 0, none⟩), .int .i64 (s : Int)]).kp (Kp.new _ (.cells #[.int .i64 (x : Int), .int .i64 (y : Int), .int .i64 (ox : Int), .int .i64 (oy : Int)] 122)) (by simp)).kp (Kp.new _ (.cells #[.int .i64 0, .int .i64 0, .int .i64 0, .int .i64 0] 122)) (by simp)
   simpa using this
 have B6 : Blk w0 (w.heap.size + 1 + 1) 122 #[.int .i64 (x : Int), .int .i64 (y : Int), .int .i64 (ox : Int), .int .i64 (oy : Int)] := by
   rw [hw0]
   have := (Blk.new ((w.alloc (.cells #[] 157)).alloc (.cells #[.pointer (some ⟨b.g, 0, none⟩), .int .i64 (s : Int)] 118)) 122 #[.int .i64 (x : Int), .int .i64 (y : Int), .int .i64 (ox : Int), .int .i64 (oy : Int)]).kp (Kp.new _ (.cells #[.int .i64 0, .int .i64 0, .int .i64 0, .int .i64 0] 122)) (by simp)
   simpa using this
 have B9 : Blk w0 (w.heap.size + 1 + 1 + 1) 122 #[.int .i64 0, .int .i64 0, .int .i64 0, .int .i64 0] := by
   rw [hw0]
   have := Blk.new (((w.alloc (.cells #[] 157)).alloc (.cells #[.pointer (some ⟨b.g, 0, none⟩), .int .i64 (s : Int)] 118)).alloc (.cells #[.int .i64 (x : Int), .int .i64 (y : Int), .int .i64 (ox : Int), .int .i64 (oy : Int)] 122)) 122 #[.int .i64 0, .int .i64 0, .int .i64 0, .int .i64 0]
   simpa using this
 obtain ⟨g5, hg5⟩ : ∃ z, z = w.heap.size + 1 := ⟨_, rfl⟩
 obtain ⟨g6, hg6⟩ : ∃ z, z = w.heap.size + 1 + 1 := ⟨_, rfl⟩
 obtain ⟨g9, hg9⟩ : ∃ z, z = w.heap.size + 1 + 1 + 1 := ⟨_, rfl⟩
 rw [← hg5] at B5
 rw [← hg6] at B6
 rw [← hg9] at B9
 have U0 : CH w w0 b q m g5 g6 g9 s x y ox oy := ⟨h.k0 K0, B5, B6, B9, K0⟩
 have HU : Hid (CH w w0.drew b q m g5 g6 g9 s x y ox oy) := U0.step (Kp.draw _ 1)
 have t0 : w0.drew.cell? ⟨g5, 0, none⟩ = some (.pointer (some ⟨b.g, 0, none⟩)) := HU.out.r0
 have t1 : w0.drew.cell? ⟨g5, 1, none⟩ = some (.int .i64 (s : Int)) := HU.out.r1
 have t2 : w0.drew.cell? ⟨g6, 0, none⟩ = some (.int .i64 (x : Int)) := HU.out.c0
 have t3 : w0.drew.cell? ⟨g6, 1, none⟩ = some (.int .i64 (y : Int)) := HU.out.c1
 have t4 : w0.drew.cell? ⟨g6, 2, none⟩ = some (.int .i64 (ox : Int)) := HU.out.c2
 have t5 : w0.drew.cell? ⟨g6, 3, none⟩ = some (.int .i64 (oy : Int)) := HU.out.c3
 have HW := hid hw0
 have H5 := hid hg5
 have H6 := hid hg6
 have H9 := hid hg9
 have HLE : Hid (w.heap.size ≤ g9) := by show _ ≤ _; omega
 have HLE6 : Hid (w.heap.size ≤ g6) := by show _ ≤ _; omega
 have hn5 : g5 ≠ g9 := by omega
 have hn6 : g6 ≠ g9 := by omega
 have hn7 : g9 ≠ g5 := by omega
 have hn8 : g9 ≠ g6 := by omega
 have hn1 : g5 ≠ g6 := by omega
 have hn2 : g6 ≠ g5 := by omega
 clear h K0 B5 B6 B9 U0 hg5 hg6 hg9
 go_enter Tryz.func214, Tryz.ntmps214
 go_wp2_with (fail)
 rw [← HW.out, ← H9.out, ← H6.out, ← H5.out]
 clear H5 H6 H9 hw0
 go_region_held3 (fun W => W.cell? ⟨g5, 0, none⟩ = some (.pointer (some ⟨b.g, 0, none⟩)) ∧ W.cell? ⟨g5, 1, none⟩ = some (.int .i64 (s : Int)) ∧ W.cell? ⟨g6, 0, none⟩ = some (.int .i64 (x : Int))) (go_keep)
   (first
     | (go_at_call 207; refine (a_lowestGap U1.sh s 0 n (by omega) hn).mono ?_; rintro e w6 ⟨rfl, K6⟩; rw [HG2.out]; have U2 := U1.step K6; have a2 := U2.r0; have b2 := U2.r1; have c2 := U2.c0; have d2 := U2.c1; have e2 := U2.c2; have f2 := U2.c3; clear K6)
     | (go_at_call 207; refine (a_lowestGap HU.out.sh s x n hx hn).mono ?_; rintro e w5 ⟨rfl, K5⟩; rw [HG1.out]; have U1 := HU.out.step K5; have a1 := U1.r0; have b1 := U1.r1; have c1 := U1.c0; have d1 := U1.c1; have e1 := U1.c2; have f1 := U1.c3; clear K5)
     | (go_at_call 172; refine (a_free U2.sh s 1 (by omega) (by omega)).mono ?_; rintro e w7 ⟨rfl, K7⟩; rw [HG3.out]; have U3 := U2.step K7; have a3 := U3.r0; have b3 := U3.r1; have c3 := U3.c0; have d3 := U3.c1; have e3 := U3.c2; have f3 := U3.c3; clear K7)
     | (go_at_call 206; refine (a_or (zs := [g1, g2, g3]) (nats3 w7 g1 g2 g3) (by simp)).mono ?_; rintro e w8 ⟨rfl, K8⟩; rw [HAD.out]; have U4 := U3.step ((Kp.new _ _).chain K8); have a4 := U4.r0; have b4 := U4.r1; have c4 := U4.c0; have d4 := U4.c1; have e4 := U4.c2; have f4 := U4.c3; have y4 := U4.b9.cell 0; have z4 := U4.b9.cell 1; have u4 := U4.b9.cell 2; have v4 := U4.b9.cell 3; have yf4 := U4.b9.frozen 0; have zf4 := U4.b9.frozen 1; have uf4 := U4.b9.frozen 2; have vf4 := U4.b9.frozen 3; have yg4 := U4.b6.frozen 0; have zg4 := U4.b6.frozen 1; have ug4 := U4.b6.frozen 2; have vg4 := U4.b6.frozen 3; clear K8))
 all_goals (
   go_wp2
   have B6n : Blk (w8.setCell ⟨g6, 0, none⟩ (.int .i64 ((ad : Int) + (n : Int)))) g6 122 #[.int .i64 ((ad : Int) + (n : Int)), .int .i64 (y : Int), .int .i64 (ox : Int), .int .i64 (oy : Int)] := (U4.b6.set_ 0 (.int .i64 ((ad : Int) + (n : Int))))
   have B9n : Blk (w8.setCell ⟨g6, 0, none⟩ (.int .i64 ((ad : Int) + (n : Int)))) g9 122 #[.int .i64 0, .int .i64 0, .int .i64 0, .int .i64 0] := (U4.b9.kp (Kp.cell w8 ⟨g6, 0, none⟩ (.int .i64 ((ad : Int) + (n : Int)))) (by simp; omega))
   have K9n : Kp [] w (w8.setCell ⟨g6, 0, none⟩ (.int .i64 ((ad : Int) + (n : Int)))) := (U4.kp.trans (Kp.cell w8 ⟨g6, 0, none⟩ (.int .i64 ((ad : Int) + (n : Int)))) (U := []) (by simp) (fun z hz => .inr (by have := HLE6.out; simp at hz; omega)))
   generalize (w8.setCell ⟨g6, 0, none⟩ (.int .i64 ((ad : Int) + (n : Int)))) = Wn at B6n B9n K9n ⊢
   have p0 := B6n.cell 0
   have p1 := B6n.cell 1
   have p2 := B6n.cell 2
   have p3 := B6n.cell 3
   have r0 := B9n.cell 0
   have r1 := B9n.cell 1
   have r2 := B9n.cell 2
   have r3 := B9n.cell 3
   have s0 := B9n.frozen 0
   have s1 := B9n.frozen 1
   have s2 := B9n.frozen 2
   have s3 := B9n.frozen 3
   have HB9n := hid B9n
   have HK9n := hid K9n
   clear B6n B9n K9n
   go_region
   all_goals (
     go_wp2
     obtain ⟨q0, q1, q2, q3, K9⟩ := four_set HB9n.out HLE.out HK9n.out (.int .i64 ((ad : Int) + (n : Int))) (.int .i64 (y : Int)) (.int .i64 (ox : Int)) (.int .i64 (oy : Int))
     generalize ((((Wn.setCell ⟨g9, 0, none⟩ (.int .i64 ((ad : Int) + (n : Int)))).setCell ⟨g9, 1, none⟩ (.int .i64 (y : Int))).setCell ⟨g9, 2, none⟩ (.int .i64 (ox : Int))).setCell ⟨g9, 3, none⟩ (.int .i64 (oy : Int))) = W9 at q0 q1 q2 q3 K9 ⊢
     refine bodyPost_ret (v := .tuple #[.int .i64 (ad : Int), .agg #[.int .i64 ((ad : Int) + (n : Int)), .int .i64 (y : Int), .int .i64 (ox : Int), .int .i64 (oy : Int)]]) ?_ rfl ⟨rfl, K9.drewN 1⟩
     simp [results, Tryz.results214, q0, q1, q2, q3, go_sem]))
theorem a_bumpC (h : SH w b q m) (s x y ox oy n : Nat) (hx : x ≤ 10000) (hy : y ≤ 10000) (hox : ox ≤ 10000) (hoy : oy ≤ 10000) (hn : n ≤ 10000) :
   Calls Tryz.prog 215 #[.agg #[], .agg #[.pointer (some ⟨b.g, 0, none⟩), .int .i64 (s : Int)], .agg #[.int .i64 (x : Int), .int .i64 (y : Int), .int .i64 (ox : Int), .int .i64 (oy : Int)], .int .i64 (n : Int)] w fun e w' => e = .returned (.tuple #[.int .i64 ((m.bumpA s (x, y) n).1 : Nat), .agg #[.int .i64 (((m.bumpA s (x, y) n).2.1 : Nat) : Int), .int .i64 (((m.bumpA s (x, y) n).2.2 : Nat) : Int), .int .i64 ((ox : Nat) : Int), .int .i64 ((oy : Nat) : Int)]]) ∧ Kp [] w w' := by
 obtain ⟨pa, pc, pl, hP⟩ : ∃ pa pc pl, m.bumpA s (x, y) n = (pa, (pc, pl)) := ⟨_, _, _, rfl⟩
 rw [hP]
 have HP := hid hP
 dsimp only
 clear hP
 obtain ⟨w0, hw0⟩ : ∃ w0, w0 = ((((w.alloc (.cells #[] 158)).alloc (.cells #[.pointer (some ⟨b.g, 0, none⟩), .int .i64 (s : Int)] 118)).alloc (.cells #[.int .i64 (x : Int), .int .i64 (y : Int), .int .i64 (ox : Int), .int .i64 (oy : Int)] 122)).alloc (.cells #[.int .i64 0, .int .i64 0, .int .i64 0, .int .i64 0] 122)) := ⟨_, rfl⟩
 have K0 : Kp [] w w0 := by rw [hw0]; exact (((Kp.new _ _).chain (Kp.new _ _)).chain (Kp.new _ _)).chain (Kp.new _ _)
 have B5 : Blk w0 (w.heap.size + 1) 118 #[.pointer (some ⟨b.g, 0, none⟩), .int .i64 (s : Int)] := by
   rw [hw0]
   have := ((Blk.new (w.alloc (.cells #[] 158)) 118 #[.pointer (some ⟨b.g, 0, none⟩), .int .i64 (s : Int)]).kp (Kp.new _ (.cells #[.int .i64 (x : Int), .int .i64 (y : Int), .int .i64 (ox : Int), .int .i64 (oy : Int)] 122)) (by simp)).kp (Kp.new _ (.cells #[.int .i64 0, .int .i64 0, .int .i64 0, .int .i64 0] 122)) (by simp)
   simpa using this
 have B6 : Blk w0 (w.heap.size + 1 + 1) 122 #[.int .i64 (x : Int), .int .i64 (y : Int), .int .i64 (ox : Int), .int .i64 (oy : Int)] := by
   rw [hw0]
   have := (Blk.new ((w.alloc (.cells #[] 158)).alloc (.cells #[.pointer (some ⟨b.g, 0, none⟩), .int .i64 (s : Int)] 118)) 122 #[.int .i64 (x : Int), .int .i64 (y : Int), .int .i64 (ox : Int), .int .i64 (oy : Int)]).kp (Kp.new _ (.cells #[.int .i64 0, .int .i64 0, .int .i64 0, .int .i64 0] 122)) (by simp)
   simpa using this
 have B9 : Blk w0 (w.heap.size + 1 + 1 + 1) 122 #[.int .i64 0, .int .i64 0, .int .i64 0, .int .i64 0] := by
   rw [hw0]
   have := Blk.new (((w.alloc (.cells #[] 158)).alloc (.cells #[.pointer (some ⟨b.g, 0, none⟩), .int .i64 (s : Int)] 118)).alloc (.cells #[.int .i64 (x : Int), .int .i64 (y : Int), .int .i64 (ox : Int), .int .i64 (oy : Int)] 122)) 122 #[.int .i64 0, .int .i64 0, .int .i64 0, .int .i64 0]
   simpa using this
 obtain ⟨g5, hg5⟩ : ∃ z, z = w.heap.size + 1 := ⟨_, rfl⟩
 obtain ⟨g6, hg6⟩ : ∃ z, z = w.heap.size + 1 + 1 := ⟨_, rfl⟩
 obtain ⟨g9, hg9⟩ : ∃ z, z = w.heap.size + 1 + 1 + 1 := ⟨_, rfl⟩
 rw [← hg5] at B5
 rw [← hg6] at B6
 rw [← hg9] at B9
 have U0 : CH w w0 b q m g5 g6 g9 s x y ox oy := ⟨h.k0 K0, B5, B6, B9, K0⟩
 have HU : Hid (CH w w0 b q m g5 g6 g9 s x y ox oy) := U0
 have t0 : w0.cell? ⟨g5, 0, none⟩ = some (.pointer (some ⟨b.g, 0, none⟩)) := HU.out.r0
 have t1 : w0.cell? ⟨g5, 1, none⟩ = some (.int .i64 (s : Int)) := HU.out.r1
 have t2 : w0.cell? ⟨g6, 0, none⟩ = some (.int .i64 (x : Int)) := HU.out.c0
 have t3 : w0.cell? ⟨g6, 1, none⟩ = some (.int .i64 (y : Int)) := HU.out.c1
 have t4 : w0.cell? ⟨g6, 2, none⟩ = some (.int .i64 (ox : Int)) := HU.out.c2
 have t5 : w0.cell? ⟨g6, 3, none⟩ = some (.int .i64 (oy : Int)) := HU.out.c3
 have HW := hid hw0
 have H5 := hid hg5
 have H6 := hid hg6
 have H9 := hid hg9
 have HLE : Hid (w.heap.size ≤ g9) := by show _ ≤ _; omega
 have HLE6 : Hid (w.heap.size ≤ g6) := by show _ ≤ _; omega
 have hn5 : g5 ≠ g9 := by omega
 have hn6 : g6 ≠ g9 := by omega
 have hn7 : g9 ≠ g5 := by omega
 have hn8 : g9 ≠ g6 := by omega
 have hn1 : g5 ≠ g6 := by omega
 have hn2 : g6 ≠ g5 := by omega
 clear h K0 B5 B6 B9 U0 hg5 hg6 hg9
 go_enter Tryz.func215, Tryz.ntmps215
 go_wp2_with (fail)
 rw [← HW.out, ← H9.out, ← H6.out, ← H5.out]
 clear H5 H6 H9 hw0
 go_wp2_with (go_at_call 216; refine (a_bump HU.out.sh s x y n hx hy hn).mono ?_; rintro e w5 ⟨rfl, K5⟩; rw [HP.out]; have U1 := HU.out.step K5; have a1 := U1.r0; have b1 := U1.r1; have c1 := U1.c0; have d1 := U1.c1; have e1 := U1.c2; have f1 := U1.c3; have y1 := U1.b9.cell 0; have z1 := U1.b9.cell 1; have u1 := U1.b9.cell 2; have v1 := U1.b9.cell 3; have yf1 := U1.b9.frozen 0; have zf1 := U1.b9.frozen 1; have uf1 := U1.b9.frozen 2; have vf1 := U1.b9.frozen 3; have yg1 := U1.b6.frozen 0; have zg1 := U1.b6.frozen 1; have ug1 := U1.b6.frozen 2; have vg1 := U1.b6.frozen 3; clear K5)
 have B6n : Blk ((w5.setCell ⟨g6, 0, none⟩ (.int .i64 (pc : Int))).setCell ⟨g6, 1, none⟩ (.int .i64 (pl : Int))) g6 122 #[.int .i64 (pc : Int), .int .i64 (pl : Int), .int .i64 (ox : Int), .int .i64 (oy : Int)] := ((U1.b6.set_ 0 (.int .i64 (pc : Int))).set_ 1 (.int .i64 (pl : Int)))
 have B9n : Blk ((w5.setCell ⟨g6, 0, none⟩ (.int .i64 (pc : Int))).setCell ⟨g6, 1, none⟩ (.int .i64 (pl : Int))) g9 122 #[.int .i64 0, .int .i64 0, .int .i64 0, .int .i64 0] := ((U1.b9.kp (Kp.cell w5 ⟨g6, 0, none⟩ (.int .i64 (pc : Int))) (by simp; omega)).kp (Kp.cell (w5.setCell ⟨g6, 0, none⟩ (.int .i64 (pc : Int))) ⟨g6, 1, none⟩ (.int .i64 (pl : Int))) (by simp; omega))
 have K9n : Kp [] w ((w5.setCell ⟨g6, 0, none⟩ (.int .i64 (pc : Int))).setCell ⟨g6, 1, none⟩ (.int .i64 (pl : Int))) := ((U1.kp.trans (Kp.cell w5 ⟨g6, 0, none⟩ (.int .i64 (pc : Int))) (U := []) (by simp) (fun z hz => .inr (by have := HLE6.out; simp at hz; omega))).trans (Kp.cell (w5.setCell ⟨g6, 0, none⟩ (.int .i64 (pc : Int))) ⟨g6, 1, none⟩ (.int .i64 (pl : Int))) (U := []) (by simp) (fun z hz => .inr (by have := HLE6.out; simp at hz; omega)))
 generalize ((w5.setCell ⟨g6, 0, none⟩ (.int .i64 (pc : Int))).setCell ⟨g6, 1, none⟩ (.int .i64 (pl : Int))) = Wn at B6n B9n K9n ⊢
 have p0 := B6n.cell 0
 have p1 := B6n.cell 1
 have p2 := B6n.cell 2
 have p3 := B6n.cell 3
 have r0 := B9n.cell 0
 have r1 := B9n.cell 1
 have r2 := B9n.cell 2
 have r3 := B9n.cell 3
 have s0 := B9n.frozen 0
 have s1 := B9n.frozen 1
 have s2 := B9n.frozen 2
 have s3 := B9n.frozen 3
 have HB9n := hid B9n
 have HK9n := hid K9n
 clear B6n B9n K9n
 go_region
 all_goals (
   go_wp2
   obtain ⟨q0, q1, q2, q3, K9⟩ := four_set HB9n.out HLE.out HK9n.out (.int .i64 (pc : Int)) (.int .i64 (pl : Int)) (.int .i64 (ox : Int)) (.int .i64 (oy : Int))
   generalize ((((Wn.setCell ⟨g9, 0, none⟩ (.int .i64 (pc : Int))).setCell ⟨g9, 1, none⟩ (.int .i64 (pl : Int))).setCell ⟨g9, 2, none⟩ (.int .i64 (ox : Int))).setCell ⟨g9, 3, none⟩ (.int .i64 (oy : Int))) = W9 at q0 q1 q2 q3 K9 ⊢
   refine bodyPost_ret (v := .tuple #[.int .i64 (pa : Int), .agg #[.int .i64 (pc : Int), .int .i64 (pl : Int), .int .i64 (ox : Int), .int .i64 (oy : Int)]]) ?_ rfl ⟨rfl, K9.drewN 1⟩
   simp [results, Tryz.results215, q0, q1, q2, q3, go_sem])
theorem holeA_le {m : HM} (I : m.Inv) (s f : Nat) : (m.holeA s f).1 ≤ 8192 ∧ (m.holeA s f).2 ≤ 8192 := by
 unfold HM.holeA
 split
 · rename_i a ha
   have hm := List.mem_of_find?_eq_some ha
   unfold holsL at hm
   obtain ⟨k, hk, hk2⟩ := List.mem_flatMap.1 hm
   have hkl := (mem_blkS.1 hk).1
   have := I.len64
   unfold holsAt at hk2
   obtain ⟨g, hg, rfl⟩ := List.mem_map.1 hk2
   have := holN_bd (m.lnL k) (m.lnL k).length g hg
   rw [lnL_length] at this
   unfold holeOf
   simp only
   omega
 · have := freeB_le m 1 I
   unfold HM.freeA
   simp only
   omega
theorem a_lines_fit (h : SH w b q m) (s x y ox oy n : Nat) (hx : x ≤ 10000) (hy : y ≤ 10000) (hox : ox ≤ 10000) (hoy : oy ≤ 10000) (hn : n ≤ 10000) (hfit : fitA (x, y) n = true) :
   Calls Tryz.prog 223 #[.agg #[], .agg #[.pointer (some ⟨b.g, 0, none⟩), .int .i64 (s : Int)], .agg #[.int .i64 (x : Int), .int .i64 (y : Int), .int .i64 (ox : Int), .int .i64 (oy : Int)], .int .i64 (n : Int)] w fun e w' => e = .returned (.tuple #[.int .i64 ((m.bumpA s (x, y) n).1 : Nat), .agg #[.int .i64 (((m.bumpA s (x, y) n).2.1 : Nat) : Int), .int .i64 (((m.bumpA s (x, y) n).2.2 : Nat) : Int), .int .i64 ((ox : Nat) : Int), .int .i64 ((oy : Nat) : Int)]]) ∧ Kp [] w w' := by
 obtain ⟨pa, pc, pl, hP⟩ : ∃ pa pc pl, m.bumpA s (x, y) n = (pa, (pc, pl)) := ⟨_, _, _, rfl⟩
 rw [hP]
 have HP := hid hP
 have HF := hid hfit
 dsimp only
 clear hP hfit
 obtain ⟨w0, hw0⟩ : ∃ w0, w0 = ((((w.alloc (.cells #[] 159)).alloc (.cells #[.pointer (some ⟨b.g, 0, none⟩), .int .i64 (s : Int)] 118)).alloc (.cells #[.int .i64 (x : Int), .int .i64 (y : Int), .int .i64 (ox : Int), .int .i64 (oy : Int)] 122)).alloc (.cells #[.int .i64 0, .int .i64 0, .int .i64 0, .int .i64 0] 122)) := ⟨_, rfl⟩
 have K0 : Kp [] w w0 := by rw [hw0]; exact (((Kp.new _ _).chain (Kp.new _ _)).chain (Kp.new _ _)).chain (Kp.new _ _)
 have B5 : Blk w0 (w.heap.size + 1) 118 #[.pointer (some ⟨b.g, 0, none⟩), .int .i64 (s : Int)] := by
   rw [hw0]
   have := ((Blk.new (w.alloc (.cells #[] 159)) 118 #[.pointer (some ⟨b.g, 0, none⟩), .int .i64 (s : Int)]).kp (Kp.new _ (.cells #[.int .i64 (x : Int), .int .i64 (y : Int), .int .i64 (ox : Int), .int .i64 (oy : Int)] 122)) (by simp)).kp (Kp.new _ (.cells #[.int .i64 0, .int .i64 0, .int .i64 0, .int .i64 0] 122)) (by simp)
   simpa using this
 have B6 : Blk w0 (w.heap.size + 1 + 1) 122 #[.int .i64 (x : Int), .int .i64 (y : Int), .int .i64 (ox : Int), .int .i64 (oy : Int)] := by
   rw [hw0]
   have := (Blk.new ((w.alloc (.cells #[] 159)).alloc (.cells #[.pointer (some ⟨b.g, 0, none⟩), .int .i64 (s : Int)] 118)) 122 #[.int .i64 (x : Int), .int .i64 (y : Int), .int .i64 (ox : Int), .int .i64 (oy : Int)]).kp (Kp.new _ (.cells #[.int .i64 0, .int .i64 0, .int .i64 0, .int .i64 0] 122)) (by simp)
   simpa using this
 have B9 : Blk w0 (w.heap.size + 1 + 1 + 1) 122 #[.int .i64 0, .int .i64 0, .int .i64 0, .int .i64 0] := by
   rw [hw0]
   have := Blk.new (((w.alloc (.cells #[] 159)).alloc (.cells #[.pointer (some ⟨b.g, 0, none⟩), .int .i64 (s : Int)] 118)).alloc (.cells #[.int .i64 (x : Int), .int .i64 (y : Int), .int .i64 (ox : Int), .int .i64 (oy : Int)] 122)) 122 #[.int .i64 0, .int .i64 0, .int .i64 0, .int .i64 0]
   simpa using this
 obtain ⟨g5, hg5⟩ : ∃ z, z = w.heap.size + 1 := ⟨_, rfl⟩
 obtain ⟨g6, hg6⟩ : ∃ z, z = w.heap.size + 1 + 1 := ⟨_, rfl⟩
 obtain ⟨g9, hg9⟩ : ∃ z, z = w.heap.size + 1 + 1 + 1 := ⟨_, rfl⟩
 rw [← hg5] at B5
 rw [← hg6] at B6
 rw [← hg9] at B9
 have U0 : CH w w0 b q m g5 g6 g9 s x y ox oy := ⟨h.k0 K0, B5, B6, B9, K0⟩
 have HU : Hid (CH w w0 b q m g5 g6 g9 s x y ox oy) := U0
 have t0 : w0.cell? ⟨g5, 0, none⟩ = some (.pointer (some ⟨b.g, 0, none⟩)) := HU.out.r0
 have t1 : w0.cell? ⟨g5, 1, none⟩ = some (.int .i64 (s : Int)) := HU.out.r1
 have t2 : w0.cell? ⟨g6, 0, none⟩ = some (.int .i64 (x : Int)) := HU.out.c0
 have t3 : w0.cell? ⟨g6, 1, none⟩ = some (.int .i64 (y : Int)) := HU.out.c1
 have t4 : w0.cell? ⟨g6, 2, none⟩ = some (.int .i64 (ox : Int)) := HU.out.c2
 have t5 : w0.cell? ⟨g6, 3, none⟩ = some (.int .i64 (oy : Int)) := HU.out.c3
 have HW := hid hw0
 have H5 := hid hg5
 have H6 := hid hg6
 have H9 := hid hg9
 have HLE : Hid (w.heap.size ≤ g9) := by show _ ≤ _; omega
 have HLE6 : Hid (w.heap.size ≤ g6) := by show _ ≤ _; omega
 have hn5 : g5 ≠ g9 := by omega
 have hn6 : g6 ≠ g9 := by omega
 have hn7 : g9 ≠ g5 := by omega
 have hn8 : g9 ≠ g6 := by omega
 have hn1 : g5 ≠ g6 := by omega
 have hn2 : g6 ≠ g5 := by omega
 clear h K0 B5 B6 B9 U0 hg5 hg6 hg9
 go_enter Tryz.func223, Tryz.ntmps223
 go_wp2_with (fail)
 rw [← HW.out, ← H9.out, ← H6.out, ← H5.out]
 clear H5 H6 H9 hw0
 go_wp2_with (first
   | (go_at_call 204; refine (a_fits x y n _ (by omega) (by omega)).mono ?_; rintro e w5 ⟨rfl, K5⟩; rw [HF.out]; have U1 := HU.out.step K5; have a1 := U1.r0; have b1 := U1.r1; have c1 := U1.c0; have d1 := U1.c1; have e1 := U1.c2; have f1 := U1.c3; clear K5)
   | (go_at_call 216; refine (a_bump U1.sh s x y n hx hy hn).mono ?_; rintro e w6 ⟨rfl, K6⟩; rw [HP.out]; have U2 := U1.step K6; have a2 := U2.r0; have b2 := U2.r1; have c2 := U2.c0; have d2 := U2.c1; have e2 := U2.c2; have f2 := U2.c3; have y2 := U2.b9.cell 0; have z2 := U2.b9.cell 1; have u2 := U2.b9.cell 2; have v2 := U2.b9.cell 3; have yf2 := U2.b9.frozen 0; have zf2 := U2.b9.frozen 1; have uf2 := U2.b9.frozen 2; have vf2 := U2.b9.frozen 3; have yg2 := U2.b6.frozen 0; have zg2 := U2.b6.frozen 1; have ug2 := U2.b6.frozen 2; have vg2 := U2.b6.frozen 3; clear K6))
 have B6n : Blk ((w6.setCell ⟨g6, 0, none⟩ (.int .i64 (pc : Int))).setCell ⟨g6, 1, none⟩ (.int .i64 (pl : Int))) g6 122 #[.int .i64 (pc : Int), .int .i64 (pl : Int), .int .i64 (ox : Int), .int .i64 (oy : Int)] := ((U2.b6.set_ 0 (.int .i64 (pc : Int))).set_ 1 (.int .i64 (pl : Int)))
 have B9n : Blk ((w6.setCell ⟨g6, 0, none⟩ (.int .i64 (pc : Int))).setCell ⟨g6, 1, none⟩ (.int .i64 (pl : Int))) g9 122 #[.int .i64 0, .int .i64 0, .int .i64 0, .int .i64 0] := ((U2.b9.kp (Kp.cell w6 ⟨g6, 0, none⟩ (.int .i64 (pc : Int))) (by simp; omega)).kp (Kp.cell (w6.setCell ⟨g6, 0, none⟩ (.int .i64 (pc : Int))) ⟨g6, 1, none⟩ (.int .i64 (pl : Int))) (by simp; omega))
 have K9n : Kp [] w ((w6.setCell ⟨g6, 0, none⟩ (.int .i64 (pc : Int))).setCell ⟨g6, 1, none⟩ (.int .i64 (pl : Int))) := ((U2.kp.trans (Kp.cell w6 ⟨g6, 0, none⟩ (.int .i64 (pc : Int))) (U := []) (by simp) (fun z hz => .inr (by have := HLE6.out; simp at hz; omega))).trans (Kp.cell (w6.setCell ⟨g6, 0, none⟩ (.int .i64 (pc : Int))) ⟨g6, 1, none⟩ (.int .i64 (pl : Int))) (U := []) (by simp) (fun z hz => .inr (by have := HLE6.out; simp at hz; omega)))
 generalize ((w6.setCell ⟨g6, 0, none⟩ (.int .i64 (pc : Int))).setCell ⟨g6, 1, none⟩ (.int .i64 (pl : Int))) = Wn at B6n B9n K9n ⊢
 have p0 := B6n.cell 0
 have p1 := B6n.cell 1
 have p2 := B6n.cell 2
 have p3 := B6n.cell 3
 have r0 := B9n.cell 0
 have r1 := B9n.cell 1
 have r2 := B9n.cell 2
 have r3 := B9n.cell 3
 have s0 := B9n.frozen 0
 have s1 := B9n.frozen 1
 have s2 := B9n.frozen 2
 have s3 := B9n.frozen 3
 have HB9n := hid B9n
 have HK9n := hid K9n
 clear B6n B9n K9n
 go_region
 all_goals (
   go_wp2
   obtain ⟨q0, q1, q2, q3, K9⟩ := four_set HB9n.out HLE.out HK9n.out (.int .i64 (pc : Int)) (.int .i64 (pl : Int)) (.int .i64 (ox : Int)) (.int .i64 (oy : Int))
   generalize ((((Wn.setCell ⟨g9, 0, none⟩ (.int .i64 (pc : Int))).setCell ⟨g9, 1, none⟩ (.int .i64 (pl : Int))).setCell ⟨g9, 2, none⟩ (.int .i64 (ox : Int))).setCell ⟨g9, 3, none⟩ (.int .i64 (oy : Int))) = W9 at q0 q1 q2 q3 K9 ⊢
   refine bodyPost_ret (v := .tuple #[.int .i64 (pa : Int), .agg #[.int .i64 (pc : Int), .int .i64 (pl : Int), .int .i64 (ox : Int), .int .i64 (oy : Int)]]) ?_ rfl ⟨rfl, K9.drewN 1⟩
   simp [results, Tryz.results223, q0, q1, q2, q3, go_sem])
theorem a_lines_over (h : SH w b q m) (s x y ox oy n : Nat) (hx : x ≤ 10000) (hy : y ≤ 10000) (hox : ox ≤ 10000) (hoy : oy ≤ 10000) (hn : n ≤ 10000) (hfit : fitA (x, y) n = false) (h8 : 8 < n) :
   Calls Tryz.prog 223 #[.agg #[], .agg #[.pointer (some ⟨b.g, 0, none⟩), .int .i64 (s : Int)], .agg #[.int .i64 (x : Int), .int .i64 (y : Int), .int .i64 (ox : Int), .int .i64 (oy : Int)], .int .i64 (n : Int)] w fun e w' => e = .returned (.tuple #[.int .i64 ((m.bumpA s (ox, oy) n).1 : Nat), .agg #[.int .i64 ((x : Nat) : Int), .int .i64 ((y : Nat) : Int), .int .i64 (((m.bumpA s (ox, oy) n).2.1 : Nat) : Int), .int .i64 (((m.bumpA s (ox, oy) n).2.2 : Nat) : Int)]]) ∧ Kp [] w w' := by
 obtain ⟨pa, pc, pl, hP⟩ : ∃ pa pc pl, m.bumpA s (ox, oy) n = (pa, (pc, pl)) := ⟨_, _, _, rfl⟩
 rw [hP]
 have HP := hid hP
 have HF := hid hfit
 have t8 : decide ((8 : Int) < (n : Int)) = true := decide_eq_true (by omega)
 dsimp only
 clear hP hfit h8
 obtain ⟨w0, hw0⟩ : ∃ w0, w0 = ((((w.alloc (.cells #[] 159)).alloc (.cells #[.pointer (some ⟨b.g, 0, none⟩), .int .i64 (s : Int)] 118)).alloc (.cells #[.int .i64 (x : Int), .int .i64 (y : Int), .int .i64 (ox : Int), .int .i64 (oy : Int)] 122)).alloc (.cells #[.int .i64 0, .int .i64 0, .int .i64 0, .int .i64 0] 122)) := ⟨_, rfl⟩
 have K0 : Kp [] w w0 := by rw [hw0]; exact (((Kp.new _ _).chain (Kp.new _ _)).chain (Kp.new _ _)).chain (Kp.new _ _)
 have B5 : Blk w0 (w.heap.size + 1) 118 #[.pointer (some ⟨b.g, 0, none⟩), .int .i64 (s : Int)] := by
   rw [hw0]
   have := ((Blk.new (w.alloc (.cells #[] 159)) 118 #[.pointer (some ⟨b.g, 0, none⟩), .int .i64 (s : Int)]).kp (Kp.new _ (.cells #[.int .i64 (x : Int), .int .i64 (y : Int), .int .i64 (ox : Int), .int .i64 (oy : Int)] 122)) (by simp)).kp (Kp.new _ (.cells #[.int .i64 0, .int .i64 0, .int .i64 0, .int .i64 0] 122)) (by simp)
   simpa using this
 have B6 : Blk w0 (w.heap.size + 1 + 1) 122 #[.int .i64 (x : Int), .int .i64 (y : Int), .int .i64 (ox : Int), .int .i64 (oy : Int)] := by
   rw [hw0]
   have := (Blk.new ((w.alloc (.cells #[] 159)).alloc (.cells #[.pointer (some ⟨b.g, 0, none⟩), .int .i64 (s : Int)] 118)) 122 #[.int .i64 (x : Int), .int .i64 (y : Int), .int .i64 (ox : Int), .int .i64 (oy : Int)]).kp (Kp.new _ (.cells #[.int .i64 0, .int .i64 0, .int .i64 0, .int .i64 0] 122)) (by simp)
   simpa using this
 have B9 : Blk w0 (w.heap.size + 1 + 1 + 1) 122 #[.int .i64 0, .int .i64 0, .int .i64 0, .int .i64 0] := by
   rw [hw0]
   have := Blk.new (((w.alloc (.cells #[] 159)).alloc (.cells #[.pointer (some ⟨b.g, 0, none⟩), .int .i64 (s : Int)] 118)).alloc (.cells #[.int .i64 (x : Int), .int .i64 (y : Int), .int .i64 (ox : Int), .int .i64 (oy : Int)] 122)) 122 #[.int .i64 0, .int .i64 0, .int .i64 0, .int .i64 0]
   simpa using this
 obtain ⟨g5, hg5⟩ : ∃ z, z = w.heap.size + 1 := ⟨_, rfl⟩
 obtain ⟨g6, hg6⟩ : ∃ z, z = w.heap.size + 1 + 1 := ⟨_, rfl⟩
 obtain ⟨g9, hg9⟩ : ∃ z, z = w.heap.size + 1 + 1 + 1 := ⟨_, rfl⟩
 rw [← hg5] at B5
 rw [← hg6] at B6
 rw [← hg9] at B9
 have U0 : CH w w0 b q m g5 g6 g9 s x y ox oy := ⟨h.k0 K0, B5, B6, B9, K0⟩
 have HU : Hid (CH w w0 b q m g5 g6 g9 s x y ox oy) := U0
 have t0 : w0.cell? ⟨g5, 0, none⟩ = some (.pointer (some ⟨b.g, 0, none⟩)) := HU.out.r0
 have t1 : w0.cell? ⟨g5, 1, none⟩ = some (.int .i64 (s : Int)) := HU.out.r1
 have t2 : w0.cell? ⟨g6, 0, none⟩ = some (.int .i64 (x : Int)) := HU.out.c0
 have t3 : w0.cell? ⟨g6, 1, none⟩ = some (.int .i64 (y : Int)) := HU.out.c1
 have t4 : w0.cell? ⟨g6, 2, none⟩ = some (.int .i64 (ox : Int)) := HU.out.c2
 have t5 : w0.cell? ⟨g6, 3, none⟩ = some (.int .i64 (oy : Int)) := HU.out.c3
 have HW := hid hw0
 have H5 := hid hg5
 have H6 := hid hg6
 have H9 := hid hg9
 have HLE : Hid (w.heap.size ≤ g9) := by show _ ≤ _; omega
 have HLE6 : Hid (w.heap.size ≤ g6) := by show _ ≤ _; omega
 have hn5 : g5 ≠ g9 := by omega
 have hn6 : g6 ≠ g9 := by omega
 have hn7 : g9 ≠ g5 := by omega
 have hn8 : g9 ≠ g6 := by omega
 have hn1 : g5 ≠ g6 := by omega
 have hn2 : g6 ≠ g5 := by omega
 clear h K0 B5 B6 B9 U0 hg5 hg6 hg9
 go_enter Tryz.func223, Tryz.ntmps223
 go_wp2_with (fail)
 rw [← HW.out, ← H9.out, ← H6.out, ← H5.out]
 clear H5 H6 H9 hw0
 go_wp2_with (first
   | (go_at_call 204; refine (a_fits x y n _ (by omega) (by omega)).mono ?_; rintro e w5 ⟨rfl, K5⟩; rw [HF.out]; have U1 := HU.out.step K5; have a1 := U1.r0; have b1 := U1.r1; have c1 := U1.c0; have d1 := U1.c1; have e1 := U1.c2; have f1 := U1.c3; clear K5)
   | (go_at_call 216; refine (a_bump U1.sh s ox oy n hox hoy hn).mono ?_; rintro e w6 ⟨rfl, K6⟩; rw [HP.out]; have U2 := U1.step K6; have a2 := U2.r0; have b2 := U2.r1; have c2 := U2.c0; have d2 := U2.c1; have e2 := U2.c2; have f2 := U2.c3; have y2 := U2.b9.cell 0; have z2 := U2.b9.cell 1; have u2 := U2.b9.cell 2; have v2 := U2.b9.cell 3; have yf2 := U2.b9.frozen 0; have zf2 := U2.b9.frozen 1; have uf2 := U2.b9.frozen 2; have vf2 := U2.b9.frozen 3; have yg2 := U2.b6.frozen 2; have zg2 := U2.b6.frozen 3; have ug2 := U2.b6.frozen 2; have vg2 := U2.b6.frozen 3; clear K6))
 have B6n : Blk ((w6.setCell ⟨g6, 2, none⟩ (.int .i64 (pc : Int))).setCell ⟨g6, 3, none⟩ (.int .i64 (pl : Int))) g6 122 #[.int .i64 (x : Int), .int .i64 (y : Int), .int .i64 (pc : Int), .int .i64 (pl : Int)] := ((U2.b6.set_ 2 (.int .i64 (pc : Int))).set_ 3 (.int .i64 (pl : Int)))
 have B9n : Blk ((w6.setCell ⟨g6, 2, none⟩ (.int .i64 (pc : Int))).setCell ⟨g6, 3, none⟩ (.int .i64 (pl : Int))) g9 122 #[.int .i64 0, .int .i64 0, .int .i64 0, .int .i64 0] := ((U2.b9.kp (Kp.cell w6 ⟨g6, 2, none⟩ (.int .i64 (pc : Int))) (by simp; omega)).kp (Kp.cell (w6.setCell ⟨g6, 2, none⟩ (.int .i64 (pc : Int))) ⟨g6, 3, none⟩ (.int .i64 (pl : Int))) (by simp; omega))
 have K9n : Kp [] w ((w6.setCell ⟨g6, 2, none⟩ (.int .i64 (pc : Int))).setCell ⟨g6, 3, none⟩ (.int .i64 (pl : Int))) := ((U2.kp.trans (Kp.cell w6 ⟨g6, 2, none⟩ (.int .i64 (pc : Int))) (U := []) (by simp) (fun z hz => .inr (by have := HLE6.out; simp at hz; omega))).trans (Kp.cell (w6.setCell ⟨g6, 2, none⟩ (.int .i64 (pc : Int))) ⟨g6, 3, none⟩ (.int .i64 (pl : Int))) (U := []) (by simp) (fun z hz => .inr (by have := HLE6.out; simp at hz; omega)))
 generalize ((w6.setCell ⟨g6, 2, none⟩ (.int .i64 (pc : Int))).setCell ⟨g6, 3, none⟩ (.int .i64 (pl : Int))) = Wn at B6n B9n K9n ⊢
 have p0 := B6n.cell 0
 have p1 := B6n.cell 1
 have p2 := B6n.cell 2
 have p3 := B6n.cell 3
 have r0 := B9n.cell 0
 have r1 := B9n.cell 1
 have r2 := B9n.cell 2
 have r3 := B9n.cell 3
 have s0 := B9n.frozen 0
 have s1 := B9n.frozen 1
 have s2 := B9n.frozen 2
 have s3 := B9n.frozen 3
 have HB9n := hid B9n
 have HK9n := hid K9n
 clear B6n B9n K9n
 go_region
 all_goals (
   go_wp2
   obtain ⟨q0, q1, q2, q3, K9⟩ := four_set HB9n.out HLE.out HK9n.out (.int .i64 (x : Int)) (.int .i64 (y : Int)) (.int .i64 (pc : Int)) (.int .i64 (pl : Int))
   generalize ((((Wn.setCell ⟨g9, 0, none⟩ (.int .i64 (x : Int))).setCell ⟨g9, 1, none⟩ (.int .i64 (y : Int))).setCell ⟨g9, 2, none⟩ (.int .i64 (pc : Int))).setCell ⟨g9, 3, none⟩ (.int .i64 (pl : Int))) = W9 at q0 q1 q2 q3 K9 ⊢
   refine bodyPost_ret (v := .tuple #[.int .i64 (pa : Int), .agg #[.int .i64 (x : Int), .int .i64 (y : Int), .int .i64 (pc : Int), .int .i64 (pl : Int)]]) ?_ rfl ⟨rfl, K9.drewN 1⟩
   simp [results, Tryz.results223, q0, q1, q2, q3, go_sem])
theorem a_lines_hole (h : SH w b q m) (s x y ox oy n : Nat) (hx : x ≤ 10000) (hy : y ≤ 10000) (hox : ox ≤ 10000) (hoy : oy ≤ 10000) (hn : n ≤ 10000) (hfit : fitA (x, y) n = false) (h8 : ¬ 8 < n) :
   Calls Tryz.prog 223 #[.agg #[], .agg #[.pointer (some ⟨b.g, 0, none⟩), .int .i64 (s : Int)], .agg #[.int .i64 (x : Int), .int .i64 (y : Int), .int .i64 (ox : Int), .int .i64 (oy : Int)], .int .i64 (n : Int)] w fun e w' => e = .returned (.tuple #[.int .i64 ((m.holeA s y).1 : Nat), .agg #[.int .i64 (((m.holeA s y).1 + n : Nat) : Int), .int .i64 (((m.holeA s y).2 : Nat) : Int), .int .i64 ((ox : Nat) : Int), .int .i64 ((oy : Nat) : Int)]]) ∧ Kp [] w w' := by
 have hle := holeA_le h.inv s y
 obtain ⟨ha, hl, hP⟩ : ∃ ha hl, m.holeA s y = (ha, hl) := ⟨_, _, rfl⟩
 rw [hP] at hle ⊢
 dsimp only at hle ⊢
 obtain ⟨hle1, hle2⟩ := hle
 have hcast : ((ha + n : Nat) : Int) = (ha : Int) + (n : Int) := by omega
 rw [hcast]
 have HP := hid hP
 have HF := hid hfit
 have t8 : decide ((8 : Int) < (n : Int)) = false := decide_eq_false (by omega)
 clear hP hfit h8 hcast
 obtain ⟨w0, hw0⟩ : ∃ w0, w0 = ((((w.alloc (.cells #[] 159)).alloc (.cells #[.pointer (some ⟨b.g, 0, none⟩), .int .i64 (s : Int)] 118)).alloc (.cells #[.int .i64 (x : Int), .int .i64 (y : Int), .int .i64 (ox : Int), .int .i64 (oy : Int)] 122)).alloc (.cells #[.int .i64 0, .int .i64 0, .int .i64 0, .int .i64 0] 122)) := ⟨_, rfl⟩
 have K0 : Kp [] w w0 := by rw [hw0]; exact (((Kp.new _ _).chain (Kp.new _ _)).chain (Kp.new _ _)).chain (Kp.new _ _)
 have B5 : Blk w0 (w.heap.size + 1) 118 #[.pointer (some ⟨b.g, 0, none⟩), .int .i64 (s : Int)] := by
   rw [hw0]
   have := ((Blk.new (w.alloc (.cells #[] 159)) 118 #[.pointer (some ⟨b.g, 0, none⟩), .int .i64 (s : Int)]).kp (Kp.new _ (.cells #[.int .i64 (x : Int), .int .i64 (y : Int), .int .i64 (ox : Int), .int .i64 (oy : Int)] 122)) (by simp)).kp (Kp.new _ (.cells #[.int .i64 0, .int .i64 0, .int .i64 0, .int .i64 0] 122)) (by simp)
   simpa using this
 have B6 : Blk w0 (w.heap.size + 1 + 1) 122 #[.int .i64 (x : Int), .int .i64 (y : Int), .int .i64 (ox : Int), .int .i64 (oy : Int)] := by
   rw [hw0]
   have := (Blk.new ((w.alloc (.cells #[] 159)).alloc (.cells #[.pointer (some ⟨b.g, 0, none⟩), .int .i64 (s : Int)] 118)) 122 #[.int .i64 (x : Int), .int .i64 (y : Int), .int .i64 (ox : Int), .int .i64 (oy : Int)]).kp (Kp.new _ (.cells #[.int .i64 0, .int .i64 0, .int .i64 0, .int .i64 0] 122)) (by simp)
   simpa using this
 have B9 : Blk w0 (w.heap.size + 1 + 1 + 1) 122 #[.int .i64 0, .int .i64 0, .int .i64 0, .int .i64 0] := by
   rw [hw0]
   have := Blk.new (((w.alloc (.cells #[] 159)).alloc (.cells #[.pointer (some ⟨b.g, 0, none⟩), .int .i64 (s : Int)] 118)).alloc (.cells #[.int .i64 (x : Int), .int .i64 (y : Int), .int .i64 (ox : Int), .int .i64 (oy : Int)] 122)) 122 #[.int .i64 0, .int .i64 0, .int .i64 0, .int .i64 0]
   simpa using this
 obtain ⟨g5, hg5⟩ : ∃ z, z = w.heap.size + 1 := ⟨_, rfl⟩
 obtain ⟨g6, hg6⟩ : ∃ z, z = w.heap.size + 1 + 1 := ⟨_, rfl⟩
 obtain ⟨g9, hg9⟩ : ∃ z, z = w.heap.size + 1 + 1 + 1 := ⟨_, rfl⟩
 rw [← hg5] at B5
 rw [← hg6] at B6
 rw [← hg9] at B9
 have U0 : CH w w0 b q m g5 g6 g9 s x y ox oy := ⟨h.k0 K0, B5, B6, B9, K0⟩
 have HU : Hid (CH w w0 b q m g5 g6 g9 s x y ox oy) := U0
 have t0 : w0.cell? ⟨g5, 0, none⟩ = some (.pointer (some ⟨b.g, 0, none⟩)) := HU.out.r0
 have t1 : w0.cell? ⟨g5, 1, none⟩ = some (.int .i64 (s : Int)) := HU.out.r1
 have t2 : w0.cell? ⟨g6, 0, none⟩ = some (.int .i64 (x : Int)) := HU.out.c0
 have t3 : w0.cell? ⟨g6, 1, none⟩ = some (.int .i64 (y : Int)) := HU.out.c1
 have t4 : w0.cell? ⟨g6, 2, none⟩ = some (.int .i64 (ox : Int)) := HU.out.c2
 have t5 : w0.cell? ⟨g6, 3, none⟩ = some (.int .i64 (oy : Int)) := HU.out.c3
 have HW := hid hw0
 have H5 := hid hg5
 have H6 := hid hg6
 have H9 := hid hg9
 have HLE : Hid (w.heap.size ≤ g9) := by show _ ≤ _; omega
 have HLE6 : Hid (w.heap.size ≤ g6) := by show _ ≤ _; omega
 have hn5 : g5 ≠ g9 := by omega
 have hn6 : g6 ≠ g9 := by omega
 have hn7 : g9 ≠ g5 := by omega
 have hn8 : g9 ≠ g6 := by omega
 have hn1 : g5 ≠ g6 := by omega
 have hn2 : g6 ≠ g5 := by omega
 clear h K0 B5 B6 B9 U0 hg5 hg6 hg9
 go_enter Tryz.func223, Tryz.ntmps223
 go_wp2_with (fail)
 rw [← HW.out, ← H9.out, ← H6.out, ← H5.out]
 clear H5 H6 H9 hw0
 go_wp2_with (first
   | (go_at_call 204; refine (a_fits x y n _ (by omega) (by omega)).mono ?_; rintro e w5 ⟨rfl, K5⟩; rw [HF.out]; have U1 := HU.out.step K5; have a1 := U1.r0; have b1 := U1.r1; have c1 := U1.c0; have d1 := U1.c1; have e1 := U1.c2; have f1 := U1.c3; clear K5)
   | (go_at_call 224; refine (a_holeFrom U1.sh s y hy).mono ?_; rintro e w6 ⟨rfl, K6⟩; rw [HP.out]; have U2 := U1.step K6; have a2 := U2.r0; have b2 := U2.r1; have c2 := U2.c0; have d2 := U2.c1; have e2 := U2.c2; have f2 := U2.c3; clear K6)
   | (go_at_call 218; refine (a_take ha hl n _ (by omega) (by omega)).mono ?_; rintro e w7 ⟨rfl, K7⟩; have U3 := U2.step K7; have a3 := U3.r0; have b3 := U3.r1; have c3 := U3.c0; have d3 := U3.c1; have e3 := U3.c2; have f3 := U3.c3; have y3 := U3.b9.cell 0; have z3 := U3.b9.cell 1; have u3 := U3.b9.cell 2; have v3 := U3.b9.cell 3; have yf3 := U3.b9.frozen 0; have zf3 := U3.b9.frozen 1; have uf3 := U3.b9.frozen 2; have vf3 := U3.b9.frozen 3; have yg3 := U3.b6.frozen 0; have zg3 := U3.b6.frozen 1; have ug3 := U3.b6.frozen 2; have vg3 := U3.b6.frozen 3; clear K7))
 have B6n : Blk ((w7.setCell ⟨g6, 0, none⟩ (.int .i64 ((ha : Int) + (n : Int)))).setCell ⟨g6, 1, none⟩ (.int .i64 (hl : Int))) g6 122 #[.int .i64 ((ha : Int) + (n : Int)), .int .i64 (hl : Int), .int .i64 (ox : Int), .int .i64 (oy : Int)] := ((U3.b6.set_ 0 (.int .i64 ((ha : Int) + (n : Int)))).set_ 1 (.int .i64 (hl : Int)))
 have B9n : Blk ((w7.setCell ⟨g6, 0, none⟩ (.int .i64 ((ha : Int) + (n : Int)))).setCell ⟨g6, 1, none⟩ (.int .i64 (hl : Int))) g9 122 #[.int .i64 0, .int .i64 0, .int .i64 0, .int .i64 0] := ((U3.b9.kp (Kp.cell w7 ⟨g6, 0, none⟩ (.int .i64 ((ha : Int) + (n : Int)))) (by simp; omega)).kp (Kp.cell (w7.setCell ⟨g6, 0, none⟩ (.int .i64 ((ha : Int) + (n : Int)))) ⟨g6, 1, none⟩ (.int .i64 (hl : Int))) (by simp; omega))
 have K9n : Kp [] w ((w7.setCell ⟨g6, 0, none⟩ (.int .i64 ((ha : Int) + (n : Int)))).setCell ⟨g6, 1, none⟩ (.int .i64 (hl : Int))) := ((U3.kp.trans (Kp.cell w7 ⟨g6, 0, none⟩ (.int .i64 ((ha : Int) + (n : Int)))) (U := []) (by simp) (fun z hz => .inr (by have := HLE6.out; simp at hz; omega))).trans (Kp.cell (w7.setCell ⟨g6, 0, none⟩ (.int .i64 ((ha : Int) + (n : Int)))) ⟨g6, 1, none⟩ (.int .i64 (hl : Int))) (U := []) (by simp) (fun z hz => .inr (by have := HLE6.out; simp at hz; omega)))
 generalize ((w7.setCell ⟨g6, 0, none⟩ (.int .i64 ((ha : Int) + (n : Int)))).setCell ⟨g6, 1, none⟩ (.int .i64 (hl : Int))) = Wn at B6n B9n K9n ⊢
 have p0 := B6n.cell 0
 have p1 := B6n.cell 1
 have p2 := B6n.cell 2
 have p3 := B6n.cell 3
 have r0 := B9n.cell 0
 have r1 := B9n.cell 1
 have r2 := B9n.cell 2
 have r3 := B9n.cell 3
 have s0 := B9n.frozen 0
 have s1 := B9n.frozen 1
 have s2 := B9n.frozen 2
 have s3 := B9n.frozen 3
 have HB9n := hid B9n
 have HK9n := hid K9n
 clear B6n B9n K9n
 go_region
 all_goals (
   go_wp2
   obtain ⟨q0, q1, q2, q3, K9⟩ := four_set HB9n.out HLE.out HK9n.out (.int .i64 ((ha : Int) + (n : Int))) (.int .i64 (hl : Int)) (.int .i64 (ox : Int)) (.int .i64 (oy : Int))
   generalize ((((Wn.setCell ⟨g9, 0, none⟩ (.int .i64 ((ha : Int) + (n : Int)))).setCell ⟨g9, 1, none⟩ (.int .i64 (hl : Int))).setCell ⟨g9, 2, none⟩ (.int .i64 (ox : Int))).setCell ⟨g9, 3, none⟩ (.int .i64 (oy : Int))) = W9 at q0 q1 q2 q3 K9 ⊢
   refine bodyPost_ret (v := .tuple #[.int .i64 (ha : Int), .agg #[.int .i64 ((ha : Int) + (n : Int)), .int .i64 (hl : Int), .int .i64 (ox : Int), .int .i64 (oy : Int)]]) ?_ rfl ⟨rfl, K9.drewN 1⟩
   simp [results, Tryz.results223, q0, q1, q2, q3, go_sem])
end
abbrev polCells : Array Value := #[.iface 155 (.agg #[]), .iface 156 (.agg #[]), .iface 157 (.agg #[]), .iface 158 (.agg #[]), .iface 159 (.agg #[])]
abbrev alCells (b : HB) (A : AS) : Array Value := #[.pointer (some ⟨b.g, 0, none⟩), .int .i64 (A.sp : Int), .int .i64 (A.po : Int), .int .i64 (A.c : Int), .int .i64 (A.l : Int), .int .i64 (A.oc : Int), .int .i64 (A.ol : Int)]
def AL (W : World) (g : Nat) (b : HB) (A : AS) : Prop := Blk W g 124 (alCells b A)
section
variable {w W V : World} {b : HB} {m : HM} {q g : Nat} {A : AS}
theorem AL.kp (h : AL w g b A) {S : List Nat} (k : Kp S w W) (hg : g ∉ S) : AL W g b A := Blk.kp h k hg
theorem AL.po_ (h : AL w g b A) {p : Nat} (hp : A.po = p) : w.cell? ⟨g, 2, none⟩ = some (.int .i64 (p : Int)) := by rw [← hp]; exact h.cell 2
theorem a_policies (w : World) :
   Calls Tryz.prog 98 #[] w fun e w' => e = .returned (.slice (some ⟨w.heap.size, 0, none⟩) 5 5) ∧ w' = w.alloc (.cells polCells 164) := by
 go_enter Tryz.func98, Tryz.ntmps98
 go_wp2
 go_ret
 exact ⟨rfl, rfl⟩
theorem a_made (h : AL w g b A) :
   Calls Tryz.prog 99 #[.pointer (some ⟨g, 0, none⟩)] w fun e w' => e = .returned (.bool true) ∧ ∃ n, w' = w.drewN n := by
 have c0 := h.cell 0
 clear h
 go_enter Tryz.func99, Tryz.ntmps99
 go_wp2
 go_ret
 exact ⟨rfl, 0, rfl⟩
theorem made_k (h : AL w g b A) :
   Calls Tryz.prog 99 #[.pointer (some ⟨g, 0, none⟩)] w fun e w' => e = .returned (.bool true) ∧ Kp [] w w' := by
 refine (a_made h).mono ?_
 rintro e w' ⟨rfl, n, rfl⟩
 exact ⟨rfl, Kp.draw _ _⟩
theorem four_kp (W : World) (g : Nat) (x y z u : Value) : Kp [g] W ((((W.setCell ⟨g, 0, none⟩ x).setCell ⟨g, 1, none⟩ y).setCell ⟨g, 2, none⟩ z).setCell ⟨g, 3, none⟩ u) :=
 (((Kp.cell W ⟨g, 0, none⟩ x).trans (Kp.cell _ ⟨g, 1, none⟩ y) (U := [g]) (by simp) (by simp)).trans (Kp.cell _ ⟨g, 2, none⟩ z) (U := [g]) (by simp) (by simp)).trans (Kp.cell _ ⟨g, 3, none⟩ u) (U := [g]) (by simp) (by simp)
structure CA (w W : World) (b : HB) (q : Nat) (m : HM) (g : Nat) (A : AS) (g5 : Nat) : Prop where
 sh : SH W b q m
 al : AL W g b A
 b5 : Blk W g5 122 #[.int .i64 0, .int .i64 0, .int .i64 0, .int .i64 0]
 kp : Kp [] w W
theorem CA.step {g5 : Nat} (u : CA w W b q m g A g5) (K : Kp [] W V) : CA w V b q m g A g5 := ⟨u.sh.k0 K, u.al.kp K (by simp), u.b5.kp K (by simp), u.kp.chain K⟩
theorem choose_large (h : SH w b q m) (ha : AL w g b A) (hA : A.Ok) (n : Nat) (hn : n ≤ 1000) (h32 : 32 < n) :
   Calls Tryz.prog 110 #[.pointer (some ⟨g, 0, none⟩), .int .i64 (n : Int)] w fun e w' => e = .returned (.tuple #[.int .i64 ((m.freeB ((n + 63) / 64) : Nat) : Int), .agg #[.int .i64 ((A.c : Nat) : Int), .int .i64 ((A.l : Nat) : Int), .int .i64 ((A.oc : Nat) : Int), .int .i64 ((A.ol : Nat) : Int)]]) ∧ Kp [] w w' := by
 have t : decide ((32 : Int) < (n : Int)) = true := decide_eq_true (by omega)
 have hc1 : 1 ≤ (n + 63) / 64 := by omega
 have hc2 : (n + 63) / 64 ≤ 1000 := by omega
 obtain ⟨fb, hfb⟩ : ∃ z, m.freeB ((n + 63) / 64) = z := ⟨_, rfl⟩
 rw [hfb]
 have HFB := hid hfb
 clear hfb h32
 have hgl : g < w.heap.size := Blk.lt ha
 obtain ⟨w0, hw0⟩ : ∃ w0, w0 = w.alloc (.cells #[.int .i64 0, .int .i64 0, .int .i64 0, .int .i64 0] 122) := ⟨_, rfl⟩
 have K0 : Kp [] w w0 := by rw [hw0]; exact Kp.new _ _
 have B5 : Blk w0 w.heap.size 122 #[.int .i64 0, .int .i64 0, .int .i64 0, .int .i64 0] := by rw [hw0]; exact Blk.new _ _ _
 obtain ⟨g5, hg5⟩ : ∃ z, z = w.heap.size := ⟨_, rfl⟩
 rw [← hg5] at B5
 have HU : Hid (CA w w0.drew b q m g A g5) := CA.step ⟨h.k0 K0, ha.kp K0 (by simp), B5, K0⟩ (Kp.draw _ 1)
 have k00 : w0.drew.cell? ⟨g, 0, none⟩ = some (.pointer (some ⟨b.g, 0, none⟩)) := HU.out.al.cell 0
 have k01 : w0.drew.cell? ⟨g, 1, none⟩ = some (.int .i64 (A.sp : Int)) := HU.out.al.cell 1
 have k02 : w0.drew.cell? ⟨g, 2, none⟩ = some (.int .i64 (A.po : Int)) := HU.out.al.cell 2
 have k03 : w0.drew.cell? ⟨g, 3, none⟩ = some (.int .i64 (A.c : Int)) := HU.out.al.cell 3
 have k04 : w0.drew.cell? ⟨g, 4, none⟩ = some (.int .i64 (A.l : Int)) := HU.out.al.cell 4
 have k05 : w0.drew.cell? ⟨g, 5, none⟩ = some (.int .i64 (A.oc : Int)) := HU.out.al.cell 5
 have k06 : w0.drew.cell? ⟨g, 6, none⟩ = some (.int .i64 (A.ol : Int)) := HU.out.al.cell 6
 have HW := hid hw0
 have H5 := hid hg5
 have HLE : Hid (w.heap.size ≤ g5) := by show _ ≤ _; omega
 have hn5 : g5 ≠ g := by omega
 have hn6 : g ≠ g5 := by omega
 clear h K0 B5 hg5 ha
 go_enter Tryz.func110, Tryz.ntmps110
 go_wp2
 rw [← HW.out, ← H5.out]
 clear H5 hw0
 go_region_held3 (fun W => W.cell? ⟨g, 0, none⟩ = some (.pointer (some ⟨b.g, 0, none⟩)) ∧ W.cell? ⟨g, 1, none⟩ = some (.int .i64 (A.sp : Int)) ∧ W.cell? ⟨g, 2, none⟩ = some (.int .i64 (A.po : Int)) ∧ W.cell? ⟨g, 3, none⟩ = some (.int .i64 (A.c : Int)) ∧ W.cell? ⟨g, 4, none⟩ = some (.int .i64 (A.l : Int)) ∧ W.cell? ⟨g, 5, none⟩ = some (.int .i64 (A.oc : Int)) ∧ W.cell? ⟨g, 6, none⟩ = some (.int .i64 (A.ol : Int))) (go_keep)
   (first
     | (go_at_call 173; refine (bf_k n _ (by omega)).mono ?_; rintro e w5 ⟨rfl, K5⟩; have U1 := HU.out.step K5; have k10 := U1.al.cell 0; have k11 := U1.al.cell 1; have k12 := U1.al.cell 2; have k13 := U1.al.cell 3; have k14 := U1.al.cell 4; have k15 := U1.al.cell 5; have k16 := U1.al.cell 6; clear K5)
     | (go_at_call 172; refine (a_free U1.sh A.sp ((n + 63) / 64) hc1 hc2).mono ?_; rintro e w6 ⟨rfl, K6⟩; rw [HFB.out]; have U2 := U1.step K6; have k20 := U2.al.cell 0; have k21 := U2.al.cell 1; have k22 := U2.al.cell 2; have k23 := U2.al.cell 3; have k24 := U2.al.cell 4; have k25 := U2.al.cell 5; have k26 := U2.al.cell 6; have y20 := U2.b5.cell 0; have z20 := U2.b5.frozen 0; have y21 := U2.b5.cell 1; have z21 := U2.b5.frozen 1; have y22 := U2.b5.cell 2; have z22 := U2.b5.frozen 2; have y23 := U2.b5.cell 3; have z23 := U2.b5.frozen 3; clear K6))
 all_goals (
   go_wp2
   obtain ⟨q0, q1, q2, q3, K9⟩ := four_set U2.b5 HLE.out U2.kp (.int .i64 (A.c : Int)) (.int .i64 (A.l : Int)) (.int .i64 (A.oc : Int)) (.int .i64 (A.ol : Int))
   generalize ((((w6.setCell ⟨g5, 0, none⟩ (.int .i64 (A.c : Int))).setCell ⟨g5, 1, none⟩ (.int .i64 (A.l : Int))).setCell ⟨g5, 2, none⟩ (.int .i64 (A.oc : Int))).setCell ⟨g5, 3, none⟩ (.int .i64 (A.ol : Int))) = W9 at q0 q1 q2 q3 K9 ⊢
   refine bodyPost_ret (v := .tuple #[.int .i64 (fb : Int), .agg #[.int .i64 (A.c : Int), .int .i64 (A.l : Int), .int .i64 (A.oc : Int), .int .i64 (A.ol : Int)]]) ?_ rfl ⟨rfl, K9⟩
   simp [results, Tryz.results110, q0, q1, q2, q3, go_sem])
theorem choose_first (h : SH w b q m) (ha : AL w g b A) (hA : A.Ok) (n : Nat) (hn : n ≤ 1000) (h32 : ¬ 32 < n) (hpo : A.po = 0)  :
   Calls Tryz.prog 110 #[.pointer (some ⟨g, 0, none⟩), .int .i64 (n : Int)] w fun e w' => e = .returned (.tuple #[.int .i64 ((orN (m.lowG A.sp 0 n) (m.freeB 1) : Nat) : Int), .agg #[.int .i64 ((A.c : Nat) : Int), .int .i64 ((A.l : Nat) : Int), .int .i64 ((A.oc : Nat) : Int), .int .i64 ((A.ol : Nat) : Int)]]) ∧ Kp [] w w' := by
 have t : decide ((32 : Int) < (n : Int)) = false := decide_eq_false (by omega)
 have HPO := hid hpo
 have HC := hid (fun (W : World) (hs : SH W b q m) => a_first hs A.sp A.c A.l A.oc A.ol n (by omega))
 generalize orN (m.lowG A.sp 0 n) (m.freeB 1) = z0 at HC ⊢
 clear h32
 have hgl : g < w.heap.size := Blk.lt ha
 obtain ⟨w0, hw0⟩ : ∃ w0, w0 = w.alloc (.cells #[.int .i64 0, .int .i64 0, .int .i64 0, .int .i64 0] 122) := ⟨_, rfl⟩
 have K0 : Kp [] w w0 := by rw [hw0]; exact Kp.new _ _
 have B5 : Blk w0 w.heap.size 122 #[.int .i64 0, .int .i64 0, .int .i64 0, .int .i64 0] := by rw [hw0]; exact Blk.new _ _ _
 obtain ⟨g5, hg5⟩ : ∃ z, z = w.heap.size := ⟨_, rfl⟩
 rw [← hg5] at B5
 have HU : Hid (CA w w0.drew b q m g A g5) := CA.step ⟨h.k0 K0, ha.kp K0 (by simp), B5, K0⟩ (Kp.draw _ 1)
 have k00 : w0.drew.cell? ⟨g, 0, none⟩ = some (.pointer (some ⟨b.g, 0, none⟩)) := HU.out.al.cell 0
 have k01 : w0.drew.cell? ⟨g, 1, none⟩ = some (.int .i64 (A.sp : Int)) := HU.out.al.cell 1
 have k02 : w0.drew.cell? ⟨g, 2, none⟩ = some (.int .i64 (0 : Int)) := HU.out.al.po_ hpo
 have k03 : w0.drew.cell? ⟨g, 3, none⟩ = some (.int .i64 (A.c : Int)) := HU.out.al.cell 3
 have k04 : w0.drew.cell? ⟨g, 4, none⟩ = some (.int .i64 (A.l : Int)) := HU.out.al.cell 4
 have k05 : w0.drew.cell? ⟨g, 5, none⟩ = some (.int .i64 (A.oc : Int)) := HU.out.al.cell 5
 have k06 : w0.drew.cell? ⟨g, 6, none⟩ = some (.int .i64 (A.ol : Int)) := HU.out.al.cell 6
 have HW := hid hw0
 have H5 := hid hg5
 have HLE : Hid (w.heap.size ≤ g5) := by show _ ≤ _; omega
 have hn5 : g5 ≠ g := by omega
 have hn6 : g ≠ g5 := by omega
 clear h K0 B5 hg5 ha hpo
 go_enter Tryz.func110, Tryz.ntmps110
 go_wp2
 rw [← HW.out, ← H5.out]
 clear H5 hw0
 refine wp_region_held_drew (S := fun W => AL W g b A) (by kernel_rfl) ?_ (fun hHeld => ?_)
 · exact HU.out.al
 refine tk0 1 rfl ?_
 refine tk0 2 rfl ?_
 refine tk0 3 rfl ?_
 refine tk 4 rfl (Or.inl ⟨by rfl, by (intro wz hSw; have cc2 := AL.po_ hSw HPO.out; go_simp; try with_reducible rfl)⟩) ?_
 refine tk0 7 rfl ?_
 refine tk0 8 rfl ?_
 refine tk0 9 rfl ?_
 refine tk 10 rfl (Or.inl ⟨by rfl, by (intro wz hSw; have cc0 : wz.cell? ⟨g, 0, none⟩ = some (.pointer (some ⟨b.g, 0, none⟩)) := hSw.cell 0; have cc1 : wz.cell? ⟨g, 1, none⟩ = some (.int .i64 (A.sp : Int)) := hSw.cell 1; go_simp; try with_reducible rfl)⟩) ?_
 refine tk0 11 rfl ?_
 refine tk0 12 rfl ?_
 refine tk0 13 rfl ?_
 refine tk 14 rfl (Or.inl ⟨by rfl, by (intro wz hSw; have cc3 : wz.cell? ⟨g, 3, none⟩ = some (.int .i64 (A.c : Int)) := hSw.cell 3; have cc4 : wz.cell? ⟨g, 4, none⟩ = some (.int .i64 (A.l : Int)) := hSw.cell 4; have cc5 : wz.cell? ⟨g, 5, none⟩ = some (.int .i64 (A.oc : Int)) := hSw.cell 5; have cc6 : wz.cell? ⟨g, 6, none⟩ = some (.int .i64 (A.ol : Int)) := hSw.cell 6; go_simp; try with_reducible rfl)⟩) ?_
 refine tk0 15 rfl ?_
 refine rd 0 rfl fun K hK => ?_
 go_simp
 (refine (a_policies _).mono ?_
  rintro e w5 ⟨rfl, hw5⟩
  have K5 : Kp [] w0.drew w5 := (by rw [hw5]; exact Kp.new _ _)
  have P5 := Blk.new w0.drew 164 polCells
  rw [← hw5] at P5
  have p5 : w5.cell? ⟨w0.heap.size, 0, none⟩ = some (.iface 155 (.agg #[])) := P5.cell 0
  have U1 := HU.out.step K5
  clear K5 hw5 P5)
 try go_wp2_with fail
 refine hK.out _ _ ?_ (fun hHeld => ?_)
 · exact U1.al
 clear hK K
 refine tk0 5 rfl ?_
 refine rd 6 rfl fun K hK => ?_
 go_simp
 refine hK.out _ _ ?_ (fun hHeld => ?_)
 · exact U1.al
 clear hK K
 refine tk0 16 rfl ?_
 refine tk0 17 rfl ?_
 refine rd 18 rfl fun K hK => ?_
 go_simp
 (refine (HC.out _ U1.sh).mono ?_
  rintro e w6 ⟨rfl, K6⟩
  have U2 := U1.step K6
  have y20 := U2.b5.cell 0; have z20 := U2.b5.frozen 0; have y21 := U2.b5.cell 1; have z21 := U2.b5.frozen 1; have y22 := U2.b5.cell 2; have z22 := U2.b5.frozen 2; have y23 := U2.b5.cell 3; have z23 := U2.b5.frozen 3
  clear K6)
 try go_wp2_with fail
 refine hK.out _ _ ?_ (fun hHeld => ?_)
 · exact U2.al
 clear hK K
 refine tk0 19 rfl ?_
 refine tk0 20 rfl ?_
 refine tk0 21 rfl ?_
 refine rd 22 rfl fun K hK => ?_
 go_simp
 refine hK.out _ _ ?_ (fun hHeld => ?_)
 · exact U2.al.kp (four_kp _ _ _ _ _ _) (by simpa using hn6)
 clear hK K
 refine wpAnyH_done (by kernel_rfl) ?_ _
 all_goals (
   go_wp2
   obtain ⟨q0, q1, q2, q3, K9⟩ := four_set U2.b5 HLE.out U2.kp (.int .i64 (A.c : Int)) (.int .i64 (A.l : Int)) (.int .i64 (A.oc : Int)) (.int .i64 (A.ol : Int))
   generalize ((((w6.setCell ⟨g5, 0, none⟩ (.int .i64 (A.c : Int))).setCell ⟨g5, 1, none⟩ (.int .i64 (A.l : Int))).setCell ⟨g5, 2, none⟩ (.int .i64 (A.oc : Int))).setCell ⟨g5, 3, none⟩ (.int .i64 (A.ol : Int))) = W9 at q0 q1 q2 q3 K9 ⊢
   refine bodyPost_ret (v := .tuple #[.int .i64 (z0 : Int), .agg #[.int .i64 (A.c : Int), .int .i64 (A.l : Int), .int .i64 (A.oc : Int), .int .i64 (A.ol : Int)]]) ?_ rfl ⟨rfl, K9⟩
   simp [results, Tryz.results110, q0, q1, q2, q3, go_sem])
end
end Go.Proofs.YthndilllnneijaaGreat
