/-
  The contract of cmp.Or at ints. Conditions: those that stand in each theorem.
-/
import Derived.Test.YtkkmlllajfafcaaPXE
namespace Go.Proofs.Ytkkmlllajfafcaa
set_option linter.unusedVariables false
set_option linter.unusedSimpArgs false
open Go.RowKit Go.Deep Go.Maps

/-- The first number that is not 0. -/
def orL : List Nat → Nat
  | [] => 0
  | x :: l => orN x (orL l)
/-- A slice of numbers. -/
def NatsAt (w : World) (v : Value) (zs : List Nat) : Prop := ∃ A cap, v = .slice A zs.length cap ∧ ∀ i, i < zs.length → ∃ g, A = some ⟨g, 0, none⟩ ∧ w.cell? ⟨g, i, none⟩ = some (.int .i64 (zs.getD i 0 : Int))
theorem NatsAt.kp0 {w W : World} {v : Value} {zs : List Nat} (h : NatsAt w v zs) (k : Kp [] w W) : NatsAt W v zs := by
  obtain ⟨A, cap, rfl, hA⟩ := h
  exact ⟨A, cap, rfl, fun i hi => by obtain ⟨g, h1, h2⟩ := hA i hi; exact ⟨g, h1, cell_kp k h2⟩⟩
theorem orL_drop0 {zs : List Nat} {j : Nat} (hj : j < zs.length) (h : zs.getD j 0 = 0) : orL (zs.drop j) = orL (zs.drop (j + 1)) := by
  rw [List.drop_eq_getElem_cons hj]
  have : zs[j] = 0 := by rw [List.getD_eq_getElem?_getD, List.getElem?_eq_getElem hj] at h; exact h
  show orN zs[j] _ = _
  rw [this]; rfl
theorem orL_drop1 {zs : List Nat} {j : Nat} (hj : j < zs.length) (h : zs.getD j 0 ≠ 0) : orL (zs.drop j) = zs.getD j 0 := by
  rw [List.drop_eq_getElem_cons hj]
  have e : zs.getD j 0 = zs[j] := by rw [List.getD_eq_getElem?_getD, List.getElem?_eq_getElem hj]; rfl
  show orN zs[j] _ = _
  rw [← e]
  unfold orN
  rw [if_neg h]
section
variable {w W V : World} {b : HB} {m : HM} {q : Nat}
set_option maxHeartbeats 1000000 in
theorem a_or {v : Value} {zs : List Nat} (h : NatsAt w v zs) (hl : zs.length ≤ 100) :
    Calls Try.prog 87 #[v] w fun e w' => e = .returned (.int .i64 (orL zs : Int)) ∧ Kp [] w w' := by
  have h0 := h
  obtain ⟨A, cap, rfl, _⟩ := h
  have HL := hid h0
  clear h0
  go_enter Try.func87, Try.ntmps87
  go_wp2
  go_loopw [8] (fun c wr => ∃ j : Nat, j ≤ zs.length ∧ c = .int .i64 (j : Int) ∧ orL zs = orL (zs.drop j) ∧ Kp [] w wr) (fun c _ => zs.length - (intOf c).toNat)
  case atStart => exact ⟨0, by omega, rfl, rfl, Kp.refl _ _⟩
  case round =>
    obtain ⟨j, hj, rfl, ho, hK⟩ := hrel
    have HK := hid hK
    have HO := hid ho
    have R := HL.out.kp0 hK
    clear hK ho
    by_cases hlt : j < zs.length
    · obtain ⟨A', cap', e1, hA⟩ := R
      injection e1 with e1 e2 e3
      subst e1
      obtain ⟨g, rfl, g1⟩ := hA j hlt
      have h1 := fun h => orL_drop0 (zs := zs) hlt h
      have h2 := fun h => orL_drop1 (zs := zs) hlt h
      generalize zs.getD j 0 = z at g1 h1 h2
      by_cases hz : z = 0
      · have t : ((z : Int) != 0) = false := by simp [hz]
        have HS := hid (h1 hz)
        clear hA e2 e3 h1 h2 hz
        go_wp2
        go_roundw
        case rel => exact ⟨j + 1, by omega, by go_num, by rw [HO.out, HS.out], HK.out⟩
        case measure => simp [intOf]; omega
      · have t : ((z : Int) != 0) = true := bne_iff_ne.2 (by omega)
        have HS := hid (h2 hz)
        clear hA e2 e3 h1 h2 hz
        go_wp2
        go_ret
        rw [HO.out, HS.out]
        exact ⟨rfl, HK.out⟩
    · obtain rfl : j = zs.length := by omega
      clear R
      go_wp2
      go_ret
      rw [HO.out, List.drop_length]
      exact ⟨rfl, HK.out⟩
end
end Go.Proofs.Ytkkmlllajfafcaa
/-
  The contracts of package alloc's policies first and best. Conditions: those that stand in each theorem.
-/
namespace Go.Proofs.Ytkkmlllajfafcaa
set_option linter.unusedVariables false
set_option linter.unusedSimpArgs false
open Go.RowKit Go.Deep Go.Maps

theorem or2 (x y : Nat) : orN x y = orL [x, y] := by
  show _ = orN x (orN y 0)
  unfold orN
  by_cases hy : y = 0
  · subst hy; rfl
  · rw [if_neg hy]
theorem nats2 (w : World) (x y : Nat) : NatsAt (w.alloc (.cells #[.int .i64 (x : Int), .int .i64 (y : Int)] 3)) (.slice (some ⟨w.heap.size, 0, none⟩) 2 2) [x, y] := by
  refine ⟨_, _, rfl, fun i hi => ⟨w.heap.size, rfl, ?_⟩⟩
  have hB := Blk.new w 3 #[.int .i64 (x : Int), .int .i64 (y : Int)]
  simp only [List.length_cons, List.length_nil] at hi
  rcases i with _ | _ | i
  · exact hB.cell 0
  · exact hB.cell 1
  · omega
theorem nats3 (w : World) (x y z : Nat) : NatsAt (w.alloc (.cells #[.int .i64 (x : Int), .int .i64 (y : Int), .int .i64 (z : Int)] 3)) (.slice (some ⟨w.heap.size, 0, none⟩) 3 3) [x, y, z] := by
  refine ⟨_, _, rfl, fun i hi => ⟨w.heap.size, rfl, ?_⟩⟩
  have hB := Blk.new w 3 #[.int .i64 (x : Int), .int .i64 (y : Int), .int .i64 (z : Int)]
  simp only [List.length_cons, List.length_nil] at hi
  rcases i with _ | _ | _ | i
  · exact hB.cell 0
  · exact hB.cell 1
  · exact hB.cell 2
  · omega
theorem four_set {w W : World} {g : Nat} {t : TypeId} {a b c d : Value} (B : Blk W g t #[a, b, c, d]) (hg : w.heap.size ≤ g) (K : Kp [] w W) (x y z u : Value) :
    ((((W.setCell ⟨g, 0, none⟩ x).setCell ⟨g, 1, none⟩ y).setCell ⟨g, 2, none⟩ z).setCell ⟨g, 3, none⟩ u).cell? ⟨g, 0, none⟩ = some x ∧ ((((W.setCell ⟨g, 0, none⟩ x).setCell ⟨g, 1, none⟩ y).setCell ⟨g, 2, none⟩ z).setCell ⟨g, 3, none⟩ u).cell? ⟨g, 1, none⟩ = some y ∧
    ((((W.setCell ⟨g, 0, none⟩ x).setCell ⟨g, 1, none⟩ y).setCell ⟨g, 2, none⟩ z).setCell ⟨g, 3, none⟩ u).cell? ⟨g, 2, none⟩ = some z ∧ ((((W.setCell ⟨g, 0, none⟩ x).setCell ⟨g, 1, none⟩ y).setCell ⟨g, 2, none⟩ z).setCell ⟨g, 3, none⟩ u).cell? ⟨g, 3, none⟩ = some u ∧
    Kp [] w ((((W.setCell ⟨g, 0, none⟩ x).setCell ⟨g, 1, none⟩ y).setCell ⟨g, 2, none⟩ z).setCell ⟨g, 3, none⟩ u) := by
  have B9 := (((B.set_ 0 x).set_ 1 y).set_ 2 z).set_ 3 u
  exact ⟨B9.cell 0, B9.cell 1, B9.cell 2, B9.cell 3, (((K.trans (Kp.cell _ ⟨g, 0, none⟩ x) (U := []) (by simp) (by simp; omega)).trans (Kp.cell _ ⟨g, 1, none⟩ y) (U := []) (by simp) (by simp; omega)).trans (Kp.cell _ ⟨g, 2, none⟩ z) (U := []) (by simp) (by simp; omega)).trans (Kp.cell _ ⟨g, 3, none⟩ u) (U := []) (by simp) (by simp; omega)⟩
/-- A heap, the boxes of a room, of cursors and of a result. -/
structure CH (w W : World) (b : HB) (q : Nat) (m : HM) (g5 g6 g9 s x y ox oy : Nat) : Prop where
  sh : SH W b q m
  b5 : Blk W g5 27 #[.pointer (some ⟨b.g, 0, none⟩), .int .i64 (s : Int)]
  b6 : Blk W g6 31 #[.int .i64 (x : Int), .int .i64 (y : Int), .int .i64 (ox : Int), .int .i64 (oy : Int)]
  b9 : Blk W g9 31 #[.int .i64 0, .int .i64 0, .int .i64 0, .int .i64 0]
  kp : Kp [] w W
section
variable {w W V : World} {b : HB} {m : HM} {q g5 g6 g9 s x y ox oy : Nat}
theorem CH.step (u : CH w W b q m g5 g6 g9 s x y ox oy) (K : Kp [] W V) : CH w V b q m g5 g6 g9 s x y ox oy := ⟨u.sh.k0 K, u.b5.kp K (by simp), u.b6.kp K (by simp), u.b9.kp K (by simp), u.kp.chain K⟩
theorem CH.r0 (u : CH w W b q m g5 g6 g9 s x y ox oy) : W.cell? ⟨g5, 0, none⟩ = some (.pointer (some ⟨b.g, 0, none⟩)) := u.b5.cell 0
theorem CH.r1 (u : CH w W b q m g5 g6 g9 s x y ox oy) : W.cell? ⟨g5, 1, none⟩ = some (.int .i64 (s : Int)) := u.b5.cell 1
theorem CH.c0 (u : CH w W b q m g5 g6 g9 s x y ox oy) : W.cell? ⟨g6, 0, none⟩ = some (.int .i64 (x : Int)) := u.b6.cell 0
theorem CH.c1 (u : CH w W b q m g5 g6 g9 s x y ox oy) : W.cell? ⟨g6, 1, none⟩ = some (.int .i64 (y : Int)) := u.b6.cell 1
theorem CH.c2 (u : CH w W b q m g5 g6 g9 s x y ox oy) : W.cell? ⟨g6, 2, none⟩ = some (.int .i64 (ox : Int)) := u.b6.cell 2
theorem CH.c3 (u : CH w W b q m g5 g6 g9 s x y ox oy) : W.cell? ⟨g6, 3, none⟩ = some (.int .i64 (oy : Int)) := u.b6.cell 3
set_option maxRecDepth 100000 in
set_option maxHeartbeats 1000000 in
theorem a_first (h : SH w b q m) (s x y ox oy n : Nat) (hn : n ≤ 10000) :
    Calls Try.prog 86 #[.agg #[], .agg #[.pointer (some ⟨b.g, 0, none⟩), .int .i64 (s : Int)], .agg #[.int .i64 (x : Int), .int .i64 (y : Int), .int .i64 (ox : Int), .int .i64 (oy : Int)], .int .i64 (n : Int)] w fun e w' => e = .returned (.tuple #[.int .i64 ((orN (m.lowG s 0 n) (m.freeB 1)) : Nat), .agg #[.int .i64 (x : Int), .int .i64 (y : Int), .int .i64 (ox : Int), .int .i64 (oy : Int)]]) ∧ Kp [] w w' := by
  have HSH := hid h
  have HV : Hid ((orN (m.lowG s 0 n) (m.freeB 1)) = orL [m.lowG s 0 n, m.freeB 1]) := by exact or2 _ _
  rw [HV.out]
  obtain ⟨g1, hg1⟩ : ∃ z, m.lowG s 0 n = z := ⟨_, rfl⟩
  obtain ⟨g2, hg2⟩ : ∃ z, m.freeB 1 = z := ⟨_, rfl⟩
  rw [hg1, hg2]
  have HG1 := hid hg1
  have HG2 := hid hg2
  obtain ⟨w0, hw0⟩ : ∃ w0, w0 = ((((w.alloc (.cells #[] 84)).alloc (.cells #[.pointer (some ⟨b.g, 0, none⟩), .int .i64 (s : Int)] 27)).alloc (.cells #[.int .i64 (x : Int), .int .i64 (y : Int), .int .i64 (ox : Int), .int .i64 (oy : Int)] 31)).alloc (.cells #[.int .i64 0, .int .i64 0, .int .i64 0, .int .i64 0] 31)) := ⟨_, rfl⟩
  have K0 : Kp [] w w0 := by rw [hw0]; exact (((Kp.new _ _).chain (Kp.new _ _)).chain (Kp.new _ _)).chain (Kp.new _ _)
  have B5 : Blk w0 (w.heap.size + 1) 27 #[.pointer (some ⟨b.g, 0, none⟩), .int .i64 (s : Int)] := by
    rw [hw0]
    have := ((Blk.new (w.alloc (.cells #[] 84)) 27 #[.pointer (some ⟨b.g, 0, none⟩), .int .i64 (s : Int)]).kp (Kp.new _ (.cells #[.int .i64 (x : Int), .int .i64 (y : Int), .int .i64 (ox : Int), .int .i64 (oy : Int)] 31)) (by simp)).kp (Kp.new _ (.cells #[.int .i64 0, .int .i64 0, .int .i64 0, .int .i64 0] 31)) (by simp)
    simpa using this
  have B6 : Blk w0 (w.heap.size + 1 + 1) 31 #[.int .i64 (x : Int), .int .i64 (y : Int), .int .i64 (ox : Int), .int .i64 (oy : Int)] := by
    rw [hw0]
    have := (Blk.new ((w.alloc (.cells #[] 84)).alloc (.cells #[.pointer (some ⟨b.g, 0, none⟩), .int .i64 (s : Int)] 27)) 31 #[.int .i64 (x : Int), .int .i64 (y : Int), .int .i64 (ox : Int), .int .i64 (oy : Int)]).kp (Kp.new _ (.cells #[.int .i64 0, .int .i64 0, .int .i64 0, .int .i64 0] 31)) (by simp)
    simpa using this
  have B9 : Blk w0 (w.heap.size + 1 + 1 + 1) 31 #[.int .i64 0, .int .i64 0, .int .i64 0, .int .i64 0] := by
    rw [hw0]
    have := Blk.new (((w.alloc (.cells #[] 84)).alloc (.cells #[.pointer (some ⟨b.g, 0, none⟩), .int .i64 (s : Int)] 27)).alloc (.cells #[.int .i64 (x : Int), .int .i64 (y : Int), .int .i64 (ox : Int), .int .i64 (oy : Int)] 31)) 31 #[.int .i64 0, .int .i64 0, .int .i64 0, .int .i64 0]
    simpa using this
  obtain ⟨g5, hg5⟩ : ∃ z, z = w.heap.size + 1 := ⟨_, rfl⟩
  obtain ⟨g6, hg6⟩ : ∃ z, z = w.heap.size + 1 + 1 := ⟨_, rfl⟩
  obtain ⟨g9, hg9⟩ : ∃ z, z = w.heap.size + 1 + 1 + 1 := ⟨_, rfl⟩
  rw [← hg5] at B5
  rw [← hg6] at B6
  rw [← hg9] at B9
  have U0 : CH w w0 b q m g5 g6 g9 s x y ox oy := ⟨h.k0 K0, B5, B6, B9, K0⟩
  have HU : Hid (CH w w0.drew b q m g5 g6 g9 s x y ox oy) := U0.step (Kp.draw _ 1)
  have t0 : w0.drew.cell? ⟨g5, 0, none⟩ = some (.pointer (some ⟨b.g, 0, none⟩)) := HU.out.r0
  have t1 : w0.drew.cell? ⟨g5, 1, none⟩ = some (.int .i64 (s : Int)) := HU.out.r1
  have t2 : w0.drew.cell? ⟨g6, 0, none⟩ = some (.int .i64 (x : Int)) := HU.out.c0
  have t3 : w0.drew.cell? ⟨g6, 1, none⟩ = some (.int .i64 (y : Int)) := HU.out.c1
  have t4 : w0.drew.cell? ⟨g6, 2, none⟩ = some (.int .i64 (ox : Int)) := HU.out.c2
  have t5 : w0.drew.cell? ⟨g6, 3, none⟩ = some (.int .i64 (oy : Int)) := HU.out.c3
  have HW := hid hw0
  have H5 := hid hg5
  have H6 := hid hg6
  have H9 := hid hg9
  have HLE : Hid (w.heap.size ≤ g9) := by show _ ≤ _; omega
  have hn5 : g5 ≠ g9 := by omega
  have hn6 : g6 ≠ g9 := by omega
  have hn7 : g9 ≠ g5 := by omega
  have hn8 : g9 ≠ g6 := by omega
  clear h hg1 hg2 K0 B5 B6 B9 U0 hg5 hg6 hg9
  go_enter Try.func86, Try.ntmps86
  go_wp2
  rw [← HW.out, ← H9.out, ← H6.out, ← H5.out]
  clear H5 H6 H9 hw0
  go_region_held3 (fun W => W.cell? ⟨g5, 0, none⟩ = some (.pointer (some ⟨b.g, 0, none⟩)) ∧ W.cell? ⟨g5, 1, none⟩ = some (.int .i64 (s : Int)) ∧ W.cell? ⟨g6, 0, none⟩ = some (.int .i64 (x : Int)) ∧ W.cell? ⟨g6, 1, none⟩ = some (.int .i64 (y : Int)) ∧ W.cell? ⟨g6, 2, none⟩ = some (.int .i64 (ox : Int)) ∧ W.cell? ⟨g6, 3, none⟩ = some (.int .i64 (oy : Int))) (go_keep)
    (first
      | (go_at_call 88; refine (a_lowestGap HU.out.sh s 0 n (by omega) hn).mono ?_; rintro e w5 ⟨rfl, K5⟩; rw [HG1.out]; have U1 := HU.out.step K5; have u0 := U1.r0; have u1 := U1.r1; have u2 := U1.c0; have u3 := U1.c1; have u4 := U1.c2; have u5 := U1.c3; clear K5)
      | (go_at_call 34; refine (a_free U1.sh s 1 (by omega) (by omega)).mono ?_; rintro e w6 ⟨rfl, K6⟩; rw [HG2.out]; have U2 := U1.step K6; have v0 := U2.r0; have v1 := U2.r1; have v2 := U2.c0; have v3 := U2.c1; have v4 := U2.c2; have v5 := U2.c3; clear K6)
      | (go_at_call 87; refine (a_or (zs := [g1, g2]) (nats2 w6 g1 g2) (by simp)).mono ?_; rintro e w7 ⟨rfl, K7⟩; have U3 := U2.step ((Kp.new _ _).chain K7); have x0 := U3.r0; have x1 := U3.r1; have x2 := U3.c0; have x3 := U3.c1; have x4 := U3.c2; have x5 := U3.c3; have y0 := U3.b9.cell 0; have y1 := U3.b9.cell 1; have y2 := U3.b9.cell 2; have y3 := U3.b9.cell 3; have z0 := U3.b9.frozen 0; have z1 := U3.b9.frozen 1; have z2 := U3.b9.frozen 2; have z3 := U3.b9.frozen 3; clear K7))
  all_goals (
    go_wp2
    obtain ⟨q0, q1, q2, q3, K9⟩ := four_set U3.b9 HLE.out U3.kp (.int .i64 (x : Int)) (.int .i64 (y : Int)) (.int .i64 (ox : Int)) (.int .i64 (oy : Int))
    generalize ((((w7.setCell ⟨g9, 0, none⟩ (.int .i64 (x : Int))).setCell ⟨g9, 1, none⟩ (.int .i64 (y : Int))).setCell ⟨g9, 2, none⟩ (.int .i64 (ox : Int))).setCell ⟨g9, 3, none⟩ (.int .i64 (oy : Int))) = W9 at q0 q1 q2 q3 K9 ⊢
    refine bodyPost_ret (v := .tuple #[.int .i64 (orL [g1, g2] : Nat), .agg #[.int .i64 (x : Int), .int .i64 (y : Int), .int .i64 (ox : Int), .int .i64 (oy : Int)]]) ?_ rfl ⟨rfl, K9⟩
    simp [results, Try.results86, q0, q1, q2, q3, go_sem])
set_option maxRecDepth 100000 in
set_option maxHeartbeats 1000000 in
theorem a_best (h : SH w b q m) (s x y ox oy n : Nat) (hn : n ≤ 10000) :
    Calls Try.prog 98 #[.agg #[], .agg #[.pointer (some ⟨b.g, 0, none⟩), .int .i64 (s : Int)], .agg #[.int .i64 (x : Int), .int .i64 (y : Int), .int .i64 (ox : Int), .int .i64 (oy : Int)], .int .i64 (n : Int)] w fun e w' => e = .returned (.tuple #[.int .i64 ((orN (m.leastG s n) (m.freeB 1)) : Nat), .agg #[.int .i64 (x : Int), .int .i64 (y : Int), .int .i64 (ox : Int), .int .i64 (oy : Int)]]) ∧ Kp [] w w' := by
  have HSH := hid h
  have HV : Hid ((orN (m.leastG s n) (m.freeB 1)) = orL [m.leastG s n, m.freeB 1]) := by exact or2 _ _
  rw [HV.out]
  obtain ⟨g1, hg1⟩ : ∃ z, m.leastG s n = z := ⟨_, rfl⟩
  obtain ⟨g2, hg2⟩ : ∃ z, m.freeB 1 = z := ⟨_, rfl⟩
  rw [hg1, hg2]
  have HG1 := hid hg1
  have HG2 := hid hg2
  obtain ⟨w0, hw0⟩ : ∃ w0, w0 = ((((w.alloc (.cells #[] 85)).alloc (.cells #[.pointer (some ⟨b.g, 0, none⟩), .int .i64 (s : Int)] 27)).alloc (.cells #[.int .i64 (x : Int), .int .i64 (y : Int), .int .i64 (ox : Int), .int .i64 (oy : Int)] 31)).alloc (.cells #[.int .i64 0, .int .i64 0, .int .i64 0, .int .i64 0] 31)) := ⟨_, rfl⟩
  have K0 : Kp [] w w0 := by rw [hw0]; exact (((Kp.new _ _).chain (Kp.new _ _)).chain (Kp.new _ _)).chain (Kp.new _ _)
  have B5 : Blk w0 (w.heap.size + 1) 27 #[.pointer (some ⟨b.g, 0, none⟩), .int .i64 (s : Int)] := by
    rw [hw0]
    have := ((Blk.new (w.alloc (.cells #[] 85)) 27 #[.pointer (some ⟨b.g, 0, none⟩), .int .i64 (s : Int)]).kp (Kp.new _ (.cells #[.int .i64 (x : Int), .int .i64 (y : Int), .int .i64 (ox : Int), .int .i64 (oy : Int)] 31)) (by simp)).kp (Kp.new _ (.cells #[.int .i64 0, .int .i64 0, .int .i64 0, .int .i64 0] 31)) (by simp)
    simpa using this
  have B6 : Blk w0 (w.heap.size + 1 + 1) 31 #[.int .i64 (x : Int), .int .i64 (y : Int), .int .i64 (ox : Int), .int .i64 (oy : Int)] := by
    rw [hw0]
    have := (Blk.new ((w.alloc (.cells #[] 85)).alloc (.cells #[.pointer (some ⟨b.g, 0, none⟩), .int .i64 (s : Int)] 27)) 31 #[.int .i64 (x : Int), .int .i64 (y : Int), .int .i64 (ox : Int), .int .i64 (oy : Int)]).kp (Kp.new _ (.cells #[.int .i64 0, .int .i64 0, .int .i64 0, .int .i64 0] 31)) (by simp)
    simpa using this
  have B9 : Blk w0 (w.heap.size + 1 + 1 + 1) 31 #[.int .i64 0, .int .i64 0, .int .i64 0, .int .i64 0] := by
    rw [hw0]
    have := Blk.new (((w.alloc (.cells #[] 85)).alloc (.cells #[.pointer (some ⟨b.g, 0, none⟩), .int .i64 (s : Int)] 27)).alloc (.cells #[.int .i64 (x : Int), .int .i64 (y : Int), .int .i64 (ox : Int), .int .i64 (oy : Int)] 31)) 31 #[.int .i64 0, .int .i64 0, .int .i64 0, .int .i64 0]
    simpa using this
  obtain ⟨g5, hg5⟩ : ∃ z, z = w.heap.size + 1 := ⟨_, rfl⟩
  obtain ⟨g6, hg6⟩ : ∃ z, z = w.heap.size + 1 + 1 := ⟨_, rfl⟩
  obtain ⟨g9, hg9⟩ : ∃ z, z = w.heap.size + 1 + 1 + 1 := ⟨_, rfl⟩
  rw [← hg5] at B5
  rw [← hg6] at B6
  rw [← hg9] at B9
  have U0 : CH w w0 b q m g5 g6 g9 s x y ox oy := ⟨h.k0 K0, B5, B6, B9, K0⟩
  have HU : Hid (CH w w0.drew b q m g5 g6 g9 s x y ox oy) := U0.step (Kp.draw _ 1)
  have t0 : w0.drew.cell? ⟨g5, 0, none⟩ = some (.pointer (some ⟨b.g, 0, none⟩)) := HU.out.r0
  have t1 : w0.drew.cell? ⟨g5, 1, none⟩ = some (.int .i64 (s : Int)) := HU.out.r1
  have t2 : w0.drew.cell? ⟨g6, 0, none⟩ = some (.int .i64 (x : Int)) := HU.out.c0
  have t3 : w0.drew.cell? ⟨g6, 1, none⟩ = some (.int .i64 (y : Int)) := HU.out.c1
  have t4 : w0.drew.cell? ⟨g6, 2, none⟩ = some (.int .i64 (ox : Int)) := HU.out.c2
  have t5 : w0.drew.cell? ⟨g6, 3, none⟩ = some (.int .i64 (oy : Int)) := HU.out.c3
  have HW := hid hw0
  have H5 := hid hg5
  have H6 := hid hg6
  have H9 := hid hg9
  have HLE : Hid (w.heap.size ≤ g9) := by show _ ≤ _; omega
  have hn5 : g5 ≠ g9 := by omega
  have hn6 : g6 ≠ g9 := by omega
  have hn7 : g9 ≠ g5 := by omega
  have hn8 : g9 ≠ g6 := by omega
  clear h hg1 hg2 K0 B5 B6 B9 U0 hg5 hg6 hg9
  go_enter Try.func98, Try.ntmps98
  go_wp2
  rw [← HW.out, ← H9.out, ← H6.out, ← H5.out]
  clear H5 H6 H9 hw0
  go_region_held3 (fun W => W.cell? ⟨g5, 0, none⟩ = some (.pointer (some ⟨b.g, 0, none⟩)) ∧ W.cell? ⟨g5, 1, none⟩ = some (.int .i64 (s : Int)) ∧ W.cell? ⟨g6, 0, none⟩ = some (.int .i64 (x : Int)) ∧ W.cell? ⟨g6, 1, none⟩ = some (.int .i64 (y : Int)) ∧ W.cell? ⟨g6, 2, none⟩ = some (.int .i64 (ox : Int)) ∧ W.cell? ⟨g6, 3, none⟩ = some (.int .i64 (oy : Int))) (go_keep)
    (first
      | (go_at_call 99; refine (a_leastGap HU.out.sh s n hn).mono ?_; rintro e w5 ⟨rfl, K5⟩; rw [HG1.out]; have U1 := HU.out.step K5; have u0 := U1.r0; have u1 := U1.r1; have u2 := U1.c0; have u3 := U1.c1; have u4 := U1.c2; have u5 := U1.c3; clear K5)
      | (go_at_call 34; refine (a_free U1.sh s 1 (by omega) (by omega)).mono ?_; rintro e w6 ⟨rfl, K6⟩; rw [HG2.out]; have U2 := U1.step K6; have v0 := U2.r0; have v1 := U2.r1; have v2 := U2.c0; have v3 := U2.c1; have v4 := U2.c2; have v5 := U2.c3; clear K6)
      | (go_at_call 87; refine (a_or (zs := [g1, g2]) (nats2 w6 g1 g2) (by simp)).mono ?_; rintro e w7 ⟨rfl, K7⟩; have U3 := U2.step ((Kp.new _ _).chain K7); have x0 := U3.r0; have x1 := U3.r1; have x2 := U3.c0; have x3 := U3.c1; have x4 := U3.c2; have x5 := U3.c3; have y0 := U3.b9.cell 0; have y1 := U3.b9.cell 1; have y2 := U3.b9.cell 2; have y3 := U3.b9.cell 3; have z0 := U3.b9.frozen 0; have z1 := U3.b9.frozen 1; have z2 := U3.b9.frozen 2; have z3 := U3.b9.frozen 3; clear K7))
  all_goals (
    go_wp2
    obtain ⟨q0, q1, q2, q3, K9⟩ := four_set U3.b9 HLE.out U3.kp (.int .i64 (x : Int)) (.int .i64 (y : Int)) (.int .i64 (ox : Int)) (.int .i64 (oy : Int))
    generalize ((((w7.setCell ⟨g9, 0, none⟩ (.int .i64 (x : Int))).setCell ⟨g9, 1, none⟩ (.int .i64 (y : Int))).setCell ⟨g9, 2, none⟩ (.int .i64 (ox : Int))).setCell ⟨g9, 3, none⟩ (.int .i64 (oy : Int))) = W9 at q0 q1 q2 q3 K9 ⊢
    refine bodyPost_ret (v := .tuple #[.int .i64 (orL [g1, g2] : Nat), .agg #[.int .i64 (x : Int), .int .i64 (y : Int), .int .i64 (ox : Int), .int .i64 (oy : Int)]]) ?_ rfl ⟨rfl, K9⟩
    simp [results, Try.results98, q0, q1, q2, q3, go_sem])
end
end Go.Proofs.Ytkkmlllajfafcaa
