/-
  HeapNone: Play with a heap that nobody made. Conditions: those that stand in each theorem.
-/
import Derived.Test.YtkhemendnoeciaaGreatNa
namespace Go.Proofs.YtkhemendnoeciaaGreat
set_option linter.unusedVariables false
set_option linter.unusedSimpArgs false
open Go.RowKit Go.Deep Go.Maps

section
variable {w w' : World} {v : Value}
set_option maxRecDepth 100000 in
set_option maxHeartbeats 1000000 in
theorem pn0 (h : NoH w v) (a b c r d s : Int) :
    Calls Tryz.prog 11 #[v, .pointer none, .agg #[.int .i64 0, .int .i64 a, .int .i64 b, .int .i64 c, .int .i64 r, .int .i64 d, .int .i64 s]] w fun e w' => e = .returned (.bool true) ∧ Kp [] w w' := by
  have hb := Blk.new w 35 #[.int .i64 0, .int .i64 a, .int .i64 b, .int .i64 c, .int .i64 r, .int .i64 d, .int .i64 s]
  have HK := hid (Kp.new w (.cells #[.int .i64 0, .int .i64 a, .int .i64 b, .int .i64 c, .int .i64 r, .int .i64 d, .int .i64 s] 35))
  have HN := hid (h.kp0 HK.out)
  have HB := hid hb
  have b0 := hb.cell 0
  have b1 := hb.cell 1
  have b2 := hb.cell 2
  have b3 := hb.cell 3
  have b4 := hb.cell 4
  have b5 := hb.cell 5
  have b6 := hb.cell 6
  clear h hb
  go_enter Tryz.func11, Tryz.ntmps11
  go_wp2
  generalize w.alloc (.cells #[.int .i64 0, .int .i64 a, .int .i64 b, .int .i64 c, .int .i64 r, .int .i64 d, .int .i64 s] 35) = w1 at *
  have HKD := HK.out.drewN 1
  have ND := HN.out.kp0 (Kp.draw w1 1)
  have BD := HB.out.kp (Kp.draw w1 1) (by simp)
  have s1 : w1.drew.cell? ⟨w.heap.size, 1, none⟩ = some (.int .i64 a) := BD.cell 1
  have s2 : w1.drew.cell? ⟨w.heap.size, 2, none⟩ = some (.int .i64 b) := BD.cell 2
  go_region_held3 (fun W => W.cell? ⟨w.heap.size, 1, none⟩ = some (.int .i64 a) ∧ W.cell? ⟨w.heap.size, 2, none⟩ = some (.int .i64 b)) (go_keep)
    (first
      | (go_at_call 22; refine (n_Claim (by assumption) a b).mono ?_; rintro e w5 ⟨rfl, K5⟩; have N5 := NoH.kp0 (by assumption) K5; have B5 := Blk.kp (by assumption) K5 (by simp); have u1 := B5.cell 1; have u2 := B5.cell 2; have KK5 := Kp.chain (by assumption : Kp [] w _) K5; clear K5)
      | (go_at_call 39; refine (u_Claim _ a b).mono ?_; rintro e w6 ⟨rfl, K6⟩; have N6 := NoH.kp0 (by assumption) K6; have B6 := Blk.kp (by assumption) K6 (by simp); have v1 := B6.cell 1; have v2 := B6.cell 2; have KK6 := Kp.chain (by assumption : Kp [] w _) K6; clear K6))
  all_goals (
    go_wp2
    go_ret
    exact ⟨rfl, by assumption⟩)
set_option maxRecDepth 100000 in
set_option maxHeartbeats 1000000 in
theorem pn1 (h : NoH w v) (a b c r d s : Int) :
    Calls Tryz.prog 11 #[v, .pointer none, .agg #[.int .i64 1, .int .i64 a, .int .i64 b, .int .i64 c, .int .i64 r, .int .i64 d, .int .i64 s]] w fun e w' => e = .returned (.bool true) ∧ Kp [] w w' := by
  have hb := Blk.new w 35 #[.int .i64 1, .int .i64 a, .int .i64 b, .int .i64 c, .int .i64 r, .int .i64 d, .int .i64 s]
  have HK := hid (Kp.new w (.cells #[.int .i64 1, .int .i64 a, .int .i64 b, .int .i64 c, .int .i64 r, .int .i64 d, .int .i64 s] 35))
  have HN := hid (h.kp0 HK.out)
  have HB := hid hb
  have b0 := hb.cell 0
  have b1 := hb.cell 1
  have b2 := hb.cell 2
  have b3 := hb.cell 3
  have b4 := hb.cell 4
  have b5 := hb.cell 5
  have b6 := hb.cell 6
  clear h hb
  go_enter Tryz.func11, Tryz.ntmps11
  go_wp2
  generalize w.alloc (.cells #[.int .i64 1, .int .i64 a, .int .i64 b, .int .i64 c, .int .i64 r, .int .i64 d, .int .i64 s] 35) = w1 at *
  have HKD := HK.out.drewN 1
  have ND := HN.out.kp0 (Kp.draw w1 1)
  have BD := HB.out.kp (Kp.draw w1 1) (by simp)
  have s1 : w1.drew.cell? ⟨w.heap.size, 1, none⟩ = some (.int .i64 a) := BD.cell 1
  have s2 : w1.drew.cell? ⟨w.heap.size, 2, none⟩ = some (.int .i64 b) := BD.cell 2
  have s3 : w1.drew.cell? ⟨w.heap.size, 3, none⟩ = some (.int .i64 c) := BD.cell 3
  go_region_held3 (fun W => W.cell? ⟨w.heap.size, 1, none⟩ = some (.int .i64 a) ∧ W.cell? ⟨w.heap.size, 2, none⟩ = some (.int .i64 b) ∧ W.cell? ⟨w.heap.size, 3, none⟩ = some (.int .i64 c)) (go_keep)
    (first
      | (go_at_call 28; refine (n_ClaimLarge (by assumption) a b c).mono ?_; rintro e w5 ⟨rfl, K5⟩; have N5 := NoH.kp0 (by assumption) K5; have B5 := Blk.kp (by assumption) K5 (by simp); have u1 := B5.cell 1; have u2 := B5.cell 2; have u3 := B5.cell 3; have KK5 := Kp.chain (by assumption : Kp [] w _) K5; clear K5)
      | (go_at_call 40; refine (u_ClaimLarge _ a b c).mono ?_; rintro e w6 ⟨rfl, K6⟩; have N6 := NoH.kp0 (by assumption) K6; have B6 := Blk.kp (by assumption) K6 (by simp); have v1 := B6.cell 1; have v2 := B6.cell 2; have v3 := B6.cell 3; have KK6 := Kp.chain (by assumption : Kp [] w _) K6; clear K6))
  all_goals (
    go_wp2
    go_ret
    exact ⟨rfl, by assumption⟩)
set_option maxRecDepth 100000 in
set_option maxHeartbeats 1000000 in
theorem pn2 (h : NoH w v) (a b c r d s : Int) :
    Calls Tryz.prog 11 #[v, .pointer none, .agg #[.int .i64 2, .int .i64 a, .int .i64 b, .int .i64 c, .int .i64 r, .int .i64 d, .int .i64 s]] w fun e w' => e = .returned (.bool true) ∧ Kp [] w w' := by
  have hb := Blk.new w 35 #[.int .i64 2, .int .i64 a, .int .i64 b, .int .i64 c, .int .i64 r, .int .i64 d, .int .i64 s]
  have HK := hid (Kp.new w (.cells #[.int .i64 2, .int .i64 a, .int .i64 b, .int .i64 c, .int .i64 r, .int .i64 d, .int .i64 s] 35))
  have HN := hid (h.kp0 HK.out)
  have HB := hid hb
  have b0 := hb.cell 0
  have b1 := hb.cell 1
  have b2 := hb.cell 2
  have b3 := hb.cell 3
  have b4 := hb.cell 4
  have b5 := hb.cell 5
  have b6 := hb.cell 6
  clear h hb
  go_enter Tryz.func11, Tryz.ntmps11
  go_wp2
  generalize w.alloc (.cells #[.int .i64 2, .int .i64 a, .int .i64 b, .int .i64 c, .int .i64 r, .int .i64 d, .int .i64 s] 35) = w1 at *
  have HKD := HK.out.drewN 1
  have ND := HN.out.kp0 (Kp.draw w1 1)
  have BD := HB.out.kp (Kp.draw w1 1) (by simp)
  have s1 : w1.drew.cell? ⟨w.heap.size, 1, none⟩ = some (.int .i64 a) := BD.cell 1
  go_region_held3 (fun W => W.cell? ⟨w.heap.size, 1, none⟩ = some (.int .i64 a)) (go_keep)
    (first
      | (go_at_call 30; refine (n_release (by assumption) a).mono ?_; rintro e w5 ⟨rfl, K5⟩; have N5 := NoH.kp0 (by assumption) K5; have B5 := Blk.kp (by assumption) K5 (by simp); have u1 := B5.cell 1; have KK5 := Kp.chain (by assumption : Kp [] w _) K5; clear K5)
      | (go_at_call 41; refine (u_release _ a).mono ?_; rintro e w6 ⟨rfl, K6⟩; have N6 := NoH.kp0 (by assumption) K6; have B6 := Blk.kp (by assumption) K6 (by simp); have v1 := B6.cell 1; have KK6 := Kp.chain (by assumption : Kp [] w _) K6; clear K6))
  all_goals (
    go_wp2
    go_ret
    exact ⟨rfl, by assumption⟩)
set_option maxRecDepth 100000 in
set_option maxHeartbeats 1000000 in
theorem pn3 (h : NoH w v) (a b c r d s : Int) :
    Calls Tryz.prog 11 #[v, .pointer none, .agg #[.int .i64 3, .int .i64 a, .int .i64 b, .int .i64 c, .int .i64 r, .int .i64 d, .int .i64 s]] w fun e w' => e = .returned (.bool true) ∧ Kp [] w w' := by
  have hb := Blk.new w 35 #[.int .i64 3, .int .i64 a, .int .i64 b, .int .i64 c, .int .i64 r, .int .i64 d, .int .i64 s]
  have HK := hid (Kp.new w (.cells #[.int .i64 3, .int .i64 a, .int .i64 b, .int .i64 c, .int .i64 r, .int .i64 d, .int .i64 s] 35))
  have HN := hid (h.kp0 HK.out)
  have HB := hid hb
  have b0 := hb.cell 0
  have b1 := hb.cell 1
  have b2 := hb.cell 2
  have b3 := hb.cell 3
  have b4 := hb.cell 4
  have b5 := hb.cell 5
  have b6 := hb.cell 6
  clear h hb
  go_enter Tryz.func11, Tryz.ntmps11
  go_wp2
  generalize w.alloc (.cells #[.int .i64 3, .int .i64 a, .int .i64 b, .int .i64 c, .int .i64 r, .int .i64 d, .int .i64 s] 35) = w1 at *
  have HKD := HK.out.drewN 1
  have ND := HN.out.kp0 (Kp.draw w1 1)
  have BD := HB.out.kp (Kp.draw w1 1) (by simp)
  have s1 : w1.drew.cell? ⟨w.heap.size, 1, none⟩ = some (.int .i64 a) := BD.cell 1
  have s2 : w1.drew.cell? ⟨w.heap.size, 2, none⟩ = some (.int .i64 b) := BD.cell 2
  go_region_held3 (fun W => W.cell? ⟨w.heap.size, 1, none⟩ = some (.int .i64 a) ∧ W.cell? ⟨w.heap.size, 2, none⟩ = some (.int .i64 b)) (go_keep)
    (first
      | (go_at_call 42; refine (n_retag (by assumption) a b).mono ?_; rintro e w5 ⟨rfl, K5⟩; have N5 := NoH.kp0 (by assumption) K5; have B5 := Blk.kp (by assumption) K5 (by simp); have u1 := B5.cell 1; have u2 := B5.cell 2; have KK5 := Kp.chain (by assumption : Kp [] w _) K5; clear K5)
      | (go_at_call 43; refine (u_retag _ a b).mono ?_; rintro e w6 ⟨rfl, K6⟩; have N6 := NoH.kp0 (by assumption) K6; have B6 := Blk.kp (by assumption) K6 (by simp); have v1 := B6.cell 1; have v2 := B6.cell 2; have KK6 := Kp.chain (by assumption : Kp [] w _) K6; clear K6))
  all_goals (
    go_wp2
    go_ret
    exact ⟨rfl, by assumption⟩)
set_option maxRecDepth 100000 in
set_option maxHeartbeats 1000000 in
theorem pn4 (h : NoH w v) (a b c r d s : Int) :
    Calls Tryz.prog 11 #[v, .pointer none, .agg #[.int .i64 4, .int .i64 a, .int .i64 b, .int .i64 c, .int .i64 r, .int .i64 d, .int .i64 s]] w fun e w' => e = .returned (.bool true) ∧ Kp [] w w' := by
  have hb := Blk.new w 35 #[.int .i64 4, .int .i64 a, .int .i64 b, .int .i64 c, .int .i64 r, .int .i64 d, .int .i64 s]
  have HK := hid (Kp.new w (.cells #[.int .i64 4, .int .i64 a, .int .i64 b, .int .i64 c, .int .i64 r, .int .i64 d, .int .i64 s] 35))
  have HN := hid (h.kp0 HK.out)
  have HB := hid hb
  have b0 := hb.cell 0
  have b1 := hb.cell 1
  have b2 := hb.cell 2
  have b3 := hb.cell 3
  have b4 := hb.cell 4
  have b5 := hb.cell 5
  have b6 := hb.cell 6
  clear h hb
  go_enter Tryz.func11, Tryz.ntmps11
  go_wp2_with (fail)
  refine (n_place HN.out a r d s).mono ?_
  rintro e w5 ⟨rfl, K5⟩
  have HK5 := hid (HK.out.chain K5)
  have bb := HB.out.kp K5 (by simp)
  have d1 := bb.cell 1
  have d4 := bb.cell 4
  have d5 := bb.cell 5
  have d6 := bb.cell 6
  clear K5 bb
  go_wp2_with (fail)
  refine (u_place _ a r d s).mono ?_
  rintro e w6 ⟨rfl, K6⟩
  have HK6 := hid (HK5.out.chain K6)
  clear K6
  go_wp2
  go_ret
  exact ⟨rfl, HK6.out⟩
set_option maxRecDepth 100000 in
set_option maxHeartbeats 1000000 in
theorem pn5 (h : NoH w v) (a b c r d s : Int) :
    Calls Tryz.prog 11 #[v, .pointer none, .agg #[.int .i64 5, .int .i64 a, .int .i64 b, .int .i64 c, .int .i64 r, .int .i64 d, .int .i64 s]] w fun e w' => e = .returned (.bool true) ∧ Kp [] w w' := by
  have hb := Blk.new w 35 #[.int .i64 5, .int .i64 a, .int .i64 b, .int .i64 c, .int .i64 r, .int .i64 d, .int .i64 s]
  have HK := hid (Kp.new w (.cells #[.int .i64 5, .int .i64 a, .int .i64 b, .int .i64 c, .int .i64 r, .int .i64 d, .int .i64 s] 35))
  have HN := hid (h.kp0 HK.out)
  have HB := hid hb
  have b0 := hb.cell 0
  have b1 := hb.cell 1
  have b2 := hb.cell 2
  have b3 := hb.cell 3
  have b4 := hb.cell 4
  have b5 := hb.cell 5
  have b6 := hb.cell 6
  clear h hb
  go_enter Tryz.func11, Tryz.ntmps11
  go_wp2
  generalize w.alloc (.cells #[.int .i64 5, .int .i64 a, .int .i64 b, .int .i64 c, .int .i64 r, .int .i64 d, .int .i64 s] 35) = w1 at *
  have HKD := HK.out.drewN 1
  have ND := HN.out.kp0 (Kp.draw w1 1)
  have BD := HB.out.kp (Kp.draw w1 1) (by simp)
  have s1 : w1.drew.cell? ⟨w.heap.size, 1, none⟩ = some (.int .i64 a) := BD.cell 1
  go_region_held3 (fun W => W.cell? ⟨w.heap.size, 1, none⟩ = some (.int .i64 a)) (go_keep)
    (first
      | (go_at_call 29; refine (n_kill (by assumption) a).mono ?_; rintro e w5 ⟨rfl, K5⟩; have N5 := NoH.kp0 (by assumption) K5; have B5 := Blk.kp (by assumption) K5 (by simp); have u1 := B5.cell 1; have KK5 := Kp.chain (by assumption : Kp [] w _) K5; clear K5)
      | (go_at_call 45; refine (u_kill _ a).mono ?_; rintro e w6 ⟨rfl, K6⟩; have N6 := NoH.kp0 (by assumption) K6; have B6 := Blk.kp (by assumption) K6 (by simp); have v1 := B6.cell 1; have KK6 := Kp.chain (by assumption : Kp [] w _) K6; clear K6))
  all_goals (
    go_wp2
    go_ret
    exact ⟨rfl, by assumption⟩)
set_option maxRecDepth 100000 in
set_option maxHeartbeats 1000000 in
theorem pn6 (h : NoH w v) (a b c r d s : Int) :
    Calls Tryz.prog 11 #[v, .pointer none, .agg #[.int .i64 6, .int .i64 a, .int .i64 b, .int .i64 c, .int .i64 r, .int .i64 d, .int .i64 s]] w fun e w' => e = .returned (.bool true) ∧ Kp [] w w' := by
  have hb := Blk.new w 35 #[.int .i64 6, .int .i64 a, .int .i64 b, .int .i64 c, .int .i64 r, .int .i64 d, .int .i64 s]
  have HK := hid (Kp.new w (.cells #[.int .i64 6, .int .i64 a, .int .i64 b, .int .i64 c, .int .i64 r, .int .i64 d, .int .i64 s] 35))
  have HN := hid (h.kp0 HK.out)
  have HB := hid hb
  have b0 := hb.cell 0
  have b1 := hb.cell 1
  have b2 := hb.cell 2
  have b3 := hb.cell 3
  have b4 := hb.cell 4
  have b5 := hb.cell 5
  have b6 := hb.cell 6
  clear h hb
  go_enter Tryz.func11, Tryz.ntmps11
  go_wp2
  generalize w.alloc (.cells #[.int .i64 6, .int .i64 a, .int .i64 b, .int .i64 c, .int .i64 r, .int .i64 d, .int .i64 s] 35) = w1 at *
  have HKD := HK.out.drewN 1
  have ND := HN.out.kp0 (Kp.draw w1 1)
  have BD := HB.out.kp (Kp.draw w1 1) (by simp)
  have s1 : w1.drew.cell? ⟨w.heap.size, 1, none⟩ = some (.int .i64 a) := BD.cell 1
  have s2 : w1.drew.cell? ⟨w.heap.size, 2, none⟩ = some (.int .i64 b) := BD.cell 2
  go_region_held3 (fun W => W.cell? ⟨w.heap.size, 1, none⟩ = some (.int .i64 a) ∧ W.cell? ⟨w.heap.size, 2, none⟩ = some (.int .i64 b)) (go_keep)
    (first
      | (go_at_call 25; refine (n_move (by assumption) a b).mono ?_; rintro e w5 ⟨rfl, K5⟩; have N5 := NoH.kp0 (by assumption) K5; have B5 := Blk.kp (by assumption) K5 (by simp); have u1 := B5.cell 1; have u2 := B5.cell 2; have KK5 := Kp.chain (by assumption : Kp [] w _) K5; clear K5)
      | (go_at_call 46; refine (u_move _ a b).mono ?_; rintro e w6 ⟨rfl, K6⟩; have N6 := NoH.kp0 (by assumption) K6; have B6 := Blk.kp (by assumption) K6 (by simp); have v1 := B6.cell 1; have v2 := B6.cell 2; have KK6 := Kp.chain (by assumption : Kp [] w _) K6; clear K6))
  all_goals (
    go_wp2
    go_ret
    exact ⟨rfl, by assumption⟩)
set_option maxRecDepth 100000 in
set_option maxHeartbeats 1000000 in
theorem pn7 (h : NoH w v) (a b c r d s : Int) :
    Calls Tryz.prog 11 #[v, .pointer none, .agg #[.int .i64 7, .int .i64 a, .int .i64 b, .int .i64 c, .int .i64 r, .int .i64 d, .int .i64 s]] w fun e w' => e = .returned (.bool true) ∧ Kp [] w w' := by
  have hb := Blk.new w 35 #[.int .i64 7, .int .i64 a, .int .i64 b, .int .i64 c, .int .i64 r, .int .i64 d, .int .i64 s]
  have HK := hid (Kp.new w (.cells #[.int .i64 7, .int .i64 a, .int .i64 b, .int .i64 c, .int .i64 r, .int .i64 d, .int .i64 s] 35))
  have HN := hid (h.kp0 HK.out)
  have HB := hid hb
  have b0 := hb.cell 0
  have b1 := hb.cell 1
  have b2 := hb.cell 2
  have b3 := hb.cell 3
  have b4 := hb.cell 4
  have b5 := hb.cell 5
  have b6 := hb.cell 6
  clear h hb
  go_enter Tryz.func11, Tryz.ntmps11
  go_wp2
  generalize w.alloc (.cells #[.int .i64 7, .int .i64 a, .int .i64 b, .int .i64 c, .int .i64 r, .int .i64 d, .int .i64 s] 35) = w1 at *
  have HKD := HK.out.drewN 1
  have ND := HN.out.kp0 (Kp.draw w1 1)
  have BD := HB.out.kp (Kp.draw w1 1) (by simp)
  have s1 : w1.drew.cell? ⟨w.heap.size, 1, none⟩ = some (.int .i64 a) := BD.cell 1
  have s2 : w1.drew.cell? ⟨w.heap.size, 2, none⟩ = some (.int .i64 b) := BD.cell 2
  have s3 : w1.drew.cell? ⟨w.heap.size, 3, none⟩ = some (.int .i64 c) := BD.cell 3
  go_region_held3 (fun W => W.cell? ⟨w.heap.size, 1, none⟩ = some (.int .i64 a) ∧ W.cell? ⟨w.heap.size, 2, none⟩ = some (.int .i64 b) ∧ W.cell? ⟨w.heap.size, 3, none⟩ = some (.int .i64 c)) (go_keep)
    (first
      | (go_at_call 47; refine (n_setref (by assumption) a b c).mono ?_; rintro e w5 ⟨rfl, K5⟩; have N5 := NoH.kp0 (by assumption) K5; have B5 := Blk.kp (by assumption) K5 (by simp); have u1 := B5.cell 1; have u2 := B5.cell 2; have u3 := B5.cell 3; have KK5 := Kp.chain (by assumption : Kp [] w _) K5; clear K5)
      | (go_at_call 48; refine (u_setref _ a b c).mono ?_; rintro e w6 ⟨rfl, K6⟩; have N6 := NoH.kp0 (by assumption) K6; have B6 := Blk.kp (by assumption) K6 (by simp); have v1 := B6.cell 1; have v2 := B6.cell 2; have v3 := B6.cell 3; have KK6 := Kp.chain (by assumption : Kp [] w _) K6; clear K6))
  all_goals (
    go_wp2
    go_ret
    exact ⟨rfl, by assumption⟩)
set_option maxRecDepth 100000 in
set_option maxHeartbeats 1000000 in
theorem pn8 (h : NoH w v) (a b c r d s : Int) :
    Calls Tryz.prog 11 #[v, .pointer none, .agg #[.int .i64 8, .int .i64 a, .int .i64 b, .int .i64 c, .int .i64 r, .int .i64 d, .int .i64 s]] w fun e w' => e = .returned (.bool true) ∧ Kp [] w w' := by
  have hb := Blk.new w 35 #[.int .i64 8, .int .i64 a, .int .i64 b, .int .i64 c, .int .i64 r, .int .i64 d, .int .i64 s]
  have HK := hid (Kp.new w (.cells #[.int .i64 8, .int .i64 a, .int .i64 b, .int .i64 c, .int .i64 r, .int .i64 d, .int .i64 s] 35))
  have HN := hid (h.kp0 HK.out)
  have HB := hid hb
  have b0 := hb.cell 0
  have b1 := hb.cell 1
  have b2 := hb.cell 2
  have b3 := hb.cell 3
  have b4 := hb.cell 4
  have b5 := hb.cell 5
  have b6 := hb.cell 6
  clear h hb
  go_enter Tryz.func11, Tryz.ntmps11
  go_wp2
  generalize w.alloc (.cells #[.int .i64 8, .int .i64 a, .int .i64 b, .int .i64 c, .int .i64 r, .int .i64 d, .int .i64 s] 35) = w1 at *
  have HKD := HK.out.drewN 1
  have ND := HN.out.kp0 (Kp.draw w1 1)
  have BD := HB.out.kp (Kp.draw w1 1) (by simp)
  have s1 : w1.drew.cell? ⟨w.heap.size, 1, none⟩ = some (.int .i64 a) := BD.cell 1
  have s2 : w1.drew.cell? ⟨w.heap.size, 2, none⟩ = some (.int .i64 b) := BD.cell 2
  have s3 : w1.drew.cell? ⟨w.heap.size, 3, none⟩ = some (.int .i64 c) := BD.cell 3
  go_region_held3 (fun W => W.cell? ⟨w.heap.size, 1, none⟩ = some (.int .i64 a) ∧ W.cell? ⟨w.heap.size, 2, none⟩ = some (.int .i64 b) ∧ W.cell? ⟨w.heap.size, 3, none⟩ = some (.int .i64 c)) (go_keep)
    (first
      | (go_at_call 49; refine (n_setdata (by assumption) a b c).mono ?_; rintro e w5 ⟨rfl, K5⟩; have N5 := NoH.kp0 (by assumption) K5; have B5 := Blk.kp (by assumption) K5 (by simp); have u1 := B5.cell 1; have u2 := B5.cell 2; have u3 := B5.cell 3; have KK5 := Kp.chain (by assumption : Kp [] w _) K5; clear K5)
      | (go_at_call 50; refine (u_setdata _ a b c).mono ?_; rintro e w6 ⟨rfl, K6⟩; have N6 := NoH.kp0 (by assumption) K6; have B6 := Blk.kp (by assumption) K6 (by simp); have v1 := B6.cell 1; have v2 := B6.cell 2; have v3 := B6.cell 3; have KK6 := Kp.chain (by assumption : Kp [] w _) K6; clear K6))
  all_goals (
    go_wp2
    go_ret
    exact ⟨rfl, by assumption⟩)
set_option maxRecDepth 100000 in
set_option maxHeartbeats 1000000 in
theorem pn9 (h : NoH w v) (a b c r d s : Int) :
    Calls Tryz.prog 11 #[v, .pointer none, .agg #[.int .i64 9, .int .i64 a, .int .i64 b, .int .i64 c, .int .i64 r, .int .i64 d, .int .i64 s]] w fun e w' => e = .returned (.bool true) ∧ Kp [] w w' := by
  have hb := Blk.new w 35 #[.int .i64 9, .int .i64 a, .int .i64 b, .int .i64 c, .int .i64 r, .int .i64 d, .int .i64 s]
  have HK := hid (Kp.new w (.cells #[.int .i64 9, .int .i64 a, .int .i64 b, .int .i64 c, .int .i64 r, .int .i64 d, .int .i64 s] 35))
  have HN := hid (h.kp0 HK.out)
  have HB := hid hb
  have b0 := hb.cell 0
  have b1 := hb.cell 1
  have b2 := hb.cell 2
  have b3 := hb.cell 3
  have b4 := hb.cell 4
  have b5 := hb.cell 5
  have b6 := hb.cell 6
  clear h hb
  go_enter Tryz.func11, Tryz.ntmps11
  go_wp2
  generalize w.alloc (.cells #[.int .i64 9, .int .i64 a, .int .i64 b, .int .i64 c, .int .i64 r, .int .i64 d, .int .i64 s] 35) = w1 at *
  have HKD := HK.out.drewN 1
  have ND := HN.out.kp0 (Kp.draw w1 1)
  have BD := HB.out.kp (Kp.draw w1 1) (by simp)
  have s1 : w1.drew.cell? ⟨w.heap.size, 1, none⟩ = some (.int .i64 a) := BD.cell 1
  have s2 : w1.drew.cell? ⟨w.heap.size, 2, none⟩ = some (.int .i64 b) := BD.cell 2
  go_region_held3 (fun W => W.cell? ⟨w.heap.size, 1, none⟩ = some (.int .i64 a) ∧ W.cell? ⟨w.heap.size, 2, none⟩ = some (.int .i64 b)) (go_keep)
    (first
      | (go_at_call 51; refine (n_poke (by assumption) a b).mono ?_; rintro e w5 ⟨rfl, K5⟩; have N5 := NoH.kp0 (by assumption) K5; have B5 := Blk.kp (by assumption) K5 (by simp); have u1 := B5.cell 1; have u2 := B5.cell 2; have KK5 := Kp.chain (by assumption : Kp [] w _) K5; clear K5)
      | (go_at_call 52; refine (u_poke _ a b).mono ?_; rintro e w6 ⟨rfl, K6⟩; have N6 := NoH.kp0 (by assumption) K6; have B6 := Blk.kp (by assumption) K6 (by simp); have v1 := B6.cell 1; have v2 := B6.cell 2; have KK6 := Kp.chain (by assumption : Kp [] w _) K6; clear K6))
  all_goals (
    go_wp2
    go_ret
    exact ⟨rfl, by assumption⟩)
set_option maxRecDepth 100000 in
set_option maxHeartbeats 1000000 in
theorem pn10 (h : NoH w v) (a b c r d s : Int) :
    Calls Tryz.prog 11 #[v, .pointer none, .agg #[.int .i64 10, .int .i64 a, .int .i64 b, .int .i64 c, .int .i64 r, .int .i64 d, .int .i64 s]] w fun e w' => e = .returned (.bool true) ∧ Kp [] w w' := by
  have hb := Blk.new w 35 #[.int .i64 10, .int .i64 a, .int .i64 b, .int .i64 c, .int .i64 r, .int .i64 d, .int .i64 s]
  have HK := hid (Kp.new w (.cells #[.int .i64 10, .int .i64 a, .int .i64 b, .int .i64 c, .int .i64 r, .int .i64 d, .int .i64 s] 35))
  have HN := hid (h.kp0 HK.out)
  have HB := hid hb
  have b0 := hb.cell 0
  have b1 := hb.cell 1
  have b2 := hb.cell 2
  have b3 := hb.cell 3
  have b4 := hb.cell 4
  have b5 := hb.cell 5
  have b6 := hb.cell 6
  clear h hb
  go_enter Tryz.func11, Tryz.ntmps11
  go_wp2
  generalize w.alloc (.cells #[.int .i64 10, .int .i64 a, .int .i64 b, .int .i64 c, .int .i64 r, .int .i64 d, .int .i64 s] 35) = w1 at *
  have HKD := HK.out.drewN 1
  have ND := HN.out.kp0 (Kp.draw w1 1)
  have BD := HB.out.kp (Kp.draw w1 1) (by simp)
  have s1 : w1.drew.cell? ⟨w.heap.size, 1, none⟩ = some (.int .i64 a) := BD.cell 1
  go_region_held3 (fun W => W.cell? ⟨w.heap.size, 1, none⟩ = some (.int .i64 a)) (go_keep)
    (first
      | (go_at_call 53; refine (n_pin (by assumption) a).mono ?_; rintro e w5 ⟨rfl, K5⟩; have N5 := NoH.kp0 (by assumption) K5; have B5 := Blk.kp (by assumption) K5 (by simp); have u1 := B5.cell 1; have KK5 := Kp.chain (by assumption : Kp [] w _) K5; clear K5)
      | (go_at_call 54; refine (u_pin _ a).mono ?_; rintro e w6 ⟨rfl, K6⟩; have N6 := NoH.kp0 (by assumption) K6; have B6 := Blk.kp (by assumption) K6 (by simp); have v1 := B6.cell 1; have KK6 := Kp.chain (by assumption : Kp [] w _) K6; clear K6))
  all_goals (
    go_wp2
    go_ret
    exact ⟨rfl, by assumption⟩)
set_option maxRecDepth 100000 in
set_option maxHeartbeats 1000000 in
theorem pn11 (h : NoH w v) (a b c r d s : Int) :
    Calls Tryz.prog 11 #[v, .pointer none, .agg #[.int .i64 11, .int .i64 a, .int .i64 b, .int .i64 c, .int .i64 r, .int .i64 d, .int .i64 s]] w fun e w' => e = .returned (.bool true) ∧ Kp [] w w' := by
  have hb := Blk.new w 35 #[.int .i64 11, .int .i64 a, .int .i64 b, .int .i64 c, .int .i64 r, .int .i64 d, .int .i64 s]
  have HK := hid (Kp.new w (.cells #[.int .i64 11, .int .i64 a, .int .i64 b, .int .i64 c, .int .i64 r, .int .i64 d, .int .i64 s] 35))
  have HN := hid (h.kp0 HK.out)
  have HB := hid hb
  have b0 := hb.cell 0
  have b1 := hb.cell 1
  have b2 := hb.cell 2
  have b3 := hb.cell 3
  have b4 := hb.cell 4
  have b5 := hb.cell 5
  have b6 := hb.cell 6
  clear h hb
  go_enter Tryz.func11, Tryz.ntmps11
  go_wp2
  generalize w.alloc (.cells #[.int .i64 11, .int .i64 a, .int .i64 b, .int .i64 c, .int .i64 r, .int .i64 d, .int .i64 s] 35) = w1 at *
  have HKD := HK.out.drewN 1
  have ND := HN.out.kp0 (Kp.draw w1 1)
  have BD := HB.out.kp (Kp.draw w1 1) (by simp)
  have s1 : w1.drew.cell? ⟨w.heap.size, 1, none⟩ = some (.int .i64 a) := BD.cell 1
  go_region_held3 (fun W => W.cell? ⟨w.heap.size, 1, none⟩ = some (.int .i64 a)) (go_keep)
    (first
      | (go_at_call 55; refine (n_unpin (by assumption) a).mono ?_; rintro e w5 ⟨rfl, K5⟩; have N5 := NoH.kp0 (by assumption) K5; have B5 := Blk.kp (by assumption) K5 (by simp); have u1 := B5.cell 1; have KK5 := Kp.chain (by assumption : Kp [] w _) K5; clear K5)
      | (go_at_call 56; refine (u_unpin _ a).mono ?_; rintro e w6 ⟨rfl, K6⟩; have N6 := NoH.kp0 (by assumption) K6; have B6 := Blk.kp (by assumption) K6 (by simp); have v1 := B6.cell 1; have KK6 := Kp.chain (by assumption : Kp [] w _) K6; clear K6))
  all_goals (
    go_wp2
    go_ret
    exact ⟨rfl, by assumption⟩)
set_option maxRecDepth 100000 in
set_option maxHeartbeats 1000000 in
theorem pn12 (h : NoH w v) (a b c r d s : Int) :
    Calls Tryz.prog 11 #[v, .pointer none, .agg #[.int .i64 12, .int .i64 a, .int .i64 b, .int .i64 c, .int .i64 r, .int .i64 d, .int .i64 s]] w fun e w' => e = .returned (.bool true) ∧ Kp [] w w' := by
  have hb := Blk.new w 35 #[.int .i64 12, .int .i64 a, .int .i64 b, .int .i64 c, .int .i64 r, .int .i64 d, .int .i64 s]
  have HK := hid (Kp.new w (.cells #[.int .i64 12, .int .i64 a, .int .i64 b, .int .i64 c, .int .i64 r, .int .i64 d, .int .i64 s] 35))
  have HN := hid (h.kp0 HK.out)
  have HB := hid hb
  have b0 := hb.cell 0
  have b1 := hb.cell 1
  have b2 := hb.cell 2
  have b3 := hb.cell 3
  have b4 := hb.cell 4
  have b5 := hb.cell 5
  have b6 := hb.cell 6
  clear h hb
  go_enter Tryz.func11, Tryz.ntmps11
  go_wp2_with (fail)
  refine (n_forget HN.out).mono ?_
  rintro e w5 ⟨rfl, K5⟩
  have HK5 := hid (HK.out.chain K5)
  clear K5
  go_wp2_with (fail)
  refine (u_forget _).mono ?_
  rintro e w6 ⟨rfl, K6⟩
  have HK6 := hid (HK5.out.chain K6)
  clear K6
  go_wp2
  go_ret
  exact ⟨rfl, HK6.out⟩
set_option maxRecDepth 100000 in
set_option maxHeartbeats 1000000 in
theorem pn_other (h : NoH w v) (k a b c r d s : Int) (e0 : k ≠ 0) (e1 : k ≠ 1) (e2 : k ≠ 2) (e3 : k ≠ 3) (e4 : k ≠ 4) (e5 : k ≠ 5) (e6 : k ≠ 6) (e7 : k ≠ 7) (e8 : k ≠ 8) (e9 : k ≠ 9) (e10 : k ≠ 10) (e11 : k ≠ 11) (e12 : k ≠ 12) :
    Calls Tryz.prog 11 #[v, .pointer none, .agg #[.int .i64 k, .int .i64 a, .int .i64 b, .int .i64 c, .int .i64 r, .int .i64 d, .int .i64 s]] w fun e w' => e = .returned (.bool true) ∧ Kp [] w w' := by
  have z0 : (k == 0) = false := beq_eq_false_iff_ne.2 e0
  have z1 : (k == 1) = false := beq_eq_false_iff_ne.2 e1
  have z2 : (k == 2) = false := beq_eq_false_iff_ne.2 e2
  have z3 : (k == 3) = false := beq_eq_false_iff_ne.2 e3
  have z4 : (k == 4) = false := beq_eq_false_iff_ne.2 e4
  have z5 : (k == 5) = false := beq_eq_false_iff_ne.2 e5
  have z6 : (k == 6) = false := beq_eq_false_iff_ne.2 e6
  have z7 : (k == 7) = false := beq_eq_false_iff_ne.2 e7
  have z8 : (k == 8) = false := beq_eq_false_iff_ne.2 e8
  have z9 : (k == 9) = false := beq_eq_false_iff_ne.2 e9
  have z10 : (k == 10) = false := beq_eq_false_iff_ne.2 e10
  have z11 : (k == 11) = false := beq_eq_false_iff_ne.2 e11
  have z12 : (k == 12) = false := beq_eq_false_iff_ne.2 e12
  have hb := Blk.new w 35 #[.int .i64 k, .int .i64 a, .int .i64 b, .int .i64 c, .int .i64 r, .int .i64 d, .int .i64 s]
  have HK := hid (Kp.new w (.cells #[.int .i64 k, .int .i64 a, .int .i64 b, .int .i64 c, .int .i64 r, .int .i64 d, .int .i64 s] 35))
  have HN := hid (h.kp0 HK.out)
  have HB := hid hb
  have b0 := hb.cell 0
  have b1 := hb.cell 1
  have b2 := hb.cell 2
  have b3 := hb.cell 3
  have b4 := hb.cell 4
  have b5 := hb.cell 5
  have b6 := hb.cell 6
  clear h hb
  go_enter Tryz.func11, Tryz.ntmps11
  clear e0 e1 e2 e3 e4 e5 e6 e7 e8 e9 e10 e11 e12
  go_wp2
  go_ret
  exact ⟨rfl, HK.out⟩
theorem play_none (h : NoH w v) (k a b c r d s : Int) :
    Calls Tryz.prog 11 #[v, .pointer none, .agg #[.int .i64 k, .int .i64 a, .int .i64 b, .int .i64 c, .int .i64 r, .int .i64 d, .int .i64 s]] w fun e w' => e = .returned (.bool true) ∧ Kp [] w w' := by
  by_cases h0 : k = 0
  · subst h0; exact pn0 h a b c r d s
  by_cases h1 : k = 1
  · subst h1; exact pn1 h a b c r d s
  by_cases h2 : k = 2
  · subst h2; exact pn2 h a b c r d s
  by_cases h3 : k = 3
  · subst h3; exact pn3 h a b c r d s
  by_cases h4 : k = 4
  · subst h4; exact pn4 h a b c r d s
  by_cases h5 : k = 5
  · subst h5; exact pn5 h a b c r d s
  by_cases h6 : k = 6
  · subst h6; exact pn6 h a b c r d s
  by_cases h7 : k = 7
  · subst h7; exact pn7 h a b c r d s
  by_cases h8 : k = 8
  · subst h8; exact pn8 h a b c r d s
  by_cases h9 : k = 9
  · subst h9; exact pn9 h a b c r d s
  by_cases h10 : k = 10
  · subst h10; exact pn10 h a b c r d s
  by_cases h11 : k = 11
  · subst h11; exact pn11 h a b c r d s
  by_cases h12 : k = 12
  · subst h12; exact pn12 h a b c r d s
  exact pn_other h k a b c r d s h0 h1 h2 h3 h4 h5 h6 h7 h8 h9 h10 h11 h12
end
end Go.Proofs.YtkhemendnoeciaaGreat
