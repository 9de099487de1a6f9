/-
  A heap that nobody made: the contracts of package heap's and the document's functions. Conditions: those that stand in each theorem.
-/
import Derived.Test.YtkhemendnoeciaaGreatU
namespace Go.Proofs.YtkhemendnoeciaaGreat
set_option linter.unusedVariables false
set_option linter.unusedSimpArgs false
open Go.RowKit Go.Deep Go.Maps
attribute [local go_sem] Oper.semAt_some

/-- A pointer to no heap, or to one that nobody made. -/
def NoH (w : World) (v : Value) : Prop := v = .pointer none ∨ ∃ g, v = .pointer (some ⟨g, 0, none⟩) ∧ w.cell? ⟨g, 0, none⟩ = some (.slice none 0 0)
section
variable {w w' : World} {v : Value}
theorem NoH.kp0 (h : NoH w v) (k : Kp [] w w') : NoH w' v := by
  rcases h with h | ⟨g, h, c⟩
  · exact .inl h
  · exact .inr ⟨g, h, cell_kp k c⟩
theorem n_made (h : NoH w v) : Calls Tryz.prog 33 #[v] w fun e w' => e = .returned (.bool false) ∧ Kp [] w w' := by
  rcases h with rfl | ⟨g, rfl, c⟩
  all_goals
    go_enter Tryz.func33, Tryz.ntmps33
    go_wp2
    go_ret
    exact ⟨rfl, Kp.refl [] w⟩
theorem u_made (w : World) : Calls Tryz.prog 38 #[.pointer none] w fun e w' => e = .returned (.bool false) ∧ Kp [] w w' := by
  go_enter Tryz.func38, Tryz.ntmps38
  go_wp2
  go_ret
  exact ⟨rfl, Kp.refl [] w⟩
set_option maxRecDepth 100000 in
theorem n_claim (h : NoH w v) (a b c d : Int) : Calls Tryz.prog 94 #[v, .int .i64 a, .int .i64 b, .int .i64 c, .int .i64 d] w fun e w' => e = .returned (.int .i64 5) ∧ Kp [] w w' := by
  have HB := hid h
  go_enter Tryz.func94, Tryz.ntmps94
  go_wp2_with (fail)
  refine (n_made HB.out ).mono ?_
  rintro e w1 ⟨rfl, K1⟩
  have HK := hid K1
  clear K1
  go_wp2
  go_ret
  exact ⟨rfl, HK.out⟩
set_option maxRecDepth 100000 in
theorem n_Claim (h : NoH w v) (a b : Int) : Calls Tryz.prog 22 #[v, .int .i64 a, .int .i64 b] w fun e w' => e = .returned (.int .i64 5) ∧ Kp [] w w' := by
  have HB := hid h
  go_enter Tryz.func22, Tryz.ntmps22
  go_wp2_with (fail)
  refine (n_claim HB.out a 1 b 1).mono ?_
  rintro e w1 ⟨rfl, K1⟩
  have HK := hid K1
  clear K1
  go_wp2
  go_ret
  exact ⟨rfl, HK.out⟩
set_option maxRecDepth 100000 in
theorem n_ClaimLarge (h : NoH w v) (a b c : Int) : Calls Tryz.prog 28 #[v, .int .i64 a, .int .i64 b, .int .i64 c] w fun e w' => e = .returned (.int .i64 5) ∧ Kp [] w w' := by
  have HB := hid h
  go_enter Tryz.func28, Tryz.ntmps28
  go_wp2_with (fail)
  refine (n_claim HB.out a b c 2).mono ?_
  rintro e w1 ⟨rfl, K1⟩
  have HK := hid K1
  clear K1
  go_wp2
  go_ret
  exact ⟨rfl, HK.out⟩
set_option maxRecDepth 100000 in
theorem n_release (h : NoH w v) (a : Int) : Calls Tryz.prog 30 #[v, .int .i64 a] w fun e w' => e = .returned (.int .i64 5) ∧ Kp [] w w' := by
  have HB := hid h
  go_enter Tryz.func30, Tryz.ntmps30
  go_wp2_with (fail)
  refine (n_made HB.out ).mono ?_
  rintro e w1 ⟨rfl, K1⟩
  have HK := hid K1
  clear K1
  go_wp2
  go_ret
  exact ⟨rfl, HK.out⟩
set_option maxRecDepth 100000 in
theorem n_retag (h : NoH w v) (a b : Int) : Calls Tryz.prog 42 #[v, .int .i64 a, .int .i64 b] w fun e w' => e = .returned (.int .i64 5) ∧ Kp [] w w' := by
  have HB := hid h
  go_enter Tryz.func42, Tryz.ntmps42
  go_wp2_with (fail)
  refine (n_made HB.out ).mono ?_
  rintro e w1 ⟨rfl, K1⟩
  have HK := hid K1
  clear K1
  go_wp2
  go_ret
  exact ⟨rfl, HK.out⟩
set_option maxRecDepth 100000 in
theorem n_place (h : NoH w v) (a r d k : Int) : Calls Tryz.prog 23 #[v, .int .i64 a, .agg #[.int .i64 r, .int .i64 d, .int .i64 k]] w fun e w' => e = .returned (.tuple #[.int .i64 0, .int .i64 5]) ∧ Kp [] w w' := by
  have HB := hid (h.kp0 (Kp.new w (.cells #[.int .i64 r, .int .i64 d, .int .i64 k] 33)))
  go_enter Tryz.func23, Tryz.ntmps23
  go_wp2_with (fail)
  refine (n_made HB.out ).mono ?_
  rintro e w1 ⟨rfl, K1⟩
  have HK := hid K1
  clear K1
  go_wp2
  go_ret2
  exact ⟨rfl, (Kp.new w (.cells #[.int .i64 r, .int .i64 d, .int .i64 k] 33)).chain HK.out⟩
set_option maxRecDepth 100000 in
theorem n_check (h : NoH w v) (a : Int) : Calls Tryz.prog 101 #[v, .int .i64 a] w fun e w' => e = .returned (.int .i64 5) ∧ Kp [] w w' := by
  have HB := hid h
  go_enter Tryz.func101, Tryz.ntmps101
  go_wp2_with (fail)
  refine (n_made HB.out ).mono ?_
  rintro e w1 ⟨rfl, K1⟩
  have HK := hid K1
  clear K1
  go_wp2
  go_ret
  exact ⟨rfl, HK.out⟩
set_option maxRecDepth 100000 in
theorem n_kill (h : NoH w v) (a : Int) : Calls Tryz.prog 29 #[v, .int .i64 a] w fun e w' => e = .returned (.int .i64 5) ∧ Kp [] w w' := by
  have HB := hid h
  go_enter Tryz.func29, Tryz.ntmps29
  go_wp2_with (fail)
  refine (n_check HB.out a).mono ?_
  rintro e w1 ⟨rfl, K1⟩
  have HK := hid K1
  clear K1
  go_wp2
  go_ret
  exact ⟨rfl, HK.out⟩
set_option maxRecDepth 100000 in
theorem n_move (h : NoH w v) (a b : Int) : Calls Tryz.prog 25 #[v, .int .i64 a, .int .i64 b] w fun e w' => e = .returned (.int .i64 5) ∧ Kp [] w w' := by
  have HB := hid h
  go_enter Tryz.func25, Tryz.ntmps25
  go_wp2_with (fail)
  refine (n_check HB.out a).mono ?_
  rintro e w1 ⟨rfl, K1⟩
  have HK := hid K1
  clear K1
  go_wp2
  go_ret
  exact ⟨rfl, HK.out⟩
set_option maxRecDepth 100000 in
theorem n_refw (h : NoH w v) (a b : Int) : Calls Tryz.prog 120 #[v, .int .i64 a, .int .i64 b] w fun e w' => e = .returned (.tuple #[.int .i64 0, .int .i64 5]) ∧ Kp [] w w' := by
  have HB := hid h
  go_enter Tryz.func120, Tryz.ntmps120
  go_wp2_with (fail)
  refine (n_check HB.out a).mono ?_
  rintro e w1 ⟨rfl, K1⟩
  have HK := hid K1
  clear K1
  go_wp2
  go_ret2
  exact ⟨rfl, HK.out⟩
set_option maxRecDepth 100000 in
theorem n_dataw (h : NoH w v) (a b : Int) : Calls Tryz.prog 121 #[v, .int .i64 a, .int .i64 b] w fun e w' => e = .returned (.tuple #[.int .i64 0, .int .i64 5]) ∧ Kp [] w w' := by
  have HB := hid h
  go_enter Tryz.func121, Tryz.ntmps121
  go_wp2_with (fail)
  refine (n_check HB.out a).mono ?_
  rintro e w1 ⟨rfl, K1⟩
  have HK := hid K1
  clear K1
  go_wp2
  go_ret2
  exact ⟨rfl, HK.out⟩
set_option maxRecDepth 100000 in
theorem n_setref (h : NoH w v) (a b c : Int) : Calls Tryz.prog 47 #[v, .int .i64 a, .int .i64 b, .int .i64 c] w fun e w' => e = .returned (.int .i64 5) ∧ Kp [] w w' := by
  have HB := hid h
  go_enter Tryz.func47, Tryz.ntmps47
  go_wp2_with (fail)
  refine (n_refw HB.out a b).mono ?_
  rintro e w1 ⟨rfl, K1⟩
  have HK := hid K1
  clear K1
  go_wp2
  go_ret
  exact ⟨rfl, HK.out⟩
set_option maxRecDepth 100000 in
theorem n_setdata (h : NoH w v) (a b c : Int) : Calls Tryz.prog 49 #[v, .int .i64 a, .int .i64 b, .int .i64 c] w fun e w' => e = .returned (.int .i64 5) ∧ Kp [] w w' := by
  have HB := hid h
  go_enter Tryz.func49, Tryz.ntmps49
  go_wp2_with (fail)
  refine (n_dataw HB.out a b).mono ?_
  rintro e w1 ⟨rfl, K1⟩
  have HK := hid K1
  clear K1
  go_wp2
  go_ret
  exact ⟨rfl, HK.out⟩
set_option maxRecDepth 100000 in
theorem n_poke (h : NoH w v) (a b : Int) : Calls Tryz.prog 51 #[v, .int .i64 a, .int .i64 b] w fun e w' => e = .returned (.int .i64 5) ∧ Kp [] w w' := by
  have HB := hid h
  go_enter Tryz.func51, Tryz.ntmps51
  go_wp2_with (fail)
  refine (n_made HB.out ).mono ?_
  rintro e w1 ⟨rfl, K1⟩
  have HK := hid K1
  clear K1
  go_wp2
  go_ret
  exact ⟨rfl, HK.out⟩
set_option maxRecDepth 100000 in
theorem n_setpin (h : NoH w v) (a b : Int) : Calls Tryz.prog 124 #[v, .int .i64 a, .int .i64 b] w fun e w' => e = .returned (.int .i64 5) ∧ Kp [] w w' := by
  have HB := hid h
  go_enter Tryz.func124, Tryz.ntmps124
  go_wp2_with (fail)
  refine (n_check HB.out a).mono ?_
  rintro e w1 ⟨rfl, K1⟩
  have HK := hid K1
  clear K1
  go_wp2
  go_ret
  exact ⟨rfl, HK.out⟩
set_option maxRecDepth 100000 in
theorem n_pin (h : NoH w v) (a : Int) : Calls Tryz.prog 53 #[v, .int .i64 a] w fun e w' => e = .returned (.int .i64 5) ∧ Kp [] w w' := by
  have HB := hid h
  go_enter Tryz.func53, Tryz.ntmps53
  go_wp2_with (fail)
  refine (n_setpin HB.out a 1).mono ?_
  rintro e w1 ⟨rfl, K1⟩
  have HK := hid K1
  clear K1
  go_wp2
  go_ret
  exact ⟨rfl, HK.out⟩
set_option maxRecDepth 100000 in
theorem n_unpin (h : NoH w v) (a : Int) : Calls Tryz.prog 55 #[v, .int .i64 a] w fun e w' => e = .returned (.int .i64 5) ∧ Kp [] w w' := by
  have HB := hid h
  go_enter Tryz.func55, Tryz.ntmps55
  go_wp2_with (fail)
  refine (n_setpin HB.out a 0).mono ?_
  rintro e w1 ⟨rfl, K1⟩
  have HK := hid K1
  clear K1
  go_wp2
  go_ret
  exact ⟨rfl, HK.out⟩
set_option maxRecDepth 100000 in
theorem n_forget (h : NoH w v) : Calls Tryz.prog 57 #[v] w fun e w' => e = .returned (.int .i64 0) ∧ Kp [] w w' := by
  have HB := hid h
  go_enter Tryz.func57, Tryz.ntmps57
  go_wp2_with (fail)
  refine (n_made HB.out ).mono ?_
  rintro e w1 ⟨rfl, K1⟩
  have HK := hid K1
  clear K1
  go_wp2
  go_ret
  exact ⟨rfl, HK.out⟩
set_option maxRecDepth 100000 in
theorem n_word (h : NoH w v) (a : Int) : Calls Tryz.prog 24 #[v, .int .i64 a] w fun e w' => e = .returned (.tuple #[.int .i64 0, .int .i64 5]) ∧ Kp [] w w' := by
  have HB := hid h
  go_enter Tryz.func24, Tryz.ntmps24
  go_wp2_with (fail)
  refine (n_made HB.out ).mono ?_
  rintro e w1 ⟨rfl, K1⟩
  have HK := hid K1
  clear K1
  go_wp2
  go_ret2
  exact ⟨rfl, HK.out⟩
set_option maxRecDepth 100000 in
theorem n_has (h : NoH w v) (a : Int) : Calls Tryz.prog 73 #[v, .int .i64 a] w fun e w' => e = .returned (.bool false) ∧ Kp [] w w' := by
  have HB := hid h
  go_enter Tryz.func73, Tryz.ntmps73
  go_wp2_with (fail)
  refine (n_made HB.out ).mono ?_
  rintro e w1 ⟨rfl, K1⟩
  have HK := hid K1
  clear K1
  go_wp2
  go_ret
  exact ⟨rfl, HK.out⟩
set_option maxRecDepth 100000 in
theorem n_pinned (h : NoH w v) (a : Int) : Calls Tryz.prog 75 #[v, .int .i64 a] w fun e w' => e = .returned (.bool false) ∧ Kp [] w w' := by
  have HB := hid h
  go_enter Tryz.func75, Tryz.ntmps75
  go_wp2_with (fail)
  refine (n_has HB.out a).mono ?_
  rintro e w1 ⟨rfl, K1⟩
  have HK := hid K1
  clear K1
  go_wp2
  go_ret
  exact ⟨rfl, HK.out⟩
set_option maxRecDepth 100000 in
theorem n_find (h : NoH w v) (a : Int) : Calls Tryz.prog 77 #[v, .int .i64 a] w fun e w' => e = .returned (.tuple #[.int .i64 0, .int .i64 5]) ∧ Kp [] w w' := by
  have HB := hid h
  go_enter Tryz.func77, Tryz.ntmps77
  go_wp2_with (fail)
  refine (n_made HB.out ).mono ?_
  rintro e w1 ⟨rfl, K1⟩
  have HK := hid K1
  clear K1
  go_wp2
  go_ret2
  exact ⟨rfl, HK.out⟩
set_option maxRecDepth 100000 in
theorem n_forward (h : NoH w v) (a : Int) : Calls Tryz.prog 26 #[v, .int .i64 a] w fun e w' => e = .returned (.tuple #[.int .i64 0, .int .i64 5]) ∧ Kp [] w w' := by
  have HB := hid h
  go_enter Tryz.func26, Tryz.ntmps26
  go_wp2_with (fail)
  refine (n_made HB.out ).mono ?_
  rintro e w1 ⟨rfl, K1⟩
  have HK := hid K1
  clear K1
  go_wp2
  go_ret2
  exact ⟨rfl, HK.out⟩
set_option maxRecDepth 100000 in
theorem n_ident (h : NoH w v) (a : Int) : Calls Tryz.prog 80 #[v, .int .i64 a] w fun e w' => e = .returned (.tuple #[.int .i64 0, .int .i64 5]) ∧ Kp [] w w' := by
  have HB := hid h
  go_enter Tryz.func80, Tryz.ntmps80
  go_wp2_with (fail)
  refine (n_check HB.out a).mono ?_
  rintro e w1 ⟨rfl, K1⟩
  have HK := hid K1
  clear K1
  go_wp2
  go_ret2
  exact ⟨rfl, HK.out⟩
set_option maxRecDepth 100000 in
theorem n_shape (h : NoH w v) (a : Int) : Calls Tryz.prog 82 #[v, .int .i64 a] w fun e w' => e = .returned (.tuple #[.agg #[.int .i64 0, .int .i64 0, .int .i64 0], .int .i64 5]) ∧ Kp [] w w' := by
  have K0 := hid (Kp.new w (.cells #[.int .i64 0, .int .i64 0, .int .i64 0] 33))
  have B0 := hid (Blk.new w 33 #[.int .i64 0, .int .i64 0, .int .i64 0])
  have HB := hid (h.kp0 K0.out)
  clear h
  go_enter Tryz.func82, Tryz.ntmps82
  go_wp2_with (fail)
  refine (n_check HB.out a).mono ?_
  rintro e w1 ⟨rfl, K1⟩
  have HK := hid (K0.out.chain K1)
  have B1 := B0.out.kp K1 (by simp)
  have c0 := B1.cell 0
  have c1 := B1.cell 1
  have c2 := B1.cell 2
  have f0 := B1.frozen 0
  have f1 := B1.frozen 1
  have f2 := B1.frozen 2
  have HB1 := hid B1
  clear K1 B1
  go_wp2
  have hB9 := ((HB1.out.set_ 0 (.int .i64 0)).set_ 1 (.int .i64 0)).set_ 2 (.int .i64 0)
  have hK9 : Kp [] w (((w1.setCell ⟨w.heap.size, 0, none⟩ (.int .i64 0)).setCell ⟨w.heap.size, 1, none⟩ (.int .i64 0)).setCell ⟨w.heap.size, 2, none⟩ (.int .i64 0)) :=
    (((HK.out.trans (Kp.cell _ ⟨w.heap.size, 0, none⟩ _) (U := []) (by simp) (by simp)).trans (Kp.cell _ ⟨w.heap.size, 1, none⟩ _) (U := []) (by simp) (by simp)).trans (Kp.cell _ ⟨w.heap.size, 2, none⟩ _) (U := []) (by simp) (by simp))
  generalize (((w1.setCell ⟨w.heap.size, 0, none⟩ (.int .i64 0)).setCell ⟨w.heap.size, 1, none⟩ (.int .i64 0)).setCell ⟨w.heap.size, 2, none⟩ (.int .i64 0)) = W9 at hB9 hK9 ⊢
  have q0 : W9.cell? ⟨w.heap.size, 0, none⟩ = some (.int .i64 0) := hB9.cell 0
  have q1 : W9.cell? ⟨w.heap.size, 1, none⟩ = some (.int .i64 0) := hB9.cell 1
  have q2 : W9.cell? ⟨w.heap.size, 2, none⟩ = some (.int .i64 0) := hB9.cell 2
  refine bodyPost_ret (v := .tuple #[.agg #[.int .i64 0, .int .i64 0, .int .i64 0], .int .i64 5]) ?_ rfl ⟨rfl, hK9⟩
  simp [results, Tryz.results82, q0, q1, q2, go_sem]
set_option maxRecDepth 100000 in
theorem n_ref (h : NoH w v) (a b : Int) : Calls Tryz.prog 84 #[v, .int .i64 a, .int .i64 b] w fun e w' => e = .returned (.tuple #[.int .i64 0, .int .i64 5]) ∧ Kp [] w w' := by
  have HB := hid h
  go_enter Tryz.func84, Tryz.ntmps84
  go_wp2_with (fail)
  refine (n_refw HB.out a b).mono ?_
  rintro e w1 ⟨rfl, K1⟩
  have HK := hid K1
  clear K1
  go_wp2
  go_ret2
  exact ⟨rfl, HK.out⟩
set_option maxRecDepth 100000 in
theorem n_data (h : NoH w v) (a b : Int) : Calls Tryz.prog 86 #[v, .int .i64 a, .int .i64 b] w fun e w' => e = .returned (.tuple #[.int .i64 0, .int .i64 5]) ∧ Kp [] w w' := by
  have HB := hid h
  go_enter Tryz.func86, Tryz.ntmps86
  go_wp2_with (fail)
  refine (n_dataw HB.out a b).mono ?_
  rintro e w1 ⟨rfl, K1⟩
  have HK := hid K1
  clear K1
  go_wp2
  go_ret2
  exact ⟨rfl, HK.out⟩
set_option maxRecDepth 100000 in
theorem n_state (h : NoH w v) (a : Int) : Calls Tryz.prog 14 #[v, .int .i64 a] w fun e w' => e = .returned (.int .i64 (-1)) ∧ Kp [] w w' := by
  have HB := hid h
  go_enter Tryz.func14, Tryz.ntmps14
  go_wp2_with (fail)
  refine (n_made HB.out ).mono ?_
  rintro e w1 ⟨rfl, K1⟩
  have HK := hid K1
  clear K1
  go_wp2
  go_ret
  exact ⟨rfl, HK.out⟩
set_option maxRecDepth 100000 in
theorem u_Claim (w : World) (a b : Int) : Calls Tryz.prog 39 #[.pointer none, .int .i64 a, .int .i64 b] w fun e w' => e = .returned (.int .i64 5) ∧ Kp [] w w' := by
  go_enter Tryz.func39, Tryz.ntmps39
  go_wp2_with (fail)
  refine (u_made _ ).mono ?_
  rintro e w1 ⟨rfl, K1⟩
  have HK := hid K1
  clear K1
  go_wp2
  go_ret
  exact ⟨rfl, HK.out⟩
set_option maxRecDepth 100000 in
theorem u_ClaimLarge (w : World) (a b c : Int) : Calls Tryz.prog 40 #[.pointer none, .int .i64 a, .int .i64 b, .int .i64 c] w fun e w' => e = .returned (.int .i64 5) ∧ Kp [] w w' := by
  go_enter Tryz.func40, Tryz.ntmps40
  go_wp2_with (fail)
  refine (u_made _ ).mono ?_
  rintro e w1 ⟨rfl, K1⟩
  have HK := hid K1
  clear K1
  go_wp2
  go_ret
  exact ⟨rfl, HK.out⟩
set_option maxRecDepth 100000 in
theorem u_release (w : World) (a : Int) : Calls Tryz.prog 41 #[.pointer none, .int .i64 a] w fun e w' => e = .returned (.int .i64 5) ∧ Kp [] w w' := by
  go_enter Tryz.func41, Tryz.ntmps41
  go_wp2_with (fail)
  refine (u_made _ ).mono ?_
  rintro e w1 ⟨rfl, K1⟩
  have HK := hid K1
  clear K1
  go_wp2
  go_ret
  exact ⟨rfl, HK.out⟩
set_option maxRecDepth 100000 in
theorem u_retag (w : World) (a b : Int) : Calls Tryz.prog 43 #[.pointer none, .int .i64 a, .int .i64 b] w fun e w' => e = .returned (.int .i64 5) ∧ Kp [] w w' := by
  go_enter Tryz.func43, Tryz.ntmps43
  go_wp2_with (fail)
  refine (u_made _ ).mono ?_
  rintro e w1 ⟨rfl, K1⟩
  have HK := hid K1
  clear K1
  go_wp2
  go_ret
  exact ⟨rfl, HK.out⟩
set_option maxRecDepth 100000 in
theorem u_place (w : World) (a r d k : Int) : Calls Tryz.prog 44 #[.pointer none, .int .i64 a, .agg #[.int .i64 r, .int .i64 d, .int .i64 k]] w fun e w' => e = .returned (.tuple #[.int .i64 0, .int .i64 5]) ∧ Kp [] w w' := by
  go_enter Tryz.func44, Tryz.ntmps44
  go_wp2_with (fail)
  refine (u_made _ ).mono ?_
  rintro e w1 ⟨rfl, K1⟩
  have HK := hid K1
  clear K1
  go_wp2
  go_ret2
  exact ⟨rfl, (Kp.new w (.cells #[.int .i64 r, .int .i64 d, .int .i64 k] 33)).chain HK.out⟩
set_option maxRecDepth 100000 in
theorem u_index (w : World) (a : Int) : Calls Tryz.prog 119 #[.pointer none, .int .i64 a] w fun e w' => e = .returned (.int .i64 (-1)) ∧ Kp [] w w' := by
  go_enter Tryz.func119, Tryz.ntmps119
  go_wp2_with (fail)
  refine (u_made _ ).mono ?_
  rintro e w1 ⟨rfl, K1⟩
  have HK := hid K1
  clear K1
  go_wp2
  go_ret
  exact ⟨rfl, HK.out⟩
set_option maxRecDepth 100000 in
theorem u_lacks (w : World) (a : Int) : Calls Tryz.prog 117 #[.pointer none, .int .i64 a] w fun e w' => e = .returned (.int .i64 5) ∧ Kp [] w w' := by
  go_enter Tryz.func117, Tryz.ntmps117
  go_wp2_with (fail)
  refine (u_made _).mono ?_
  rintro e w1 ⟨rfl, K1⟩
  have HK := hid K1
  clear K1
  go_wp2
  go_ret
  exact ⟨rfl, HK.out⟩
set_option maxRecDepth 100000 in
theorem u_kill (w : World) (a : Int) : Calls Tryz.prog 45 #[.pointer none, .int .i64 a] w fun e w' => e = .returned (.int .i64 5) ∧ Kp [] w w' := by
  go_enter Tryz.func45, Tryz.ntmps45
  go_wp2_with (fail)
  refine (u_lacks _ a).mono ?_
  rintro e w1 ⟨rfl, K1⟩
  have HK := hid K1
  clear K1
  go_wp2
  go_ret
  exact ⟨rfl, HK.out⟩
set_option maxRecDepth 100000 in
theorem u_move (w : World) (a b : Int) : Calls Tryz.prog 46 #[.pointer none, .int .i64 a, .int .i64 b] w fun e w' => e = .returned (.int .i64 5) ∧ Kp [] w w' := by
  go_enter Tryz.func46, Tryz.ntmps46
  go_wp2_with (fail)
  refine (u_lacks _ a).mono ?_
  rintro e w1 ⟨rfl, K1⟩
  have HK := hid K1
  clear K1
  go_wp2
  go_ret
  exact ⟨rfl, HK.out⟩
set_option maxRecDepth 100000 in
theorem u_setref (w : World) (a b c : Int) : Calls Tryz.prog 48 #[.pointer none, .int .i64 a, .int .i64 b, .int .i64 c] w fun e w' => e = .returned (.int .i64 5) ∧ Kp [] w w' := by
  go_enter Tryz.func48, Tryz.ntmps48
  go_wp2_with (fail)
  refine (u_lacks _ a).mono ?_
  rintro e w1 ⟨rfl, K1⟩
  have HK := hid K1
  clear K1
  go_wp2
  go_ret
  exact ⟨rfl, HK.out⟩
set_option maxRecDepth 100000 in
theorem u_setdata (w : World) (a b c : Int) : Calls Tryz.prog 50 #[.pointer none, .int .i64 a, .int .i64 b, .int .i64 c] w fun e w' => e = .returned (.int .i64 5) ∧ Kp [] w w' := by
  go_enter Tryz.func50, Tryz.ntmps50
  go_wp2_with (fail)
  refine (u_lacks _ a).mono ?_
  rintro e w1 ⟨rfl, K1⟩
  have HK := hid K1
  clear K1
  go_wp2
  go_ret
  exact ⟨rfl, HK.out⟩
set_option maxRecDepth 100000 in
theorem u_poke (w : World) (a b : Int) : Calls Tryz.prog 52 #[.pointer none, .int .i64 a, .int .i64 b] w fun e w' => e = .returned (.int .i64 5) ∧ Kp [] w w' := by
  go_enter Tryz.func52, Tryz.ntmps52
  go_wp2_with (fail)
  refine (u_made _ ).mono ?_
  rintro e w1 ⟨rfl, K1⟩
  have HK := hid K1
  clear K1
  go_wp2
  go_ret
  exact ⟨rfl, HK.out⟩
set_option maxRecDepth 100000 in
theorem u_pinb (w : World) (a : Int) (b : Bool) : Calls Tryz.prog 125 #[.pointer none, .int .i64 a, .bool b] w fun e w' => e = .returned (.int .i64 5) ∧ Kp [] w w' := by
  go_enter Tryz.func125, Tryz.ntmps125
  go_wp2_with (fail)
  refine (u_lacks _ a).mono ?_
  rintro e w1 ⟨rfl, K1⟩
  have HK := hid K1
  clear K1
  go_wp2
  go_ret
  exact ⟨rfl, HK.out⟩
set_option maxRecDepth 100000 in
theorem u_pin (w : World) (a : Int) : Calls Tryz.prog 54 #[.pointer none, .int .i64 a] w fun e w' => e = .returned (.int .i64 5) ∧ Kp [] w w' := by
  go_enter Tryz.func54, Tryz.ntmps54
  go_wp2_with (fail)
  refine (u_pinb _ a true).mono ?_
  rintro e w1 ⟨rfl, K1⟩
  have HK := hid K1
  clear K1
  go_wp2
  go_ret
  exact ⟨rfl, HK.out⟩
set_option maxRecDepth 100000 in
theorem u_unpin (w : World) (a : Int) : Calls Tryz.prog 56 #[.pointer none, .int .i64 a] w fun e w' => e = .returned (.int .i64 5) ∧ Kp [] w w' := by
  go_enter Tryz.func56, Tryz.ntmps56
  go_wp2_with (fail)
  refine (u_pinb _ a false).mono ?_
  rintro e w1 ⟨rfl, K1⟩
  have HK := hid K1
  clear K1
  go_wp2
  go_ret
  exact ⟨rfl, HK.out⟩
set_option maxRecDepth 100000 in
theorem u_forget (w : World) : Calls Tryz.prog 58 #[.pointer none] w fun e w' => e = .returned (.int .i64 0) ∧ Kp [] w w' := by
  go_enter Tryz.func58, Tryz.ntmps58
  go_wp2_with (fail)
  refine (u_made _ ).mono ?_
  rintro e w1 ⟨rfl, K1⟩
  have HK := hid K1
  clear K1
  go_wp2
  go_ret
  exact ⟨rfl, HK.out⟩
set_option maxRecDepth 100000 in
theorem u_word (w : World) (a : Int) : Calls Tryz.prog 72 #[.pointer none, .int .i64 a] w fun e w' => e = .returned (.tuple #[.int .i64 0, .int .i64 5]) ∧ Kp [] w w' := by
  go_enter Tryz.func72, Tryz.ntmps72
  go_wp2_with (fail)
  refine (u_made _ ).mono ?_
  rintro e w1 ⟨rfl, K1⟩
  have HK := hid K1
  clear K1
  go_wp2
  go_ret2
  exact ⟨rfl, HK.out⟩
set_option maxRecDepth 100000 in
theorem u_has (w : World) (a : Int) : Calls Tryz.prog 74 #[.pointer none, .int .i64 a] w fun e w' => e = .returned (.bool false) ∧ Kp [] w w' := by
  go_enter Tryz.func74, Tryz.ntmps74
  go_wp2_with (fail)
  refine (u_index _ a).mono ?_
  rintro e w1 ⟨rfl, K1⟩
  have HK := hid K1
  clear K1
  go_wp2
  go_ret
  exact ⟨rfl, HK.out⟩
set_option maxRecDepth 100000 in
theorem u_pinned (w : World) (a : Int) : Calls Tryz.prog 76 #[.pointer none, .int .i64 a] w fun e w' => e = .returned (.bool false) ∧ Kp [] w w' := by
  go_enter Tryz.func76, Tryz.ntmps76
  go_wp2_with (fail)
  refine (u_index _ a).mono ?_
  rintro e w1 ⟨rfl, K1⟩
  have HK := hid K1
  clear K1
  go_wp2
  go_ret
  exact ⟨rfl, HK.out⟩
set_option maxRecDepth 100000 in
theorem u_find (w : World) (a : Int) : Calls Tryz.prog 78 #[.pointer none, .int .i64 a] w fun e w' => e = .returned (.tuple #[.int .i64 0, .int .i64 5]) ∧ Kp [] w w' := by
  go_enter Tryz.func78, Tryz.ntmps78
  go_wp2_with (fail)
  refine (u_made _ ).mono ?_
  rintro e w1 ⟨rfl, K1⟩
  have HK := hid K1
  clear K1
  go_wp2
  go_ret2
  exact ⟨rfl, HK.out⟩
set_option maxRecDepth 100000 in
theorem u_forward (w : World) (a : Int) : Calls Tryz.prog 79 #[.pointer none, .int .i64 a] w fun e w' => e = .returned (.tuple #[.int .i64 0, .int .i64 5]) ∧ Kp [] w w' := by
  go_enter Tryz.func79, Tryz.ntmps79
  go_wp2_with (fail)
  refine (u_made _ ).mono ?_
  rintro e w1 ⟨rfl, K1⟩
  have HK := hid K1
  clear K1
  go_wp2
  go_ret2
  exact ⟨rfl, HK.out⟩
set_option maxRecDepth 100000 in
theorem u_ident (w : World) (a : Int) : Calls Tryz.prog 81 #[.pointer none, .int .i64 a] w fun e w' => e = .returned (.tuple #[.int .i64 0, .int .i64 5]) ∧ Kp [] w w' := by
  go_enter Tryz.func81, Tryz.ntmps81
  go_wp2_with (fail)
  refine (u_lacks _ a).mono ?_
  rintro e w1 ⟨rfl, K1⟩
  have HK := hid K1
  clear K1
  go_wp2
  go_ret2
  exact ⟨rfl, HK.out⟩
set_option maxRecDepth 100000 in
theorem u_shape (w : World) (a : Int) : Calls Tryz.prog 83 #[.pointer none, .int .i64 a] w fun e w' => e = .returned (.tuple #[.agg #[.int .i64 0, .int .i64 0, .int .i64 0], .int .i64 5]) ∧ Kp [] w w' := by
  have K0 := hid (Kp.new w (.cells #[.int .i64 0, .int .i64 0, .int .i64 0] 33))
  have B0 := hid (Blk.new w 33 #[.int .i64 0, .int .i64 0, .int .i64 0])
  go_enter Tryz.func83, Tryz.ntmps83
  go_wp2_with (fail)
  refine (u_lacks _ a).mono ?_
  rintro e w1 ⟨rfl, K1⟩
  have HK := hid (K0.out.chain K1)
  have B1 := B0.out.kp K1 (by simp)
  have c0 := B1.cell 0
  have c1 := B1.cell 1
  have c2 := B1.cell 2
  have f0 := B1.frozen 0
  have f1 := B1.frozen 1
  have f2 := B1.frozen 2
  have HB1 := hid B1
  clear K1 B1
  go_wp2
  have hB9 := ((HB1.out.set_ 0 (.int .i64 0)).set_ 1 (.int .i64 0)).set_ 2 (.int .i64 0)
  have hK9 : Kp [] w (((w1.setCell ⟨w.heap.size, 0, none⟩ (.int .i64 0)).setCell ⟨w.heap.size, 1, none⟩ (.int .i64 0)).setCell ⟨w.heap.size, 2, none⟩ (.int .i64 0)) :=
    (((HK.out.trans (Kp.cell _ ⟨w.heap.size, 0, none⟩ _) (U := []) (by simp) (by simp)).trans (Kp.cell _ ⟨w.heap.size, 1, none⟩ _) (U := []) (by simp) (by simp)).trans (Kp.cell _ ⟨w.heap.size, 2, none⟩ _) (U := []) (by simp) (by simp))
  generalize (((w1.setCell ⟨w.heap.size, 0, none⟩ (.int .i64 0)).setCell ⟨w.heap.size, 1, none⟩ (.int .i64 0)).setCell ⟨w.heap.size, 2, none⟩ (.int .i64 0)) = W9 at hB9 hK9 ⊢
  have q0 : W9.cell? ⟨w.heap.size, 0, none⟩ = some (.int .i64 0) := hB9.cell 0
  have q1 : W9.cell? ⟨w.heap.size, 1, none⟩ = some (.int .i64 0) := hB9.cell 1
  have q2 : W9.cell? ⟨w.heap.size, 2, none⟩ = some (.int .i64 0) := hB9.cell 2
  refine bodyPost_ret (v := .tuple #[.agg #[.int .i64 0, .int .i64 0, .int .i64 0], .int .i64 5]) ?_ rfl ⟨rfl, hK9⟩
  simp [results, Tryz.results83, q0, q1, q2, go_sem]
set_option maxRecDepth 100000 in
theorem u_ref (w : World) (a b : Int) : Calls Tryz.prog 85 #[.pointer none, .int .i64 a, .int .i64 b] w fun e w' => e = .returned (.tuple #[.int .i64 0, .int .i64 5]) ∧ Kp [] w w' := by
  go_enter Tryz.func85, Tryz.ntmps85
  go_wp2_with (fail)
  refine (u_lacks _ a).mono ?_
  rintro e w1 ⟨rfl, K1⟩
  have HK := hid K1
  clear K1
  go_wp2
  go_ret2
  exact ⟨rfl, HK.out⟩
set_option maxRecDepth 100000 in
theorem u_data (w : World) (a b : Int) : Calls Tryz.prog 87 #[.pointer none, .int .i64 a, .int .i64 b] w fun e w' => e = .returned (.tuple #[.int .i64 0, .int .i64 5]) ∧ Kp [] w w' := by
  go_enter Tryz.func87, Tryz.ntmps87
  go_wp2_with (fail)
  refine (u_lacks _ a).mono ?_
  rintro e w1 ⟨rfl, K1⟩
  have HK := hid K1
  clear K1
  go_wp2
  go_ret2
  exact ⟨rfl, HK.out⟩
end
end Go.Proofs.YtkhemendnoeciaaGreat
