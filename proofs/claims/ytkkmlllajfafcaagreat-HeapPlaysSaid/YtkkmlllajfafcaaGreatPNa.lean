/-
  A heap that nobody made: the contracts of package heap's and the document's functions. Conditions: those that stand in each theorem.
-/
import Derived.Test.YtkkmlllajfafcaaGreatPU
namespace Go.Proofs.YtkkmlllajfafcaaGreat
set_option linter.unusedVariables false
set_option linter.unusedSimpArgs false
open Go.RowKit Go.Deep Go.Maps
attribute [local go_sem] Oper.semAt_some

/-- A pointer to no heap, or to one that nobody made. -/
def NoH (w : World) (v : Value) : Prop := v = .pointer none ∨ ∃ g, v = .pointer (some ⟨g, 0, none⟩) ∧ w.cell? ⟨g, 0, none⟩ = some (.slice none 0 0)
section
variable {w w' : World} {v : Value}
theorem NoH.kp0 (h : NoH w v) (k : Kp [] w w') : NoH w' v := by
  rcases h with h | ⟨g, h, c⟩
  · exact .inl h
  · exact .inr ⟨g, h, cell_kp k c⟩
theorem n_made (h : NoH w v) : Calls Tryz.prog 55 #[v] w fun e w' => e = .returned (.bool false) ∧ Kp [] w w' := by
  rcases h with rfl | ⟨g, rfl, c⟩
  all_goals
    go_enter Tryz.func55, Tryz.ntmps55
    go_wp2
    go_ret
    exact ⟨rfl, Kp.refl [] w⟩
theorem u_made (w : World) : Calls Tryz.prog 60 #[.pointer none] w fun e w' => e = .returned (.bool false) ∧ Kp [] w w' := by
  go_enter Tryz.func60, Tryz.ntmps60
  go_wp2
  go_ret
  exact ⟨rfl, Kp.refl [] w⟩
set_option maxRecDepth 100000 in
theorem n_claim (h : NoH w v) (a b c d : Int) : Calls Tryz.prog 117 #[v, .int .i64 a, .int .i64 b, .int .i64 c, .int .i64 d] w fun e w' => e = .returned (.int .i64 5) ∧ Kp [] w w' := by
  have HB := hid h
  go_enter Tryz.func117, Tryz.ntmps117
  go_wp2_with (fail)
  refine (n_made HB.out ).mono ?_
  rintro e w1 ⟨rfl, K1⟩
  have HK := hid K1
  clear K1
  go_wp2
  go_ret
  exact ⟨rfl, HK.out⟩
set_option maxRecDepth 100000 in
theorem n_Claim (h : NoH w v) (a b : Int) : Calls Tryz.prog 43 #[v, .int .i64 a, .int .i64 b] w fun e w' => e = .returned (.int .i64 5) ∧ Kp [] w w' := by
  have HB := hid h
  go_enter Tryz.func43, Tryz.ntmps43
  go_wp2_with (fail)
  refine (n_claim HB.out a 1 b 1).mono ?_
  rintro e w1 ⟨rfl, K1⟩
  have HK := hid K1
  clear K1
  go_wp2
  go_ret
  exact ⟨rfl, HK.out⟩
set_option maxRecDepth 100000 in
theorem n_ClaimLarge (h : NoH w v) (a b c : Int) : Calls Tryz.prog 50 #[v, .int .i64 a, .int .i64 b, .int .i64 c] w fun e w' => e = .returned (.int .i64 5) ∧ Kp [] w w' := by
  have HB := hid h
  go_enter Tryz.func50, Tryz.ntmps50
  go_wp2_with (fail)
  refine (n_claim HB.out a b c 2).mono ?_
  rintro e w1 ⟨rfl, K1⟩
  have HK := hid K1
  clear K1
  go_wp2
  go_ret
  exact ⟨rfl, HK.out⟩
set_option maxRecDepth 100000 in
theorem n_release (h : NoH w v) (a : Int) : Calls Tryz.prog 52 #[v, .int .i64 a] w fun e w' => e = .returned (.int .i64 5) ∧ Kp [] w w' := by
  have HB := hid h
  go_enter Tryz.func52, Tryz.ntmps52
  go_wp2_with (fail)
  refine (n_made HB.out ).mono ?_
  rintro e w1 ⟨rfl, K1⟩
  have HK := hid K1
  clear K1
  go_wp2
  go_ret
  exact ⟨rfl, HK.out⟩
set_option maxRecDepth 100000 in
theorem n_retag (h : NoH w v) (a b : Int) : Calls Tryz.prog 64 #[v, .int .i64 a, .int .i64 b] w fun e w' => e = .returned (.int .i64 5) ∧ Kp [] w w' := by
  have HB := hid h
  go_enter Tryz.func64, Tryz.ntmps64
  go_wp2_with (fail)
  refine (n_made HB.out ).mono ?_
  rintro e w1 ⟨rfl, K1⟩
  have HK := hid K1
  clear K1
  go_wp2
  go_ret
  exact ⟨rfl, HK.out⟩
set_option maxRecDepth 100000 in
theorem n_place (h : NoH w v) (a r d k : Int) : Calls Tryz.prog 44 #[v, .int .i64 a, .agg #[.int .i64 r, .int .i64 d, .int .i64 k]] w fun e w' => e = .returned (.tuple #[.int .i64 0, .int .i64 5]) ∧ Kp [] w w' := by
  have HB := hid (h.kp0 (Kp.new w (.cells #[.int .i64 r, .int .i64 d, .int .i64 k] 33)))
  go_enter Tryz.func44, Tryz.ntmps44
  go_wp2_with (fail)
  refine (n_made HB.out ).mono ?_
  rintro e w1 ⟨rfl, K1⟩
  have HK := hid K1
  clear K1
  go_wp2
  go_ret2
  exact ⟨rfl, (Kp.new w (.cells #[.int .i64 r, .int .i64 d, .int .i64 k] 33)).chain HK.out⟩
set_option maxRecDepth 100000 in
theorem n_check (h : NoH w v) (a : Int) : Calls Tryz.prog 112 #[v, .int .i64 a] w fun e w' => e = .returned (.int .i64 5) ∧ Kp [] w w' := by
  have HB := hid h
  go_enter Tryz.func112, Tryz.ntmps112
  go_wp2_with (fail)
  refine (n_made HB.out ).mono ?_
  rintro e w1 ⟨rfl, K1⟩
  have HK := hid K1
  clear K1
  go_wp2
  go_ret
  exact ⟨rfl, HK.out⟩
set_option maxRecDepth 100000 in
theorem n_kill (h : NoH w v) (a : Int) : Calls Tryz.prog 51 #[v, .int .i64 a] w fun e w' => e = .returned (.int .i64 5) ∧ Kp [] w w' := by
  have HB := hid h
  go_enter Tryz.func51, Tryz.ntmps51
  go_wp2_with (fail)
  refine (n_check HB.out a).mono ?_
  rintro e w1 ⟨rfl, K1⟩
  have HK := hid K1
  clear K1
  go_wp2
  go_ret
  exact ⟨rfl, HK.out⟩
set_option maxRecDepth 100000 in
theorem n_move (h : NoH w v) (a b : Int) : Calls Tryz.prog 47 #[v, .int .i64 a, .int .i64 b] w fun e w' => e = .returned (.int .i64 5) ∧ Kp [] w w' := by
  have HB := hid h
  go_enter Tryz.func47, Tryz.ntmps47
  go_wp2_with (fail)
  refine (n_check HB.out a).mono ?_
  rintro e w1 ⟨rfl, K1⟩
  have HK := hid K1
  clear K1
  go_wp2
  go_ret
  exact ⟨rfl, HK.out⟩
set_option maxRecDepth 100000 in
theorem n_refw (h : NoH w v) (a b : Int) : Calls Tryz.prog 142 #[v, .int .i64 a, .int .i64 b] w fun e w' => e = .returned (.tuple #[.int .i64 0, .int .i64 5]) ∧ Kp [] w w' := by
  have HB := hid h
  go_enter Tryz.func142, Tryz.ntmps142
  go_wp2_with (fail)
  refine (n_check HB.out a).mono ?_
  rintro e w1 ⟨rfl, K1⟩
  have HK := hid K1
  clear K1
  go_wp2
  go_ret2
  exact ⟨rfl, HK.out⟩
set_option maxRecDepth 100000 in
theorem n_dataw (h : NoH w v) (a b : Int) : Calls Tryz.prog 145 #[v, .int .i64 a, .int .i64 b] w fun e w' => e = .returned (.tuple #[.int .i64 0, .int .i64 5]) ∧ Kp [] w w' := by
  have HB := hid h
  go_enter Tryz.func145, Tryz.ntmps145
  go_wp2_with (fail)
  refine (n_check HB.out a).mono ?_
  rintro e w1 ⟨rfl, K1⟩
  have HK := hid K1
  clear K1
  go_wp2
  go_ret2
  exact ⟨rfl, HK.out⟩
set_option maxRecDepth 100000 in
theorem n_setref (h : NoH w v) (a b c : Int) : Calls Tryz.prog 69 #[v, .int .i64 a, .int .i64 b, .int .i64 c] w fun e w' => e = .returned (.int .i64 5) ∧ Kp [] w w' := by
  have HB := hid h
  go_enter Tryz.func69, Tryz.ntmps69
  go_wp2_with (fail)
  refine (n_refw HB.out a b).mono ?_
  rintro e w1 ⟨rfl, K1⟩
  have HK := hid K1
  clear K1
  go_wp2
  go_ret
  exact ⟨rfl, HK.out⟩
set_option maxRecDepth 100000 in
theorem n_setdata (h : NoH w v) (a b c : Int) : Calls Tryz.prog 71 #[v, .int .i64 a, .int .i64 b, .int .i64 c] w fun e w' => e = .returned (.int .i64 5) ∧ Kp [] w w' := by
  have HB := hid h
  go_enter Tryz.func71, Tryz.ntmps71
  go_wp2_with (fail)
  refine (n_dataw HB.out a b).mono ?_
  rintro e w1 ⟨rfl, K1⟩
  have HK := hid K1
  clear K1
  go_wp2
  go_ret
  exact ⟨rfl, HK.out⟩
set_option maxRecDepth 100000 in
theorem n_poke (h : NoH w v) (a b : Int) : Calls Tryz.prog 73 #[v, .int .i64 a, .int .i64 b] w fun e w' => e = .returned (.int .i64 5) ∧ Kp [] w w' := by
  have HB := hid h
  go_enter Tryz.func73, Tryz.ntmps73
  go_wp2_with (fail)
  refine (n_made HB.out ).mono ?_
  rintro e w1 ⟨rfl, K1⟩
  have HK := hid K1
  clear K1
  go_wp2
  go_ret
  exact ⟨rfl, HK.out⟩
set_option maxRecDepth 100000 in
theorem n_setpin (h : NoH w v) (a b : Int) : Calls Tryz.prog 149 #[v, .int .i64 a, .int .i64 b] w fun e w' => e = .returned (.int .i64 5) ∧ Kp [] w w' := by
  have HB := hid h
  go_enter Tryz.func149, Tryz.ntmps149
  go_wp2_with (fail)
  refine (n_check HB.out a).mono ?_
  rintro e w1 ⟨rfl, K1⟩
  have HK := hid K1
  clear K1
  go_wp2
  go_ret
  exact ⟨rfl, HK.out⟩
set_option maxRecDepth 100000 in
theorem n_pin (h : NoH w v) (a : Int) : Calls Tryz.prog 75 #[v, .int .i64 a] w fun e w' => e = .returned (.int .i64 5) ∧ Kp [] w w' := by
  have HB := hid h
  go_enter Tryz.func75, Tryz.ntmps75
  go_wp2_with (fail)
  refine (n_setpin HB.out a 1).mono ?_
  rintro e w1 ⟨rfl, K1⟩
  have HK := hid K1
  clear K1
  go_wp2
  go_ret
  exact ⟨rfl, HK.out⟩
set_option maxRecDepth 100000 in
theorem n_unpin (h : NoH w v) (a : Int) : Calls Tryz.prog 77 #[v, .int .i64 a] w fun e w' => e = .returned (.int .i64 5) ∧ Kp [] w w' := by
  have HB := hid h
  go_enter Tryz.func77, Tryz.ntmps77
  go_wp2_with (fail)
  refine (n_setpin HB.out a 0).mono ?_
  rintro e w1 ⟨rfl, K1⟩
  have HK := hid K1
  clear K1
  go_wp2
  go_ret
  exact ⟨rfl, HK.out⟩
set_option maxRecDepth 100000 in
theorem n_forget (h : NoH w v) : Calls Tryz.prog 79 #[v] w fun e w' => e = .returned (.int .i64 0) ∧ Kp [] w w' := by
  have HB := hid h
  go_enter Tryz.func79, Tryz.ntmps79
  go_wp2_with (fail)
  refine (n_made HB.out ).mono ?_
  rintro e w1 ⟨rfl, K1⟩
  have HK := hid K1
  clear K1
  go_wp2
  go_ret
  exact ⟨rfl, HK.out⟩
set_option maxRecDepth 100000 in
theorem n_word (h : NoH w v) (a : Int) : Calls Tryz.prog 46 #[v, .int .i64 a] w fun e w' => e = .returned (.tuple #[.int .i64 0, .int .i64 5]) ∧ Kp [] w w' := by
  have HB := hid h
  go_enter Tryz.func46, Tryz.ntmps46
  go_wp2_with (fail)
  refine (n_made HB.out ).mono ?_
  rintro e w1 ⟨rfl, K1⟩
  have HK := hid K1
  clear K1
  go_wp2
  go_ret2
  exact ⟨rfl, HK.out⟩
set_option maxRecDepth 100000 in
theorem n_has (h : NoH w v) (a : Int) : Calls Tryz.prog 143 #[v, .int .i64 a] w fun e w' => e = .returned (.bool false) ∧ Kp [] w w' := by
  have HB := hid h
  go_enter Tryz.func143, Tryz.ntmps143
  go_wp2_with (fail)
  refine (n_made HB.out ).mono ?_
  rintro e w1 ⟨rfl, K1⟩
  have HK := hid K1
  clear K1
  go_wp2
  go_ret
  exact ⟨rfl, HK.out⟩
set_option maxRecDepth 100000 in
theorem n_pinned (h : NoH w v) (a : Int) : Calls Tryz.prog 123 #[v, .int .i64 a] w fun e w' => e = .returned (.bool false) ∧ Kp [] w w' := by
  have HB := hid h
  go_enter Tryz.func123, Tryz.ntmps123
  go_wp2_with (fail)
  refine (n_has HB.out a).mono ?_
  rintro e w1 ⟨rfl, K1⟩
  have HK := hid K1
  clear K1
  go_wp2
  go_ret
  exact ⟨rfl, HK.out⟩
set_option maxRecDepth 100000 in
theorem n_find (h : NoH w v) (a : Int) : Calls Tryz.prog 157 #[v, .int .i64 a] w fun e w' => e = .returned (.tuple #[.int .i64 0, .int .i64 5]) ∧ Kp [] w w' := by
  have HB := hid h
  go_enter Tryz.func157, Tryz.ntmps157
  go_wp2_with (fail)
  refine (n_made HB.out ).mono ?_
  rintro e w1 ⟨rfl, K1⟩
  have HK := hid K1
  clear K1
  go_wp2
  go_ret2
  exact ⟨rfl, HK.out⟩
set_option maxRecDepth 100000 in
theorem n_forward (h : NoH w v) (a : Int) : Calls Tryz.prog 48 #[v, .int .i64 a] w fun e w' => e = .returned (.tuple #[.int .i64 0, .int .i64 5]) ∧ Kp [] w w' := by
  have HB := hid h
  go_enter Tryz.func48, Tryz.ntmps48
  go_wp2_with (fail)
  refine (n_made HB.out ).mono ?_
  rintro e w1 ⟨rfl, K1⟩
  have HK := hid K1
  clear K1
  go_wp2
  go_ret2
  exact ⟨rfl, HK.out⟩
set_option maxRecDepth 100000 in
theorem n_ident (h : NoH w v) (a : Int) : Calls Tryz.prog 34 #[v, .int .i64 a] w fun e w' => e = .returned (.tuple #[.int .i64 0, .int .i64 5]) ∧ Kp [] w w' := by
  have HB := hid h
  go_enter Tryz.func34, Tryz.ntmps34
  go_wp2_with (fail)
  refine (n_check HB.out a).mono ?_
  rintro e w1 ⟨rfl, K1⟩
  have HK := hid K1
  clear K1
  go_wp2
  go_ret2
  exact ⟨rfl, HK.out⟩
set_option maxRecDepth 100000 in
theorem n_shape (h : NoH w v) (a : Int) : Calls Tryz.prog 35 #[v, .int .i64 a] w fun e w' => e = .returned (.tuple #[.agg #[.int .i64 0, .int .i64 0, .int .i64 0], .int .i64 5]) ∧ Kp [] w w' := by
  have K0 := hid (Kp.new w (.cells #[.int .i64 0, .int .i64 0, .int .i64 0] 33))
  have B0 := hid (Blk.new w 33 #[.int .i64 0, .int .i64 0, .int .i64 0])
  have HB := hid (h.kp0 K0.out)
  clear h
  go_enter Tryz.func35, Tryz.ntmps35
  go_wp2_with (fail)
  refine (n_check HB.out a).mono ?_
  rintro e w1 ⟨rfl, K1⟩
  have HK := hid (K0.out.chain K1)
  have B1 := B0.out.kp K1 (by simp)
  have c0 := B1.cell 0
  have c1 := B1.cell 1
  have c2 := B1.cell 2
  have f0 := B1.frozen 0
  have f1 := B1.frozen 1
  have f2 := B1.frozen 2
  have HB1 := hid B1
  clear K1 B1
  go_wp2
  have hB9 := ((HB1.out.set_ 0 (.int .i64 0)).set_ 1 (.int .i64 0)).set_ 2 (.int .i64 0)
  have hK9 : Kp [] w (((w1.setCell ⟨w.heap.size, 0, none⟩ (.int .i64 0)).setCell ⟨w.heap.size, 1, none⟩ (.int .i64 0)).setCell ⟨w.heap.size, 2, none⟩ (.int .i64 0)) :=
    (((HK.out.trans (Kp.cell _ ⟨w.heap.size, 0, none⟩ _) (U := []) (by simp) (by simp)).trans (Kp.cell _ ⟨w.heap.size, 1, none⟩ _) (U := []) (by simp) (by simp)).trans (Kp.cell _ ⟨w.heap.size, 2, none⟩ _) (U := []) (by simp) (by simp))
  generalize (((w1.setCell ⟨w.heap.size, 0, none⟩ (.int .i64 0)).setCell ⟨w.heap.size, 1, none⟩ (.int .i64 0)).setCell ⟨w.heap.size, 2, none⟩ (.int .i64 0)) = W9 at hB9 hK9 ⊢
  have q0 : W9.cell? ⟨w.heap.size, 0, none⟩ = some (.int .i64 0) := hB9.cell 0
  have q1 : W9.cell? ⟨w.heap.size, 1, none⟩ = some (.int .i64 0) := hB9.cell 1
  have q2 : W9.cell? ⟨w.heap.size, 2, none⟩ = some (.int .i64 0) := hB9.cell 2
  refine bodyPost_ret (v := .tuple #[.agg #[.int .i64 0, .int .i64 0, .int .i64 0], .int .i64 5]) ?_ rfl ⟨rfl, hK9⟩
  simp [results, Tryz.results35, q0, q1, q2, go_sem]
set_option maxRecDepth 100000 in
theorem n_ref (h : NoH w v) (a b : Int) : Calls Tryz.prog 161 #[v, .int .i64 a, .int .i64 b] w fun e w' => e = .returned (.tuple #[.int .i64 0, .int .i64 5]) ∧ Kp [] w w' := by
  have HB := hid h
  go_enter Tryz.func161, Tryz.ntmps161
  go_wp2_with (fail)
  refine (n_refw HB.out a b).mono ?_
  rintro e w1 ⟨rfl, K1⟩
  have HK := hid K1
  clear K1
  go_wp2
  go_ret2
  exact ⟨rfl, HK.out⟩
set_option maxRecDepth 100000 in
theorem n_data (h : NoH w v) (a b : Int) : Calls Tryz.prog 163 #[v, .int .i64 a, .int .i64 b] w fun e w' => e = .returned (.tuple #[.int .i64 0, .int .i64 5]) ∧ Kp [] w w' := by
  have HB := hid h
  go_enter Tryz.func163, Tryz.ntmps163
  go_wp2_with (fail)
  refine (n_dataw HB.out a b).mono ?_
  rintro e w1 ⟨rfl, K1⟩
  have HK := hid K1
  clear K1
  go_wp2
  go_ret2
  exact ⟨rfl, HK.out⟩
set_option maxRecDepth 100000 in
theorem n_state (h : NoH w v) (a : Int) : Calls Tryz.prog 41 #[v, .int .i64 a] w fun e w' => e = .returned (.int .i64 (-1)) ∧ Kp [] w w' := by
  have HB := hid h
  go_enter Tryz.func41, Tryz.ntmps41
  go_wp2_with (fail)
  refine (n_made HB.out ).mono ?_
  rintro e w1 ⟨rfl, K1⟩
  have HK := hid K1
  clear K1
  go_wp2
  go_ret
  exact ⟨rfl, HK.out⟩
set_option maxRecDepth 100000 in
theorem u_Claim (w : World) (a b : Int) : Calls Tryz.prog 61 #[.pointer none, .int .i64 a, .int .i64 b] w fun e w' => e = .returned (.int .i64 5) ∧ Kp [] w w' := by
  go_enter Tryz.func61, Tryz.ntmps61
  go_wp2_with (fail)
  refine (u_made _ ).mono ?_
  rintro e w1 ⟨rfl, K1⟩
  have HK := hid K1
  clear K1
  go_wp2
  go_ret
  exact ⟨rfl, HK.out⟩
set_option maxRecDepth 100000 in
theorem u_ClaimLarge (w : World) (a b c : Int) : Calls Tryz.prog 62 #[.pointer none, .int .i64 a, .int .i64 b, .int .i64 c] w fun e w' => e = .returned (.int .i64 5) ∧ Kp [] w w' := by
  go_enter Tryz.func62, Tryz.ntmps62
  go_wp2_with (fail)
  refine (u_made _ ).mono ?_
  rintro e w1 ⟨rfl, K1⟩
  have HK := hid K1
  clear K1
  go_wp2
  go_ret
  exact ⟨rfl, HK.out⟩
set_option maxRecDepth 100000 in
theorem u_release (w : World) (a : Int) : Calls Tryz.prog 63 #[.pointer none, .int .i64 a] w fun e w' => e = .returned (.int .i64 5) ∧ Kp [] w w' := by
  go_enter Tryz.func63, Tryz.ntmps63
  go_wp2_with (fail)
  refine (u_made _ ).mono ?_
  rintro e w1 ⟨rfl, K1⟩
  have HK := hid K1
  clear K1
  go_wp2
  go_ret
  exact ⟨rfl, HK.out⟩
set_option maxRecDepth 100000 in
theorem u_retag (w : World) (a b : Int) : Calls Tryz.prog 65 #[.pointer none, .int .i64 a, .int .i64 b] w fun e w' => e = .returned (.int .i64 5) ∧ Kp [] w w' := by
  go_enter Tryz.func65, Tryz.ntmps65
  go_wp2_with (fail)
  refine (u_made _ ).mono ?_
  rintro e w1 ⟨rfl, K1⟩
  have HK := hid K1
  clear K1
  go_wp2
  go_ret
  exact ⟨rfl, HK.out⟩
set_option maxRecDepth 100000 in
theorem u_place (w : World) (a r d k : Int) : Calls Tryz.prog 66 #[.pointer none, .int .i64 a, .agg #[.int .i64 r, .int .i64 d, .int .i64 k]] w fun e w' => e = .returned (.tuple #[.int .i64 0, .int .i64 5]) ∧ Kp [] w w' := by
  go_enter Tryz.func66, Tryz.ntmps66
  go_wp2_with (fail)
  refine (u_made _ ).mono ?_
  rintro e w1 ⟨rfl, K1⟩
  have HK := hid K1
  clear K1
  go_wp2
  go_ret2
  exact ⟨rfl, (Kp.new w (.cells #[.int .i64 r, .int .i64 d, .int .i64 k] 33)).chain HK.out⟩
set_option maxRecDepth 100000 in
theorem u_index (w : World) (a : Int) : Calls Tryz.prog 141 #[.pointer none, .int .i64 a] w fun e w' => e = .returned (.int .i64 (-1)) ∧ Kp [] w w' := by
  go_enter Tryz.func141, Tryz.ntmps141
  go_wp2_with (fail)
  refine (u_made _ ).mono ?_
  rintro e w1 ⟨rfl, K1⟩
  have HK := hid K1
  clear K1
  go_wp2
  go_ret
  exact ⟨rfl, HK.out⟩
set_option maxRecDepth 100000 in
theorem u_lacks (w : World) (a : Int) : Calls Tryz.prog 139 #[.pointer none, .int .i64 a] w fun e w' => e = .returned (.int .i64 5) ∧ Kp [] w w' := by
  go_enter Tryz.func139, Tryz.ntmps139
  go_wp2_with (fail)
  refine (u_made _).mono ?_
  rintro e w1 ⟨rfl, K1⟩
  have HK := hid K1
  clear K1
  go_wp2
  go_ret
  exact ⟨rfl, HK.out⟩
set_option maxRecDepth 100000 in
theorem u_kill (w : World) (a : Int) : Calls Tryz.prog 67 #[.pointer none, .int .i64 a] w fun e w' => e = .returned (.int .i64 5) ∧ Kp [] w w' := by
  go_enter Tryz.func67, Tryz.ntmps67
  go_wp2_with (fail)
  refine (u_lacks _ a).mono ?_
  rintro e w1 ⟨rfl, K1⟩
  have HK := hid K1
  clear K1
  go_wp2
  go_ret
  exact ⟨rfl, HK.out⟩
set_option maxRecDepth 100000 in
theorem u_move (w : World) (a b : Int) : Calls Tryz.prog 68 #[.pointer none, .int .i64 a, .int .i64 b] w fun e w' => e = .returned (.int .i64 5) ∧ Kp [] w w' := by
  go_enter Tryz.func68, Tryz.ntmps68
  go_wp2_with (fail)
  refine (u_lacks _ a).mono ?_
  rintro e w1 ⟨rfl, K1⟩
  have HK := hid K1
  clear K1
  go_wp2
  go_ret
  exact ⟨rfl, HK.out⟩
set_option maxRecDepth 100000 in
theorem u_setref (w : World) (a b c : Int) : Calls Tryz.prog 70 #[.pointer none, .int .i64 a, .int .i64 b, .int .i64 c] w fun e w' => e = .returned (.int .i64 5) ∧ Kp [] w w' := by
  go_enter Tryz.func70, Tryz.ntmps70
  go_wp2_with (fail)
  refine (u_lacks _ a).mono ?_
  rintro e w1 ⟨rfl, K1⟩
  have HK := hid K1
  clear K1
  go_wp2
  go_ret
  exact ⟨rfl, HK.out⟩
set_option maxRecDepth 100000 in
theorem u_setdata (w : World) (a b c : Int) : Calls Tryz.prog 72 #[.pointer none, .int .i64 a, .int .i64 b, .int .i64 c] w fun e w' => e = .returned (.int .i64 5) ∧ Kp [] w w' := by
  go_enter Tryz.func72, Tryz.ntmps72
  go_wp2_with (fail)
  refine (u_lacks _ a).mono ?_
  rintro e w1 ⟨rfl, K1⟩
  have HK := hid K1
  clear K1
  go_wp2
  go_ret
  exact ⟨rfl, HK.out⟩
set_option maxRecDepth 100000 in
theorem u_poke (w : World) (a b : Int) : Calls Tryz.prog 74 #[.pointer none, .int .i64 a, .int .i64 b] w fun e w' => e = .returned (.int .i64 5) ∧ Kp [] w w' := by
  go_enter Tryz.func74, Tryz.ntmps74
  go_wp2_with (fail)
  refine (u_made _ ).mono ?_
  rintro e w1 ⟨rfl, K1⟩
  have HK := hid K1
  clear K1
  go_wp2
  go_ret
  exact ⟨rfl, HK.out⟩
set_option maxRecDepth 100000 in
theorem u_pinb (w : World) (a : Int) (b : Bool) : Calls Tryz.prog 150 #[.pointer none, .int .i64 a, .bool b] w fun e w' => e = .returned (.int .i64 5) ∧ Kp [] w w' := by
  go_enter Tryz.func150, Tryz.ntmps150
  go_wp2_with (fail)
  refine (u_lacks _ a).mono ?_
  rintro e w1 ⟨rfl, K1⟩
  have HK := hid K1
  clear K1
  go_wp2
  go_ret
  exact ⟨rfl, HK.out⟩
set_option maxRecDepth 100000 in
theorem u_pin (w : World) (a : Int) : Calls Tryz.prog 76 #[.pointer none, .int .i64 a] w fun e w' => e = .returned (.int .i64 5) ∧ Kp [] w w' := by
  go_enter Tryz.func76, Tryz.ntmps76
  go_wp2_with (fail)
  refine (u_pinb _ a true).mono ?_
  rintro e w1 ⟨rfl, K1⟩
  have HK := hid K1
  clear K1
  go_wp2
  go_ret
  exact ⟨rfl, HK.out⟩
set_option maxRecDepth 100000 in
theorem u_unpin (w : World) (a : Int) : Calls Tryz.prog 78 #[.pointer none, .int .i64 a] w fun e w' => e = .returned (.int .i64 5) ∧ Kp [] w w' := by
  go_enter Tryz.func78, Tryz.ntmps78
  go_wp2_with (fail)
  refine (u_pinb _ a false).mono ?_
  rintro e w1 ⟨rfl, K1⟩
  have HK := hid K1
  clear K1
  go_wp2
  go_ret
  exact ⟨rfl, HK.out⟩
set_option maxRecDepth 100000 in
theorem u_forget (w : World) : Calls Tryz.prog 80 #[.pointer none] w fun e w' => e = .returned (.int .i64 0) ∧ Kp [] w w' := by
  go_enter Tryz.func80, Tryz.ntmps80
  go_wp2_with (fail)
  refine (u_made _ ).mono ?_
  rintro e w1 ⟨rfl, K1⟩
  have HK := hid K1
  clear K1
  go_wp2
  go_ret
  exact ⟨rfl, HK.out⟩
set_option maxRecDepth 100000 in
theorem u_word (w : World) (a : Int) : Calls Tryz.prog 155 #[.pointer none, .int .i64 a] w fun e w' => e = .returned (.tuple #[.int .i64 0, .int .i64 5]) ∧ Kp [] w w' := by
  go_enter Tryz.func155, Tryz.ntmps155
  go_wp2_with (fail)
  refine (u_made _ ).mono ?_
  rintro e w1 ⟨rfl, K1⟩
  have HK := hid K1
  clear K1
  go_wp2
  go_ret2
  exact ⟨rfl, HK.out⟩
set_option maxRecDepth 100000 in
theorem u_has (w : World) (a : Int) : Calls Tryz.prog 144 #[.pointer none, .int .i64 a] w fun e w' => e = .returned (.bool false) ∧ Kp [] w w' := by
  go_enter Tryz.func144, Tryz.ntmps144
  go_wp2_with (fail)
  refine (u_index _ a).mono ?_
  rintro e w1 ⟨rfl, K1⟩
  have HK := hid K1
  clear K1
  go_wp2
  go_ret
  exact ⟨rfl, HK.out⟩
set_option maxRecDepth 100000 in
theorem u_pinned (w : World) (a : Int) : Calls Tryz.prog 156 #[.pointer none, .int .i64 a] w fun e w' => e = .returned (.bool false) ∧ Kp [] w w' := by
  go_enter Tryz.func156, Tryz.ntmps156
  go_wp2_with (fail)
  refine (u_index _ a).mono ?_
  rintro e w1 ⟨rfl, K1⟩
  have HK := hid K1
  clear K1
  go_wp2
  go_ret
  exact ⟨rfl, HK.out⟩
set_option maxRecDepth 100000 in
theorem u_find (w : World) (a : Int) : Calls Tryz.prog 148 #[.pointer none, .int .i64 a] w fun e w' => e = .returned (.tuple #[.int .i64 0, .int .i64 5]) ∧ Kp [] w w' := by
  go_enter Tryz.func148, Tryz.ntmps148
  go_wp2_with (fail)
  refine (u_made _ ).mono ?_
  rintro e w1 ⟨rfl, K1⟩
  have HK := hid K1
  clear K1
  go_wp2
  go_ret2
  exact ⟨rfl, HK.out⟩
set_option maxRecDepth 100000 in
theorem u_forward (w : World) (a : Int) : Calls Tryz.prog 158 #[.pointer none, .int .i64 a] w fun e w' => e = .returned (.tuple #[.int .i64 0, .int .i64 5]) ∧ Kp [] w w' := by
  go_enter Tryz.func158, Tryz.ntmps158
  go_wp2_with (fail)
  refine (u_made _ ).mono ?_
  rintro e w1 ⟨rfl, K1⟩
  have HK := hid K1
  clear K1
  go_wp2
  go_ret2
  exact ⟨rfl, HK.out⟩
set_option maxRecDepth 100000 in
theorem u_ident (w : World) (a : Int) : Calls Tryz.prog 159 #[.pointer none, .int .i64 a] w fun e w' => e = .returned (.tuple #[.int .i64 0, .int .i64 5]) ∧ Kp [] w w' := by
  go_enter Tryz.func159, Tryz.ntmps159
  go_wp2_with (fail)
  refine (u_lacks _ a).mono ?_
  rintro e w1 ⟨rfl, K1⟩
  have HK := hid K1
  clear K1
  go_wp2
  go_ret2
  exact ⟨rfl, HK.out⟩
set_option maxRecDepth 100000 in
theorem u_shape (w : World) (a : Int) : Calls Tryz.prog 160 #[.pointer none, .int .i64 a] w fun e w' => e = .returned (.tuple #[.agg #[.int .i64 0, .int .i64 0, .int .i64 0], .int .i64 5]) ∧ Kp [] w w' := by
  have K0 := hid (Kp.new w (.cells #[.int .i64 0, .int .i64 0, .int .i64 0] 33))
  have B0 := hid (Blk.new w 33 #[.int .i64 0, .int .i64 0, .int .i64 0])
  go_enter Tryz.func160, Tryz.ntmps160
  go_wp2_with (fail)
  refine (u_lacks _ a).mono ?_
  rintro e w1 ⟨rfl, K1⟩
  have HK := hid (K0.out.chain K1)
  have B1 := B0.out.kp K1 (by simp)
  have c0 := B1.cell 0
  have c1 := B1.cell 1
  have c2 := B1.cell 2
  have f0 := B1.frozen 0
  have f1 := B1.frozen 1
  have f2 := B1.frozen 2
  have HB1 := hid B1
  clear K1 B1
  go_wp2
  have hB9 := ((HB1.out.set_ 0 (.int .i64 0)).set_ 1 (.int .i64 0)).set_ 2 (.int .i64 0)
  have hK9 : Kp [] w (((w1.setCell ⟨w.heap.size, 0, none⟩ (.int .i64 0)).setCell ⟨w.heap.size, 1, none⟩ (.int .i64 0)).setCell ⟨w.heap.size, 2, none⟩ (.int .i64 0)) :=
    (((HK.out.trans (Kp.cell _ ⟨w.heap.size, 0, none⟩ _) (U := []) (by simp) (by simp)).trans (Kp.cell _ ⟨w.heap.size, 1, none⟩ _) (U := []) (by simp) (by simp)).trans (Kp.cell _ ⟨w.heap.size, 2, none⟩ _) (U := []) (by simp) (by simp))
  generalize (((w1.setCell ⟨w.heap.size, 0, none⟩ (.int .i64 0)).setCell ⟨w.heap.size, 1, none⟩ (.int .i64 0)).setCell ⟨w.heap.size, 2, none⟩ (.int .i64 0)) = W9 at hB9 hK9 ⊢
  have q0 : W9.cell? ⟨w.heap.size, 0, none⟩ = some (.int .i64 0) := hB9.cell 0
  have q1 : W9.cell? ⟨w.heap.size, 1, none⟩ = some (.int .i64 0) := hB9.cell 1
  have q2 : W9.cell? ⟨w.heap.size, 2, none⟩ = some (.int .i64 0) := hB9.cell 2
  refine bodyPost_ret (v := .tuple #[.agg #[.int .i64 0, .int .i64 0, .int .i64 0], .int .i64 5]) ?_ rfl ⟨rfl, hK9⟩
  simp [results, Tryz.results160, q0, q1, q2, go_sem]
set_option maxRecDepth 100000 in
theorem u_ref (w : World) (a b : Int) : Calls Tryz.prog 162 #[.pointer none, .int .i64 a, .int .i64 b] w fun e w' => e = .returned (.tuple #[.int .i64 0, .int .i64 5]) ∧ Kp [] w w' := by
  go_enter Tryz.func162, Tryz.ntmps162
  go_wp2_with (fail)
  refine (u_lacks _ a).mono ?_
  rintro e w1 ⟨rfl, K1⟩
  have HK := hid K1
  clear K1
  go_wp2
  go_ret2
  exact ⟨rfl, HK.out⟩
set_option maxRecDepth 100000 in
theorem u_data (w : World) (a b : Int) : Calls Tryz.prog 164 #[.pointer none, .int .i64 a, .int .i64 b] w fun e w' => e = .returned (.tuple #[.int .i64 0, .int .i64 5]) ∧ Kp [] w w' := by
  go_enter Tryz.func164, Tryz.ntmps164
  go_wp2_with (fail)
  refine (u_lacks _ a).mono ?_
  rintro e w1 ⟨rfl, K1⟩
  have HK := hid K1
  clear K1
  go_wp2
  go_ret2
  exact ⟨rfl, HK.out⟩
end
end Go.Proofs.YtkkmlllajfafcaaGreat
