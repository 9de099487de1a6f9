/-
  An allocator that nobody made: the contracts of package alloc's functions, and of the document's at nil; the law's cursors. Conditions: those that stand in each theorem.
-/
import Derived.Test.YtkkmlllajfafcaaPJ1
import Derived.Test.YtkkmlllajfafcaaPNa
namespace Go.Proofs.Ytkkmlllajfafcaa
set_option linter.unusedVariables false
set_option linter.unusedSimpArgs false
open Go.RowKit Go.Deep Go.Maps

/-- A pointer to no allocator, or to one that nobody made. -/
def NoA (w : World) (v : Value) : Prop := v = .pointer none ∨ ∃ g, v = .pointer (some ⟨g, 0, none⟩) ∧ w.cell? ⟨g, 0, none⟩ = some (.pointer none)
section
variable {w w' W : World} {v vh : Value} {b : HB} {m : HM} {q g : Nat} {A : AS}
theorem NoA.kp0 (h : NoA w v) (k : Kp [] w w') : NoA w' v := by
  rcases h with h | ⟨g, h, c⟩
  · exact .inl h
  · exact .inr ⟨g, h, cell_kp k c⟩
theorem na_made (h : NoA w v) : Calls Try.prog 16 #[v] w fun e w' => e = .returned (.bool false) ∧ Kp [] w w' := by
  rcases h with rfl | ⟨g, rfl, c⟩
  all_goals
    go_enter Try.func16, Try.ntmps16
    go_wp2
    go_ret
    exact ⟨rfl, Kp.refl [] w⟩
set_option maxRecDepth 100000 in
theorem na_alloc (h : NoA w v) (x d k : Int) : Calls Try.prog 6 #[v, .agg #[.int .i64 x, .int .i64 d, .int .i64 k]] w fun e w' => e = .returned (.tuple #[.int .i64 0, .int .i64 5]) ∧ Kp [] w w' := by
  have HB := hid h
  clear h
  go_enter Try.func6, Try.ntmps6
  go_wp2_with (fail)
  refine (na_made (HB.out.kp0 (Kp.new _ _))).mono ?_
  rintro e w1 ⟨rfl, K1⟩
  have HK := hid K1
  clear K1
  go_wp2
  go_ret2
  exact ⟨rfl, (Kp.new _ _).chain HK.out⟩
set_option maxRecDepth 100000 in
theorem na_reset (h : NoA w v) : Calls Try.prog 7 #[v] w fun e w' => e = .returned (.tuple #[]) ∧ Kp [] w w' := by
  have HB := hid h
  clear h
  go_enter Try.func7, Try.ntmps7
  go_wp2_with (fail)
  refine (na_made (HB.out)).mono ?_
  rintro e w1 ⟨rfl, K1⟩
  have HK := hid K1
  clear K1
  go_wp2
  go_end0
  exact ⟨rfl, HK.out⟩
set_option maxRecDepth 100000 in
theorem na_space (h : NoA w v) : Calls Try.prog 25 #[v] w fun e w' => e = .returned (.int .i64 0) ∧ Kp [] w w' := by
  have HB := hid h
  clear h
  go_enter Try.func25, Try.ntmps25
  go_wp2_with (fail)
  refine (na_made (HB.out)).mono ?_
  rintro e w1 ⟨rfl, K1⟩
  have HK := hid K1
  clear K1
  go_wp2
  go_ret
  exact ⟨rfl, HK.out⟩
set_option maxRecDepth 100000 in
theorem na_policy (h : NoA w v) : Calls Try.prog 27 #[v] w fun e w' => e = .returned (.int .i64 0) ∧ Kp [] w w' := by
  have HB := hid h
  clear h
  go_enter Try.func27, Try.ntmps27
  go_wp2_with (fail)
  refine (na_made (HB.out)).mono ?_
  rintro e w1 ⟨rfl, K1⟩
  have HK := hid K1
  clear K1
  go_wp2
  go_ret
  exact ⟨rfl, HK.out⟩
set_option maxRecDepth 100000 in
theorem na_clone (h : NoA w v) : Calls Try.prog 9 #[v, vh] w fun e w' => e = .returned (.pointer none) ∧ Kp [] w w' := by
  have HB := hid h
  clear h
  go_enter Try.func9, Try.ntmps9
  go_wp2_with (fail)
  refine (na_made (HB.out)).mono ?_
  rintro e w1 ⟨rfl, K1⟩
  have HK := hid K1
  clear K1
  go_wp2
  go_ret
  exact ⟨rfl, HK.out⟩
set_option maxRecDepth 100000 in
theorem na_cursor (h : NoA w v) : Calls Try.prog 23 #[v] w fun e w' => e = .returned (.tuple #[.int .i64 0, .int .i64 0, .int .i64 0, .int .i64 0]) ∧ Kp [] w w' := by
  have HB := hid h
  clear h
  go_enter Try.func23, Try.ntmps23
  go_wp2_with (fail)
  refine (na_made HB.out).mono ?_
  rintro e w1 ⟨rfl, K1⟩
  have HK := hid K1
  clear K1
  go_wp2
  refine bodyPost_ret (v := .tuple #[.int .i64 0, .int .i64 0, .int .i64 0, .int .i64 0]) ?_ rfl ⟨rfl, HK.out⟩
  simp [results, Try.results23, go_sem]
theorem nr_made (w : World) : Calls Try.prog 42 #[.pointer none] w fun e w' => e = .returned (.bool false) ∧ Kp [] w w' := by
  go_enter Try.func42, Try.ntmps42
  go_wp2
  try refine ⟨(fun f hf => by cases hf), ?_⟩
  go_ret
  exact ⟨rfl, Kp.refl [] w⟩
theorem nr_space (w : World) : Calls Try.prog 26 #[.pointer none] w fun e w' => e = .returned (.int .i64 0) ∧ Kp [] w w' := by
  go_enter Try.func26, Try.ntmps26
  go_wp2_with (fail)
  refine (nr_made _).mono ?_
  rintro e w1 ⟨rfl, K1⟩
  have HK := hid K1
  clear K1
  go_wp2
  go_ret
  exact ⟨rfl, HK.out⟩
theorem nr_policy (w : World) : Calls Try.prog 28 #[.pointer none] w fun e w' => e = .returned (.int .i64 0) ∧ Kp [] w w' := by
  go_enter Try.func28, Try.ntmps28
  go_wp2_with (fail)
  refine (nr_made _).mono ?_
  rintro e w1 ⟨rfl, K1⟩
  have HK := hid K1
  clear K1
  go_wp2
  go_ret
  exact ⟨rfl, HK.out⟩
theorem nr_cursor (w : World) : Calls Try.prog 24 #[.pointer none] w fun e w' => e = .returned (.tuple #[.int .i64 0, .int .i64 0, .int .i64 0, .int .i64 0]) ∧ Kp [] w w' := by
  go_enter Try.func24, Try.ntmps24
  go_wp2_with (fail)
  refine (nr_made _).mono ?_
  rintro e w1 ⟨rfl, K1⟩
  have HK := hid K1
  clear K1
  go_wp2
  refine bodyPost_ret (v := .tuple #[.int .i64 0, .int .i64 0, .int .i64 0, .int .i64 0]) ?_ rfl ⟨rfl, HK.out⟩
  simp [results, Try.results24, go_sem]
theorem na_cursors (h : NoA w v) : Calls Try.prog 10 #[v, .pointer none] w fun e w' => e = .returned (.bool true) ∧ Kp [] w w' := by
  have HB := hid h
  clear h
  go_enter Try.func10, Try.ntmps10
  go_wp2_with (first
    | (go_at_call 23; refine (na_cursor HB.out).mono ?_; rintro e w1 ⟨rfl, K1⟩; have HK1 := hid K1; clear K1)
    | (go_at_call 24; refine (nr_cursor _).mono ?_; rintro e w2 ⟨rfl, K2⟩; have HK2 := hid (HK1.out.chain K2); clear K2)
    | (go_at_call 25; refine (na_space (HB.out.kp0 HK2.out)).mono ?_; rintro e w3 ⟨rfl, K3⟩; have HK3 := hid (HK2.out.chain K3); clear K3)
    | (go_at_call 26; refine (nr_space _).mono ?_; rintro e w4 ⟨rfl, K4⟩; have HK4 := hid (HK3.out.chain K4); clear K4)
    | (go_at_call 27; refine (na_policy (HB.out.kp0 HK4.out)).mono ?_; rintro e w5 ⟨rfl, K5⟩; have HK5 := hid (HK4.out.chain K5); clear K5)
    | (go_at_call 28; refine (nr_policy _).mono ?_; rintro e w6 ⟨rfl, K6⟩; have HK6 := hid (HK5.out.chain K6); clear K6))
  go_ret
  exact ⟨rfl, HK6.out⟩
theorem nh_isHeap (h : NoH w vh) : Calls Try.prog 21 #[vh] w fun e w' => e = .returned (.bool false) ∧ Kp [] w w' := by
  have HB := hid h
  clear h
  go_enter Try.func21, Try.ntmps21
  go_wp2_with (go_at_call 37; refine (n_state HB.out 0).mono ?_; rintro e w1 ⟨rfl, K1⟩; have HK1 := hid K1; clear K1)
  go_ret
  exact ⟨rfl, HK1.out⟩
theorem nh_new (h : NoH w vh) (s p : Int) : Calls Try.prog 8 #[vh, .int .i64 s, .int .i64 p] w fun e w' => e = .returned (.tuple #[.pointer none, .int .i64 1]) ∧ Kp [] w w' := by
  have HB := hid h
  clear h
  go_enter Try.func8, Try.ntmps8
  go_wp2_with (go_at_call 21; refine (nh_isHeap HB.out).mono ?_; rintro e w1 ⟨rfl, K1⟩; have HK1 := hid K1; clear K1)
  go_ret2
  exact ⟨rfl, HK1.out⟩
theorem nh_clone (h : AL w g b A) (hh : NoH w vh) : Calls Try.prog 9 #[.pointer (some ⟨g, 0, none⟩), vh] w fun e w' => e = .returned (.pointer none) ∧ Kp [] w w' := by
  have HA := hid h
  have HB := hid hh
  clear h hh
  go_enter Try.func9, Try.ntmps9
  go_wp2_with (first
    | (go_at_call 16; refine (made_k HA.out).mono ?_; rintro e w1 ⟨rfl, K1⟩; have HK1 := hid K1; clear K1)
    | (go_at_call 21; refine (nh_isHeap (HB.out.kp0 HK1.out)).mono ?_; rintro e w2 ⟨rfl, K2⟩; have HK2 := hid (HK1.out.chain K2); clear K2))
  go_ret
  exact ⟨rfl, HK2.out⟩
end
end Go.Proofs.Ytkkmlllajfafcaa
