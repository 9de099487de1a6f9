/-
  Roots that nobody made: the contracts of package roots' and the document's functions. Conditions: those that stand in each theorem.
-/
import Derived.Test.YtnidadhoojbmeaaSr
namespace Go.Proofs.Ytnidadhoojbmeaa
set_option linter.unusedVariables false
set_option linter.unusedSimpArgs false
open Go.RowKit Go.Deep Go.Maps Go.Shelf
attribute [local go_sem] Oper.semAt_some

/-- A pointer to no roots, or to roots that nobody made. -/
def NoR (w : World) (v : Value) : Prop := v = .pointer none ∨ ∃ g, v = .pointer (some ⟨g, 0, none⟩) ∧ w.cell? ⟨g, 0, none⟩ = some (.slice none 0 0)
section
variable {w w' : World} {v : Value}
theorem NoR.kp0 (h : NoR w v) (k : Kp [] w w') : NoR w' v := by
  rcases h with h | ⟨g, h, c⟩
  · exact .inl h
  · exact .inr ⟨g, h, cell_kp k c⟩
theorem n_made (h : NoR w v) : Calls Try.prog 23 #[v] w fun e w' => e = .returned (.bool false) ∧ ∃ m, w' = w.drewN m := by
  rcases h with rfl | ⟨g, rfl, c⟩
  all_goals
    go_enter Try.func23, Try.ntmps23
    go_wp2
    go_ret
    exact ⟨rfl, 0, rfl⟩
theorem u_made (w : World) : Calls Try.prog 26 #[.pointer none] w fun e w' => e = .returned (.bool false) ∧ ∃ m, w' = w.drewN m := by
  go_enter Try.func26, Try.ntmps26
  go_wp2
  go_ret
  exact ⟨rfl, 0, rfl⟩
set_option maxRecDepth 100000 in
theorem n_get (h : NoR w v) (k m i : Int) : Calls Try.prog 21 #[v, .agg #[.int .i64 k, .int .i64 m, .int .i64 i]] w fun e w' => e = .returned (.tuple #[.int .i64 0, .int .i64 5]) ∧ Kp [] w w' := by
  have HB := hid (h.kp0 (Kp.new w (.cells #[.int .i64 k, .int .i64 m, .int .i64 i] 33)))
  go_enter Try.func21, Try.ntmps21
  go_wp2_with (go_at_call 23; refine (n_made HB.out).mono ?_; rintro e w' ⟨rfl, n1, rfl⟩)
  go_ret2
  exact ⟨rfl, by first | exact ((Kp.new w _).drewN _) | exact ((Kp.new w _).drewN _).drewN _ | exact Kp.draw w _⟩
set_option maxRecDepth 100000 in
theorem n_set (h : NoR w v) (k m i x : Int) : Calls Try.prog 14 #[v, .agg #[.int .i64 k, .int .i64 m, .int .i64 i], .int .i64 x] w fun e w' => e = .returned (.int .i64 5) ∧ Kp [] w w' := by
  have HB := hid (h.kp0 (Kp.new w (.cells #[.int .i64 k, .int .i64 m, .int .i64 i] 33)))
  go_enter Try.func14, Try.ntmps14
  go_wp2_with (go_at_call 23; refine (n_made HB.out).mono ?_; rintro e w' ⟨rfl, n1, rfl⟩)
  go_ret
  exact ⟨rfl, by first | exact ((Kp.new w _).drewN _) | exact ((Kp.new w _).drewN _).drewN _ | exact Kp.draw w _⟩
set_option maxRecDepth 100000 in
theorem n_push (h : NoR w v) (x : Int) : Calls Try.prog 15 #[v, .int .i64 x] w fun e w' => e = .returned (.int .i64 5) ∧ Kp [] w w' := by
  have HB := hid h
  go_enter Try.func15, Try.ntmps15
  go_wp2_with (go_at_call 23; refine (n_made HB.out).mono ?_; rintro e w' ⟨rfl, n1, rfl⟩)
  go_ret
  exact ⟨rfl, by first | exact (Kp.draw w _) | exact (Kp.draw w _).drewN _ | exact Kp.draw w _⟩
set_option maxRecDepth 100000 in
theorem n_pop (h : NoR w v) : Calls Try.prog 22 #[v] w fun e w' => e = .returned (.tuple #[.int .i64 0, .int .i64 5]) ∧ Kp [] w w' := by
  have HB := hid h
  go_enter Try.func22, Try.ntmps22
  go_wp2_with (go_at_call 23; refine (n_made HB.out).mono ?_; rintro e w' ⟨rfl, n1, rfl⟩)
  go_ret2
  exact ⟨rfl, by first | exact (Kp.draw w _) | exact (Kp.draw w _).drewN _ | exact Kp.draw w _⟩
set_option maxRecDepth 100000 in
theorem n_queue (h : NoR w v) : Calls Try.prog 36 #[v] w fun e w' => e = .returned (.slice none 0 0) ∧ Kp [] w w' := by
  have HB := hid h
  go_enter Try.func36, Try.ntmps36
  go_wp2_with (go_at_call 23; refine (n_made HB.out).mono ?_; rintro e w' ⟨rfl, n1, rfl⟩)
  go_ret
  exact ⟨rfl, by first | exact (Kp.draw w _) | exact (Kp.draw w _).drewN _ | exact Kp.draw w _⟩
set_option maxRecDepth 100000 in
theorem n_mutators (h : NoR w v) : Calls Try.prog 32 #[v] w fun e w' => e = .returned (.int .i64 0) ∧ Kp [] w w' := by
  have HB := hid h
  go_enter Try.func32, Try.ntmps32
  go_wp2_with (go_at_call 23; refine (n_made HB.out).mono ?_; rintro e w' ⟨rfl, n1, rfl⟩)
  go_ret
  exact ⟨rfl, by first | exact (Kp.draw w _) | exact (Kp.draw w _).drewN _ | exact Kp.draw w _⟩
set_option maxRecDepth 100000 in
theorem n_clone (h : NoR w v) : Calls Try.prog 9 #[v] w fun e w' => e = .returned (.pointer none) ∧ Kp [] w w' := by
  have HB := hid h
  go_enter Try.func9, Try.ntmps9
  go_wp2_with (go_at_call 23; refine (n_made HB.out).mono ?_; rintro e w' ⟨rfl, n1, rfl⟩)
  go_ret
  exact ⟨rfl, by first | exact (Kp.draw w _) | exact (Kp.draw w _).drewN _ | exact Kp.draw w _⟩
set_option maxRecDepth 100000 in
theorem u_get (w : World) (k m i : Int) : Calls Try.prog 31 #[.pointer none, .agg #[.int .i64 k, .int .i64 m, .int .i64 i]] w fun e w' => e = .returned (.tuple #[.int .i64 0, .int .i64 5]) ∧ Kp [] w w' := by
  go_enter Try.func31, Try.ntmps31
  go_wp2_with (go_at_call 26; refine (u_made _).mono ?_; rintro e w' ⟨rfl, n1, rfl⟩)
  go_ret2
  exact ⟨rfl, by first | exact ((Kp.new w _).drewN _) | exact ((Kp.new w _).drewN _).drewN _ | exact Kp.draw w _⟩
set_option maxRecDepth 100000 in
theorem u_set (w : World) (k m i x : Int) : Calls Try.prog 27 #[.pointer none, .agg #[.int .i64 k, .int .i64 m, .int .i64 i], .int .i64 x] w fun e w' => e = .returned (.int .i64 5) ∧ Kp [] w w' := by
  go_enter Try.func27, Try.ntmps27
  go_wp2_with (go_at_call 26; refine (u_made _).mono ?_; rintro e w' ⟨rfl, n1, rfl⟩)
  go_ret
  exact ⟨rfl, by first | exact ((Kp.new w _).drewN _) | exact ((Kp.new w _).drewN _).drewN _ | exact Kp.draw w _⟩
set_option maxRecDepth 100000 in
theorem u_push (w : World) (x : Int) : Calls Try.prog 28 #[.pointer none, .int .i64 x] w fun e w' => e = .returned (.int .i64 5) ∧ Kp [] w w' := by
  go_enter Try.func28, Try.ntmps28
  go_wp2_with (go_at_call 26; refine (u_made _).mono ?_; rintro e w' ⟨rfl, n1, rfl⟩)
  go_ret
  exact ⟨rfl, by first | exact (Kp.draw w _) | exact (Kp.draw w _).drewN _ | exact Kp.draw w _⟩
set_option maxRecDepth 100000 in
theorem u_pop (w : World) : Calls Try.prog 29 #[.pointer none] w fun e w' => e = .returned (.tuple #[.int .i64 0, .int .i64 5]) ∧ Kp [] w w' := by
  go_enter Try.func29, Try.ntmps29
  go_wp2_with (go_at_call 26; refine (u_made _).mono ?_; rintro e w' ⟨rfl, n1, rfl⟩)
  go_ret2
  exact ⟨rfl, by first | exact (Kp.draw w _) | exact (Kp.draw w _).drewN _ | exact Kp.draw w _⟩
set_option maxRecDepth 100000 in
theorem u_replace (w : World) (vf vt : Value) : Calls Try.prog 30 #[.pointer none, vf, vt] w fun e w' => e = .returned (.tuple #[.int .i64 0, .int .i64 5]) ∧ Kp [] w w' := by
  go_enter Try.func30, Try.ntmps30
  go_wp2_with (go_at_call 26; refine (u_made _).mono ?_; rintro e w' ⟨rfl, n1, rfl⟩)
  go_ret2
  exact ⟨rfl, by first | exact (Kp.draw w _) | exact (Kp.draw w _).drewN _ | exact Kp.draw w _⟩
set_option maxRecDepth 100000 in
set_option maxHeartbeats 2000000 in
theorem n_places (h : NoR w v) : Calls Try.prog 16 #[v] w fun e w' => e = .returned (.slice none 0 0) ∧ Kp [] w w' := by
  have HB := hid h
  have HK2 := hid (Kp.refl [] w)
  clear h
  refine (callsIn_wide (n := 3)).1 ?_
  refine callsIn_of_wp_marks Try.func16 rfl trivial ?_ rfl
  simp only [Try.ntmps16, List.size_toArray, List.length_cons, List.length_nil, Nat.reduceAdd, Nat.reduceSub, Array.replicate_succ, Array.replicate_zero, List.push_toArray, List.append_toArray, List.nil_append, List.cons_append]
  gi_wp2
  refine ⟨trivial, ?_⟩
  refine (callsIn_wide.2 (n_made HB.out)).mono ?_
  rintro e w1 ⟨rfl, n1, rfl⟩
  gi_wp2
  exact ⟨_, results_tmp rfl _ _ _, rfl, HK2.out.drewN n1⟩
set_option maxRecDepth 100000 in
set_option maxHeartbeats 2000000 in
theorem n_leads (h : NoR w v) : Calls Try.prog 19 #[v] w fun e w' => e = .returned (.slice none 0 0) ∧ Kp [] w w' := by
  have HB := hid h
  have HK2 := hid (Kp.refl [] w)
  clear h
  refine (callsIn_wide (n := 3)).1 ?_
  refine callsIn_of_wp_marks Try.func19 rfl trivial ?_ rfl
  simp only [Try.ntmps19, List.size_toArray, List.length_cons, List.length_nil, Nat.reduceAdd, Nat.reduceSub, Array.replicate_succ, Array.replicate_zero, List.push_toArray, List.append_toArray, List.nil_append, List.cons_append]
  gi_wp2
  refine ⟨trivial, ?_⟩
  refine (callsIn_wide.2 (n_made HB.out)).mono ?_
  rintro e w1 ⟨rfl, n1, rfl⟩
  gi_wp2
  exact ⟨_, results_tmp rfl _ _ _, rfl, HK2.out.drewN n1⟩
set_option maxRecDepth 100000 in
set_option maxHeartbeats 2000000 in
theorem n_replace (h : NoR w v) (Af At : Option Addr) (nf cf nt ct : Nat) : Calls Try.prog 20 #[v, .slice Af nf cf, .slice At nt ct] w fun e w' => e = .returned (.tuple #[.int .i64 0, .int .i64 5]) ∧ Kp [] w w' := by
  have K2 : Kp [] w ((w.alloc (.cells #[.slice Af nf cf] 34)).alloc (.cells #[.slice At nt ct] 34)) := (Kp.new _ _).chain (Kp.new _ _)
  have HB := hid (h.kp0 K2)
  have HK2 := hid K2
  clear K2 h
  refine (callsIn_wide (n := 3)).1 ?_
  refine callsIn_of_wp_marks Try.func20 rfl trivial ?_ rfl
  simp only [Try.ntmps20, List.size_toArray, List.length_cons, List.length_nil, Nat.reduceAdd, Nat.reduceSub, Array.replicate_succ, Array.replicate_zero, List.push_toArray, List.append_toArray, List.nil_append, List.cons_append]
  gi_wp2
  refine ⟨trivial, ?_⟩
  refine (callsIn_wide.2 (n_made HB.out)).mono ?_
  rintro e w1 ⟨rfl, n1, rfl⟩
  gi_wp2
  exact ⟨_, results_tmp2 rfl _ _ _, rfl, HK2.out.drewN n1⟩
end
end Go.Proofs.Ytnidadhoojbmeaa
