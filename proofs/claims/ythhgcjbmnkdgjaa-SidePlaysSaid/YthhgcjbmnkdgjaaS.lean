/-
  The contracts of tables that no function returned: of package side's methods on nil and on a zero value, of the reference's on nil. Conditions: those that stand in each theorem.
-/
import Derived.Test.YthhgcjbmnkdgjaaR
namespace Go.Proofs.Ythhgcjbmnkdgjaa
set_option linter.unusedVariables false
set_option linter.unusedSimpArgs false
open Go.RowKit Go.Deep

/-- A table that no function returned: nil, or a zero value. -/
def Unmade (w : World) (v : Value) : Prop := v = .pointer none ∨ ∃ g, v = .pointer (some ⟨g, 0, none⟩) ∧ w.cell? ⟨g, 0, none⟩ = some (.int .i64 0)
theorem made_un {w : World} {v : Value} (h : Unmade w v) : Calls Try.prog 42 #[v] w fun e w' => e = .returned (.bool false) ∧ ∃ m, w' = w.drewN m := by
  rcases h with rfl | ⟨g, rfl, hc⟩
  · exact made_nil w
  · exact made_zero hc
section
variable {w : World} {v : Value}
theorem get_un (h : Unmade w v) (i : Int) :
    Calls Try.prog 24 #[v, .int .i64 i] w fun e w' => e = .returned (.int .i64 (-1)) ∧ ∃ m, w' = w.drewN m := by
  go_enter Try.func24, Try.ntmps24
  go_wp2_with (go_at_call 42; refine (made_un (w := w) h).mono ?_; rintro e w' ⟨rfl, n1, rfl⟩)
  go_ret
  exact ⟨rfl, _, rfl⟩
theorem entries_un (h : Unmade w v)  :
    Calls Try.prog 25 #[v] w fun e w' => e = .returned (.int .i64 0) ∧ ∃ m, w' = w.drewN m := by
  go_enter Try.func25, Try.ntmps25
  go_wp2_with (go_at_call 42; refine (made_un (w := w) h).mono ?_; rintro e w' ⟨rfl, n1, rfl⟩)
  go_ret
  exact ⟨rfl, _, rfl⟩
theorem width_un (h : Unmade w v)  :
    Calls Try.prog 26 #[v] w fun e w' => e = .returned (.int .i64 0) ∧ ∃ m, w' = w.drewN m := by
  go_enter Try.func26, Try.ntmps26
  go_wp2_with (go_at_call 42; refine (made_un (w := w) h).mono ?_; rintro e w' ⟨rfl, n1, rfl⟩)
  go_ret
  exact ⟨rfl, _, rfl⟩
theorem set_un (h : Unmade w v) (i : Int) (x : Int) :
    Calls Try.prog 31 #[v, .int .i64 i, .int .i64 x] w fun e w' => e = .returned (.int .i64 5) ∧ ∃ m, w' = w.drewN m := by
  go_enter Try.func31, Try.ntmps31
  go_wp2_with (go_at_call 42; refine (made_un (w := w) h).mono ?_; rintro e w' ⟨rfl, n1, rfl⟩)
  go_ret
  exact ⟨rfl, _, rfl⟩
theorem fill_un (h : Unmade w v) (i : Int) (n : Int) (x : Int) :
    Calls Try.prog 32 #[v, .int .i64 i, .int .i64 n, .int .i64 x] w fun e w' => e = .returned (.int .i64 5) ∧ ∃ m, w' = w.drewN m := by
  go_enter Try.func32, Try.ntmps32
  go_wp2_with (go_at_call 42; refine (made_un (w := w) h).mono ?_; rintro e w' ⟨rfl, n1, rfl⟩)
  go_ret
  exact ⟨rfl, _, rfl⟩
theorem runs_un (h : Unmade w v) (x : Int) :
    Calls Try.prog 33 #[v, .int .i64 x] w fun e w' => e = .returned (.slice none 0 0) ∧ ∃ m, w' = w.drewN m := by
  go_enter Try.func33, Try.ntmps33
  go_wp2_with (go_at_call 42; refine (made_un (w := w) h).mono ?_; rintro e w' ⟨rfl, n1, rfl⟩)
  go_ret
  exact ⟨rfl, _, rfl⟩
theorem count_un (h : Unmade w v) (x : Int) :
    Calls Try.prog 34 #[v, .int .i64 x] w fun e w' => e = .returned (.int .i64 0) ∧ ∃ m, w' = w.drewN m := by
  go_enter Try.func34, Try.ntmps34
  go_wp2_with (go_at_call 42; refine (made_un (w := w) h).mono ?_; rintro e w' ⟨rfl, n1, rfl⟩)
  go_ret
  exact ⟨rfl, _, rfl⟩
theorem next_un (h : Unmade w v) (i : Int) (x : Int) :
    Calls Try.prog 35 #[v, .int .i64 i, .int .i64 x] w fun e w' => e = .returned (.tuple #[.int .i64 0, .int .i64 5]) ∧ ∃ m, w' = w.drewN m := by
  go_enter Try.func35, Try.ntmps35
  go_wp2_with (go_at_call 42; refine (made_un (w := w) h).mono ?_; rintro e w' ⟨rfl, n1, rfl⟩)
  go_ret2
  exact ⟨rfl, _, rfl⟩
theorem last_un (h : Unmade w v) (i : Int) (x : Int) :
    Calls Try.prog 36 #[v, .int .i64 i, .int .i64 x] w fun e w' => e = .returned (.tuple #[.int .i64 0, .int .i64 5]) ∧ ∃ m, w' = w.drewN m := by
  go_enter Try.func36, Try.ntmps36
  go_wp2_with (go_at_call 42; refine (made_un (w := w) h).mono ?_; rintro e w' ⟨rfl, n1, rfl⟩)
  go_ret2
  exact ⟨rfl, _, rfl⟩
theorem add_un (h : Unmade w v) (i : Int) (x : Int) :
    Calls Try.prog 37 #[v, .int .i64 i, .int .i64 x] w fun e w' => e = .returned (.tuple #[.int .i64 0, .int .i64 5]) ∧ ∃ m, w' = w.drewN m := by
  go_enter Try.func37, Try.ntmps37
  go_wp2_with (go_at_call 42; refine (made_un (w := w) h).mono ?_; rintro e w' ⟨rfl, n1, rfl⟩)
  go_ret2
  exact ⟨rfl, _, rfl⟩
theorem swap_un (h : Unmade w v) (i : Int) (o : Int) (x : Int) :
    Calls Try.prog 38 #[v, .int .i64 i, .int .i64 o, .int .i64 x] w fun e w' => e = .returned (.tuple #[.bool false, .int .i64 5]) ∧ ∃ m, w' = w.drewN m := by
  go_enter Try.func38, Try.ntmps38
  go_wp2_with (go_at_call 42; refine (made_un (w := w) h).mono ?_; rintro e w' ⟨rfl, n1, rfl⟩)
  go_ret2
  exact ⟨rfl, _, rfl⟩
theorem clone_un (h : Unmade w v)  :
    Calls Try.prog 17 #[v] w fun e w' => e = .returned (.pointer none) ∧ ∃ m, w' = w.drewN m := by
  go_enter Try.func17, Try.ntmps17
  go_wp2_with (go_at_call 42; refine (made_un (w := w) h).mono ?_; rintro e w' ⟨rfl, n1, rfl⟩)
  go_ret
  exact ⟨rfl, _, rfl⟩
end
theorem r_set_nil (w : World) (i : Int) (x : Int) :
    Calls Try.prog 49 #[.pointer none, .int .i64 i, .int .i64 x] w fun e w' => e = .returned (.int .i64 5) ∧ ∃ m, w' = w.drewN m := by
  go_enter Try.func49, Try.ntmps49
  go_wp2_with (go_at_call 44; refine (r_made_nil _).mono ?_; rintro e w' ⟨rfl, n1, rfl⟩)
  go_ret
  exact ⟨rfl, _, rfl⟩
theorem r_fill_nil (w : World) (i : Int) (n : Int) (x : Int) :
    Calls Try.prog 50 #[.pointer none, .int .i64 i, .int .i64 n, .int .i64 x] w fun e w' => e = .returned (.int .i64 5) ∧ ∃ m, w' = w.drewN m := by
  go_enter Try.func50, Try.ntmps50
  go_wp2_with (go_at_call 44; refine (r_made_nil _).mono ?_; rintro e w' ⟨rfl, n1, rfl⟩)
  go_ret
  exact ⟨rfl, _, rfl⟩
theorem r_swap_nil (w : World) (i : Int) (o : Int) (x : Int) :
    Calls Try.prog 51 #[.pointer none, .int .i64 i, .int .i64 o, .int .i64 x] w fun e w' => e = .returned (.tuple #[.bool false, .int .i64 5]) ∧ ∃ m, w' = w.drewN m := by
  go_enter Try.func51, Try.ntmps51
  go_wp2_with (go_at_call 44; refine (r_made_nil _).mono ?_; rintro e w' ⟨rfl, n1, rfl⟩)
  go_ret2
  exact ⟨rfl, _, rfl⟩
theorem r_add_nil (w : World) (i : Int) (x : Int) :
    Calls Try.prog 52 #[.pointer none, .int .i64 i, .int .i64 x] w fun e w' => e = .returned (.tuple #[.int .i64 0, .int .i64 5]) ∧ ∃ m, w' = w.drewN m := by
  go_enter Try.func52, Try.ntmps52
  go_wp2_with (go_at_call 44; refine (r_made_nil _).mono ?_; rintro e w' ⟨rfl, n1, rfl⟩)
  go_ret2
  exact ⟨rfl, _, rfl⟩
theorem r_next_nil (w : World) (i : Int) (x : Int) :
    Calls Try.prog 53 #[.pointer none, .int .i64 i, .int .i64 x] w fun e w' => e = .returned (.tuple #[.int .i64 0, .int .i64 5]) ∧ ∃ m, w' = w.drewN m := by
  go_enter Try.func53, Try.ntmps53
  go_wp2_with (go_at_call 44; refine (r_made_nil _).mono ?_; rintro e w' ⟨rfl, n1, rfl⟩)
  go_ret2
  exact ⟨rfl, _, rfl⟩
theorem r_last_nil (w : World) (i : Int) (x : Int) :
    Calls Try.prog 54 #[.pointer none, .int .i64 i, .int .i64 x] w fun e w' => e = .returned (.tuple #[.int .i64 0, .int .i64 5]) ∧ ∃ m, w' = w.drewN m := by
  go_enter Try.func54, Try.ntmps54
  go_wp2_with (go_at_call 44; refine (r_made_nil _).mono ?_; rintro e w' ⟨rfl, n1, rfl⟩)
  go_ret2
  exact ⟨rfl, _, rfl⟩
theorem r_entries_nil (w : World)  :
    Calls Try.prog 55 #[.pointer none] w fun e w' => e = .returned (.int .i64 0) ∧ ∃ m, w' = w.drewN m := by
  go_enter Try.func55, Try.ntmps55
  go_wp2_with (go_at_call 44; refine (r_made_nil _).mono ?_; rintro e w' ⟨rfl, n1, rfl⟩)
  go_ret
  exact ⟨rfl, _, rfl⟩
theorem r_width_nil (w : World)  :
    Calls Try.prog 56 #[.pointer none] w fun e w' => e = .returned (.int .i64 0) ∧ ∃ m, w' = w.drewN m := by
  go_enter Try.func56, Try.ntmps56
  go_wp2_with (go_at_call 44; refine (r_made_nil _).mono ?_; rintro e w' ⟨rfl, n1, rfl⟩)
  go_ret
  exact ⟨rfl, _, rfl⟩
theorem r_clone_nil (w : World)  :
    Calls Try.prog 18 #[.pointer none] w fun e w' => e = .returned (.pointer none) ∧ ∃ m, w' = w.drewN m := by
  go_enter Try.func18, Try.ntmps18
  go_wp2_with (go_at_call 44; refine (r_made_nil _).mono ?_; rintro e w' ⟨rfl, n1, rfl⟩)
  go_ret
  exact ⟨rfl, _, rfl⟩
theorem r_has_nil (w : World) (i : Int) :
    Calls Try.prog 66 #[.pointer none, .int .i64 i] w fun e w' => e = .returned (.bool false) ∧ ∃ m, w' = w.drewN m := by
  go_enter Try.func66, Try.ntmps66
  go_wp2_with (go_at_call 44; refine (r_made_nil _).mono ?_; rintro e w' ⟨rfl, n1, rfl⟩)
  go_ret
  exact ⟨rfl, _, rfl⟩
theorem r_get_nil (w : World) (i : Int) :
    Calls Try.prog 57 #[.pointer none, .int .i64 i] w fun e w' => e = .returned (.int .i64 (-1)) ∧ ∃ m, w' = w.drewN m := by
  go_enter Try.func57, Try.ntmps57
  go_wp2_with (go_at_call 66; refine (r_has_nil _ _).mono ?_; rintro e w' ⟨rfl, n1, rfl⟩)
  go_ret
  exact ⟨rfl, _, rfl⟩
theorem r_count_nil (w : World) (x : Int) :
    Calls Try.prog 58 #[.pointer none, .int .i64 x] w fun e w' => e = .returned (.int .i64 0) ∧ ∃ m, w' = w.drewN m := by
  go_enter Try.func58, Try.ntmps58
  go_wp2
  refine wp_loop_rounds 1 ?_
  rw [rounds_succ]
  go_wp2_with (go_at_call 55; refine (r_entries_nil _).mono ?_; rintro e w' ⟨rfl, n1, rfl⟩)
  go_ret
  exact ⟨rfl, _, rfl⟩
theorem r_runs_nil (w : World) (x : Int) :
    Calls Try.prog 59 #[.pointer none, .int .i64 x] w fun e w' => e = .returned (.slice none 0 0) ∧ ∃ m, w' = w.drewN m := by
  go_enter Try.func59, Try.ntmps59
  go_wp2
  refine wp_loop_rounds 1 ?_
  rw [rounds_succ]
  go_wp2_with (go_at_call 55; refine (r_entries_nil _).mono ?_; rintro e w' ⟨rfl, n1, rfl⟩)
  go_ret
  exact ⟨rfl, _, rfl⟩

section
variable {w : World} {v v' : Value}
theorem alike_un (h : Unmade w v) : Calls Try.prog 45 #[v, v'] w fun e w' => e = .returned (.bool false) ∧ ∃ m, w' = w.drewN m := by
  go_enter Try.func45, Try.ntmps45
  go_wp2_with (fail)
  go_quiet ((go_at_call 42; exact Calls.quiet_of (made_un (w := w.drewN _) h)))
  go_wp2
  go_ret
  exact ⟨rfl, _, rfl⟩
theorem alike_made_un {g hh wd : Nat} {L : List Nat} (T : STab w g hh wd L) (h : Unmade w v') : Calls Try.prog 45 #[.pointer (some ⟨g, 0, none⟩), v'] w fun e w' => e = .returned (.bool false) ∧ ∃ m, w' = w.drewN m := by
  go_enter Try.func45, Try.ntmps45
  go_wp2_with (fail)
  go_quiet ((first | (go_at_call_of 42 v'; exact Calls.quiet_of (made_un (w := w.drewN _) h)) | (go_at_call 42; exact Calls.quiet_of (made_yes (w := w.drewN _) T))))
  go_wp2
  go_ret
  exact ⟨rfl, _, rfl⟩
/-- Two of which one is no table. -/
def NotBoth (w : World) (v v' : Value) : Prop := Unmade w v ∨ (Unmade w v' ∧ ∃ g hh wd L, v = .pointer (some ⟨g, 0, none⟩) ∧ STab w g hh wd L)
theorem alike_not (h : NotBoth w v v') : Calls Try.prog 45 #[v, v'] w fun e w' => e = .returned (.bool false) ∧ ∃ m, w' = w.drewN m := by
  rcases h with h | ⟨h, g, hh, wd, L, rfl, T⟩
  · exact alike_un h
  · exact alike_made_un T h
theorem same_not (h : NotBoth w v v') : Calls Try.prog 27 #[v, v'] w fun e w' => e = .returned (.bool false) ∧ ∃ m, w' = w.drewN m := by
  have AL : Hid (∀ n, Calls Try.prog 45 #[v, v'] (w.drewN n) fun e w' => e = .returned (.bool false) ∧ ∃ m, w' = (w.drewN n).drewN m) := fun n => alike_not (w := w.drewN n) h
  clear h
  go_enter Try.func27, Try.ntmps27
  go_wp2_with (fail)
  go_quiet ((go_at_call 45; exact Calls.quiet_of (AL.out _)))
  go_wp2
  go_ret
  exact ⟨rfl, _, rfl⟩
theorem merge_not (h : NotBoth w v v') (op : Int) : Calls Try.prog 19 #[v, v', .int .i64 op] w fun e w' => e = .returned (.tuple #[.pointer none, .int .i64 1]) ∧ ∃ m, w' = w.drewN m := by
  go_enter Try.func19, Try.ntmps19
  go_wp2_with (go_at_call 45; refine (alike_not h).mono ?_; rintro e w' ⟨rfl, n1, rfl⟩)
  go_ret2
  exact ⟨rfl, _, rfl⟩
end
end Go.Proofs.Ythhgcjbmnkdgjaa
