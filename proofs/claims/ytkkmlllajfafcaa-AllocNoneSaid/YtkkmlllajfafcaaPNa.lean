/-
  A heap that nobody made: the contracts of package heap's and the document's functions. Conditions: those that stand in each theorem.
-/
import Derived.Test.YtkkmlllajfafcaaPU
namespace Go.Proofs.Ytkkmlllajfafcaa
set_option linter.unusedVariables false
set_option linter.unusedSimpArgs false
open Go.RowKit Go.Deep Go.Maps
attribute [local go_sem] Oper.semAt_some

/-- A pointer to no heap, or to one that nobody made. -/
def NoH (w : World) (v : Value) : Prop := v = .pointer none ∨ ∃ g, v = .pointer (some ⟨g, 0, none⟩) ∧ w.cell? ⟨g, 0, none⟩ = some (.slice none 0 0)
section
variable {w w' : World} {v : Value}
theorem NoH.kp0 (h : NoH w v) (k : Kp [] w w') : NoH w' v := by
  rcases h with h | ⟨g, h, c⟩
  · exact .inl h
  · exact .inr ⟨g, h, cell_kp k c⟩
theorem n_made (h : NoH w v) : Calls Try.prog 38 #[v] w fun e w' => e = .returned (.bool false) ∧ Kp [] w w' := by
  rcases h with rfl | ⟨g, rfl, c⟩
  all_goals
    go_enter Try.func38, Try.ntmps38
    go_wp2
    go_ret
    exact ⟨rfl, Kp.refl [] w⟩
theorem u_made (w : World) : Calls Try.prog 53 #[.pointer none] w fun e w' => e = .returned (.bool false) ∧ Kp [] w w' := by
  go_enter Try.func53, Try.ntmps53
  go_wp2
  go_ret
  exact ⟨rfl, Kp.refl [] w⟩
set_option maxRecDepth 100000 in
theorem n_claim (h : NoH w v) (a b c d : Int) : Calls Try.prog 43 #[v, .int .i64 a, .int .i64 b, .int .i64 c, .int .i64 d] w fun e w' => e = .returned (.int .i64 5) ∧ Kp [] w w' := by
  have HB := hid h
  go_enter Try.func43, Try.ntmps43
  go_wp2_with (fail)
  refine (n_made HB.out ).mono ?_
  rintro e w1 ⟨rfl, K1⟩
  have HK := hid K1
  clear K1
  go_wp2
  go_ret
  exact ⟨rfl, HK.out⟩
set_option maxRecDepth 100000 in
theorem n_Claim (h : NoH w v) (a b : Int) : Calls Try.prog 29 #[v, .int .i64 a, .int .i64 b] w fun e w' => e = .returned (.int .i64 5) ∧ Kp [] w w' := by
  have HB := hid h
  go_enter Try.func29, Try.ntmps29
  go_wp2_with (fail)
  refine (n_claim HB.out a 1 b 1).mono ?_
  rintro e w1 ⟨rfl, K1⟩
  have HK := hid K1
  clear K1
  go_wp2
  go_ret
  exact ⟨rfl, HK.out⟩
set_option maxRecDepth 100000 in
theorem n_ClaimLarge (h : NoH w v) (a b c : Int) : Calls Try.prog 36 #[v, .int .i64 a, .int .i64 b, .int .i64 c] w fun e w' => e = .returned (.int .i64 5) ∧ Kp [] w w' := by
  have HB := hid h
  go_enter Try.func36, Try.ntmps36
  go_wp2_with (fail)
  refine (n_claim HB.out a b c 2).mono ?_
  rintro e w1 ⟨rfl, K1⟩
  have HK := hid K1
  clear K1
  go_wp2
  go_ret
  exact ⟨rfl, HK.out⟩
set_option maxRecDepth 100000 in
theorem n_place (h : NoH w v) (a r d k : Int) : Calls Try.prog 20 #[v, .int .i64 a, .agg #[.int .i64 r, .int .i64 d, .int .i64 k]] w fun e w' => e = .returned (.tuple #[.int .i64 0, .int .i64 5]) ∧ Kp [] w w' := by
  have HB := hid (h.kp0 (Kp.new w (.cells #[.int .i64 r, .int .i64 d, .int .i64 k] 23)))
  go_enter Try.func20, Try.ntmps20
  go_wp2_with (fail)
  refine (n_made HB.out ).mono ?_
  rintro e w1 ⟨rfl, K1⟩
  have HK := hid K1
  clear K1
  go_wp2
  go_ret2
  exact ⟨rfl, (Kp.new w (.cells #[.int .i64 r, .int .i64 d, .int .i64 k] 23)).chain HK.out⟩
set_option maxRecDepth 100000 in
theorem n_check (h : NoH w v) (a : Int) : Calls Try.prog 31 #[v, .int .i64 a] w fun e w' => e = .returned (.int .i64 5) ∧ Kp [] w w' := by
  have HB := hid h
  go_enter Try.func31, Try.ntmps31
  go_wp2_with (fail)
  refine (n_made HB.out ).mono ?_
  rintro e w1 ⟨rfl, K1⟩
  have HK := hid K1
  clear K1
  go_wp2
  go_ret
  exact ⟨rfl, HK.out⟩
set_option maxRecDepth 100000 in
theorem n_kill (h : NoH w v) (a : Int) : Calls Try.prog 14 #[v, .int .i64 a] w fun e w' => e = .returned (.int .i64 5) ∧ Kp [] w w' := by
  have HB := hid h
  go_enter Try.func14, Try.ntmps14
  go_wp2_with (fail)
  refine (n_check HB.out a).mono ?_
  rintro e w1 ⟨rfl, K1⟩
  have HK := hid K1
  clear K1
  go_wp2
  go_ret
  exact ⟨rfl, HK.out⟩
set_option maxRecDepth 100000 in
theorem n_has (h : NoH w v) (a : Int) : Calls Try.prog 44 #[v, .int .i64 a] w fun e w' => e = .returned (.bool false) ∧ Kp [] w w' := by
  have HB := hid h
  go_enter Try.func44, Try.ntmps44
  go_wp2_with (fail)
  refine (n_made HB.out ).mono ?_
  rintro e w1 ⟨rfl, K1⟩
  have HK := hid K1
  clear K1
  go_wp2
  go_ret
  exact ⟨rfl, HK.out⟩
set_option maxRecDepth 100000 in
theorem n_state (h : NoH w v) (a : Int) : Calls Try.prog 37 #[v, .int .i64 a] w fun e w' => e = .returned (.int .i64 (-1)) ∧ Kp [] w w' := by
  have HB := hid h
  go_enter Try.func37, Try.ntmps37
  go_wp2_with (fail)
  refine (n_made HB.out ).mono ?_
  rintro e w1 ⟨rfl, K1⟩
  have HK := hid K1
  clear K1
  go_wp2
  go_ret
  exact ⟨rfl, HK.out⟩
end
end Go.Proofs.Ytkkmlllajfafcaa
