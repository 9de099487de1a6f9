/-
  A heap that nobody made: the contracts of package heap's and the document's functions. Conditions: those that stand in each theorem.
-/
import Derived.Test.YthndilllnneijaaGreatPU
set_option linter.unusedSimpArgs false
set_option linter.unusedVariables false
set_option maxRecDepth 100000
namespace Go.Proofs.YthndilllnneijaaGreat
open Go.RowKit Go.Deep Go.Maps
attribute [local go_sem] Oper.semAt_some
def NoH (w : World) (v : Value) : Prop := v = .pointer none ∨ ∃ g, v = .pointer (some ⟨g, 0, none⟩) ∧ w.cell? ⟨g, 0, none⟩ = some (.slice none 0 0)
section
variable {w w' : World} {v : Value}
theorem NoH.kp0 (h : NoH w v) (k : Kp [] w w') : NoH w' v := by
 rcases h with h | ⟨g, h, c⟩
 · exact .inl h
 · exact .inr ⟨g, h, cell_kp k c⟩
theorem n_made (h : NoH w v) : Calls Tryz.prog 55 #[v] w fun e w' => e = .returned (.bool false) ∧ Kp [] w w' := by
 rcases h with rfl | ⟨g, rfl, c⟩
 all_goals
   go_enter Tryz.func55, Tryz.ntmps55
   go_wp2
   go_ret
   exact ⟨rfl, Kp.refl [] w⟩
theorem u_made (w : World) : Calls Tryz.prog 60 #[.pointer none] w fun e w' => e = .returned (.bool false) ∧ Kp [] w w' := by
 go_enter Tryz.func60, Tryz.ntmps60
 go_wp2
 go_ret
 exact ⟨rfl, Kp.refl [] w⟩
theorem n_state (h : NoH w v) (a : Int) : Calls Tryz.prog 41 #[v, .int .i64 a] w fun e w' => e = .returned (.int .i64 (-1)) ∧ Kp [] w w' := by
 have HB := hid h
 go_enter Tryz.func41, Tryz.ntmps41
 go_wp2_with (fail)
 refine (n_made HB.out ).mono ?_
 rintro e w1 ⟨rfl, K1⟩
 have HK := hid K1
 clear K1
 go_wp2
 go_ret
 exact ⟨rfl, HK.out⟩
end
end Go.Proofs.YthndilllnneijaaGreat
