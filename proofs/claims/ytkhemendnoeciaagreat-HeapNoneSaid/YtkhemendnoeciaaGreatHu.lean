/-
  The contract of package heap's New. Conditions: those that stand in each theorem.
-/
import Derived.Test.YtkhemendnoeciaaGreatHt
namespace Go.Proofs.YtkhemendnoeciaaGreat
set_option linter.unusedVariables false
set_option linter.unusedSimpArgs false
open Go.RowKit Go.Deep Go.Maps

section
variable {w w' : World} {b : HB} {r : RM} {m : HM} {q : Nat}
theorem h_new_bad (n : Int) (w : World) (hn : ¬ (2 ≤ n ∧ n ≤ 64)) :
    Calls Tryz.prog 7 #[.int .i64 n] w fun e w' => e = .returned (.tuple #[.pointer none, .int .i64 1]) ∧ ∃ m, w' = w.drewN m := by
  by_cases h1 : n < 2
  · clear hn
    go_enter Tryz.func7, Tryz.ntmps7
    go_wp2
    go_ret2
    exact ⟨rfl, 0, rfl⟩
  · have h2 : 64 < n := by omega
    clear hn
    go_enter Tryz.func7, Tryz.ntmps7
    go_wp2
    go_ret2
    exact ⟨rfl, 0, rfl⟩
set_option maxHeartbeats 8000000 in
set_option maxRecDepth 100000 in
theorem h_new_ok (n : Nat) (w : World) (h1 : 2 ≤ n) (h2 : n ≤ 64) :
    Calls Tryz.prog 7 #[.int .i64 (n : Int)] w fun e w' => ∃ b : HB, e = .returned (.tuple #[.pointer (some ⟨b.g, 0, none⟩), .int .i64 0]) ∧ SH w' b 0 (HM.new n) ∧ Kp [] w w' ∧ ∀ x ∈ b.all, w.heap.size ≤ x := by
  obtain ⟨i0, hi0, hz0, hz1, hz2⟩ := info_parts infoBlock
  have hmk1 : ∀ W : World, (Instr.makeSlice 41 (.int .i64 (n : Int)) (.int .i64 (n : Int))).run Tryz.prog W = .ok (.slice (some ⟨W.heap.size, 0, none⟩) n n) (W.alloc (.cells (madeCells #[.int .i64 0, .int .i64 0] (n * 2)) 74)) := fun W => by
    have := run_make_rowN (P := Tryz.prog) 41 74 i0 _ Tryz.underlying41 hi0 hz0 .i64 .i64 n n (Nat.le_refl _) (by rw [hz2]; omega) (by omega) W
    rw [hz1] at this
    exact this
  have hmk2 : ∀ W : World, (Instr.makeSlice 42 (.int .i64 ((n : Int) * 64)) (.int .i64 ((n : Int) * 64))).run Tryz.prog W = .ok (.slice (some ⟨W.heap.size, 0, none⟩) (n * 64) (n * 64)) (W.alloc (.cells (madeCells #[.int .i64 0] (n * 64)) 3)) := fun W => by
    rw [show ((n : Int) * 64) = ((n * 64 : Nat) : Int) by omega]
    exact run_make_row' (P := Tryz.prog) 42 3 (.int .i64 0) 8 Tryz.underlying42 infoInt rfl .i64 .i64 (n * 64) (by omega) (by omega) W
  have hmm := @run_makeMap Tryz.prog
  have HN1 := hid (fun W : World => new_ok (n * 32) 2 W (by omega) (by omega) (by unfold Wd; omega))
  have HN2 := hid (fun W : World => new_ok (n * 32) 1 W (by omega) (by omega) (by unfold Wd; omega))
  have HE := hid (show ((n : Int) * 32) = ((n * 32 : Nat) : Int) by omega)
  clear hi0 hz0 hz1 hz2
  go_enter Tryz.func7, Tryz.ntmps7
  go_wp2_with (fail)
  rw [HE.out]
  refine (HN1.out _).mono ?_
  rintro e w1 ⟨rfl, T1, K1⟩
  have HT1 := hid T1
  have HK1 := hid K1
  clear T1 K1
  go_wp2_with (fail)
  rw [HE.out]
  refine (HN2.out _).mono ?_
  rintro e w2 ⟨rfl, T2, K2⟩
  have HT2 := hid T2
  have HK2 := hid K2
  clear T2 K2
  have hs1 : w.heap.size + 1 < w1.heap.size := HT1.out.g_lt
  have hs2 : w1.heap.size + 1 < w2.heap.size := HT2.out.g_lt
  go_wp2
  go_region
  all_goals (
    go_wp2
    go_ret2
    refine new_close n h1 h2 HT1.out HK1.out HT2.out HK2.out _ _ _ _ _ _ _ _ ?_ ?_ ?_ ?_ ?_ ?_ ?_ ?_ ?_
    · first | exact at0 w2.heap _ _ _ _ _ | exact at1 w2.heap _ _ _ _ _ | exact at2 w2.heap _ _ _ _ _ | exact at3 w2.heap _ _ _ _ _
    · first | exact at0 w2.heap _ _ _ _ _ | exact at1 w2.heap _ _ _ _ _ | exact at2 w2.heap _ _ _ _ _ | exact at3 w2.heap _ _ _ _ _
    · first | exact at0 w2.heap _ _ _ _ _ | exact at1 w2.heap _ _ _ _ _ | exact at2 w2.heap _ _ _ _ _ | exact at3 w2.heap _ _ _ _ _
    · first | exact at0 w2.heap _ _ _ _ _ | exact at1 w2.heap _ _ _ _ _ | exact at2 w2.heap _ _ _ _ _ | exact at3 w2.heap _ _ _ _ _
    all_goals omega)
end
end Go.Proofs.YtkhemendnoeciaaGreat
