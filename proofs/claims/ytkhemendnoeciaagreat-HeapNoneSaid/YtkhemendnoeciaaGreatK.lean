/-
  The contracts of package side's isWidth and New. Conditions: those that stand in each theorem.
-/
import Derived.Test.YtkhemendnoeciaaGreatC
import Derived.Deep.OwnRows
namespace Go.Proofs.YtkhemendnoeciaaGreat
set_option linter.unusedVariables false
set_option linter.unusedSimpArgs false
open Go.RowKit Go.Deep

def wdB (v : Int) : Bool := decide (v = 1 ∨ v = 2 ∨ v = 4 ∨ v = 8)
theorem wdB_nat {v : Int} (h : wdB v = true) : ∃ wd : Nat, v = (wd : Int) ∧ Wd wd := by
  have := of_decide_eq_true h
  exact ⟨v.toNat, by omega, by unfold Wd; omega⟩

theorem isWidth_any (v : Int) (w : World) :
    Calls Tryz.prog 106 #[.int .i64 v] w fun e w' => e = .returned (.bool (wdB v)) ∧ ∃ m, w' = w.drewN m := by
  by_cases h0 : v = 1
  · have e : wdB v = true := decide_eq_true (by omega)
    rw [e]; subst h0; clear e 
    go_enter Tryz.func106, Tryz.ntmps106
    go_wp2
    refine wp_loop_rounds 1 ?_
    iterate 1 (rw [rounds_succ]; go_wp2)
    go_ret
    exact ⟨rfl, 0, rfl⟩
  by_cases h1 : v = 2
  · have e : wdB v = true := decide_eq_true (by omega)
    rw [e]; subst h1; clear e h0
    go_enter Tryz.func106, Tryz.ntmps106
    go_wp2
    refine wp_loop_rounds 2 ?_
    iterate 2 (rw [rounds_succ]; go_wp2)
    go_ret
    exact ⟨rfl, 0, rfl⟩
  by_cases h2 : v = 4
  · have e : wdB v = true := decide_eq_true (by omega)
    rw [e]; subst h2; clear e h0 h1
    go_enter Tryz.func106, Tryz.ntmps106
    go_wp2
    refine wp_loop_rounds 3 ?_
    iterate 3 (rw [rounds_succ]; go_wp2)
    go_ret
    exact ⟨rfl, 0, rfl⟩
  by_cases h3 : v = 8
  · have e : wdB v = true := decide_eq_true (by omega)
    rw [e]; subst h3; clear e h0 h1 h2
    go_enter Tryz.func106, Tryz.ntmps106
    go_wp2
    refine wp_loop_rounds 4 ?_
    iterate 4 (rw [rounds_succ]; go_wp2)
    go_ret
    exact ⟨rfl, 0, rfl⟩
  have e : wdB v = false := decide_eq_false (by omega)
  have g0 : (v == 1) = false := beq_eq_false_iff_ne.2 h0
  have g1 : (v == 2) = false := beq_eq_false_iff_ne.2 h1
  have g2 : (v == 4) = false := beq_eq_false_iff_ne.2 h2
  have g3 : (v == 8) = false := beq_eq_false_iff_ne.2 h3
  rw [e]
  clear e h0 h1 h2 h3
  go_enter Tryz.func106, Tryz.ntmps106
  go_wp2
  refine wp_loop_rounds 5 ?_
  iterate 5 (rw [rounds_succ]; go_wp2)
  go_ret
  exact ⟨rfl, 0, rfl⟩

theorem infoU64 : (Tryz.prog.info? 100).map (fun i => (i.zero, i.size, i.bytes)) = some (some (.int .u64 0), 1, 8) := by kernel_rfl

theorem made_w (m : Nat) : madeCells #[.int .u64 0] m = (wcells (List.replicate m 0) ++ []).toArray := by
  apply Array.toList_inj.1
  rw [toList_madeCells_one]
  simp [wcells]
theorem made_i (m : Nat) : madeCells #[.int .i64 0] m = (icells (List.replicate m 0) ++ []).toArray := by
  apply Array.toList_inj.1
  rw [toList_madeCells_one]
  simp [icells]
theorem ent_replicate (m k : Nat) : ent (List.replicate m 0) k = 0 := by
  unfold ent
  rw [List.getD_eq_getElem?_getD, List.getElem?_replicate]
  split <;> rfl
theorem STab.fresh (w : World) (n wd : Nat) (h1 : 1 ≤ n) (h2 : n ≤ 4096) (hw : Wd wd) :
    STab ((w.alloc (.cells (madeCells #[.int .u64 0] ((n * wd + 63) / 64)) 100)).alloc (.cells #[.int .i64 (n : Int), .int .i64 (wd : Int), .slice (some ⟨w.heap.size, 0, none⟩) ((n * wd + 63) / 64) ((n * wd + 63) / 64)] 98))
      (w.heap.size + 1) w.heap.size wd (List.replicate n 0) := by
  have hb : n * wd ≤ 32768 := by
    have := Nat.mul_le_mul h2 hw.le
    omega
  refine ⟨List.replicate ((n * wd + 63) / 64) 0, (n * wd + 63) / 64, [], Enc.zero hw, by simpa using h1, by simpa using h2, by simp, by unfold maxLen; omega, by simp [wcells], ?_, ?_⟩
  · have := Blk.at_end (w := w.alloc (.cells (madeCells #[.int .u64 0] ((n * wd + 63) / 64)) 100)) (g := w.heap.size + 1) (t := 98) (cs := #[.int .i64 (n : Int), .int .i64 (wd : Int), .slice (some ⟨w.heap.size, 0, none⟩) ((n * wd + 63) / 64) ((n * wd + 63) / 64)]) (by simp)
    simpa using this
  · rw [← made_w]
    exact (Blk.new w 100 _).kp (Kp.new _ _) (by simp)
def newB (n wd : Int) : Bool := decide (1 ≤ n ∧ n ≤ 4096) && wdB wd
theorem new_bad (n v : Int) (w : World) (hb : newB n v = false) :
    Calls Tryz.prog 32 #[.int .i64 n, .int .i64 v] w fun e w' => e = .returned (.tuple #[.pointer none, .int .i64 1]) ∧ ∃ m, w' = w.drewN m := by
  by_cases h1 : n < 1
  · clear hb
    go_enter Tryz.func32, Tryz.ntmps32
    go_wp2_with (go_at_call 106; refine (isWidth_any _ _).mono ?_; rintro e w' ⟨rfl, n2, rfl⟩)
    go_ret2
    exact ⟨rfl, 0, rfl⟩
  by_cases h2 : 4096 < n
  · clear hb
    go_enter Tryz.func32, Tryz.ntmps32
    go_wp2_with (go_at_call 106; refine (isWidth_any _ _).mono ?_; rintro e w' ⟨rfl, n2, rfl⟩)
    go_ret2
    exact ⟨rfl, 0, rfl⟩
  have h3 : wdB v = false := by
    unfold newB at hb
    rw [decide_eq_true (by omega)] at hb
    simpa using hb
  clear hb
  go_enter Tryz.func32, Tryz.ntmps32
  go_wp2_with (go_at_call 106; refine (isWidth_any _ _).mono ?_; rintro e w' ⟨rfl, n2, rfl⟩)
  go_ret2
  exact ⟨rfl, _, rfl⟩
theorem new_ok (n wd : Nat) (w : World) (h1 : 1 ≤ n) (h2 : n ≤ 4096) (hw : Wd wd) :
    Calls Tryz.prog 32 #[.int .i64 (n : Int), .int .i64 (wd : Int)] w fun e w' => e = .returned (.tuple #[.pointer (some ⟨w.heap.size + 1, 0, none⟩), .int .i64 0]) ∧ STab w' (w.heap.size + 1) w.heap.size wd (List.replicate n 0) ∧ Kp [] w w' := by
  have hwd : wdB (wd : Int) = true := decide_eq_true (by unfold Wd at hw; omega)
  have hb : n * wd ≤ 32768 := by
    have := Nat.mul_le_mul h2 hw.le
    omega
  have hmk : ∀ W : World, (Instr.makeSlice 96 (.int .i64 (((n : Int) * (wd : Int) + 64 - 1) / 64)) (.int .i64 (((n : Int) * (wd : Int) + 64 - 1) / 64))).run Tryz.prog W =
      .ok (.slice (some ⟨W.heap.size, 0, none⟩) ((n * wd + 63) / 64) ((n * wd + 63) / 64)) (W.alloc (.cells (madeCells #[.int .u64 0] ((n * wd + 63) / 64)) 100)) := fun W => by
    have e : (((n : Int) * (wd : Int) + 64 - 1) / 64) = (((n * wd + 63) / 64 : Nat) : Int) := by
      rw [← Int.natCast_mul]; omega
    rw [e]
    exact run_make_row' (P := Tryz.prog) 96 100 (.int .u64 0) 8 Tryz.underlying96 infoU64 rfl .i64 .i64 ((n * wd + 63) / 64) (by omega) (by omega) W
  go_enter Tryz.func32, Tryz.ntmps32
  go_wp2_with (go_at_call 106; refine (isWidth_any _ _).mono ?_; rintro e w' ⟨rfl, n2, rfl⟩)
  go_ret2
  exact ⟨rfl, STab.fresh (w.drewN n2) n wd h1 h2 hw, (Kp.draw w n2).trans ((Kp.new _ _).trans (Kp.new _ _) (U := []) (by simp) (by simp)) (by simp) (by simp)⟩

end Go.Proofs.YtkhemendnoeciaaGreat
