/-
  A model that nobody made: the contracts of package model's and the document's functions. Conditions: those that stand in each theorem.
-/
import Derived.Test.YtbiompmklijgoaaDoorPGB
import Derived.Test.YtbiompmklijgoaaDoorPGC
import Derived.Deep.RegionHeld3
namespace Go.Proofs.YtbiompmklijgoaaDoor
set_option linter.unusedVariables false
set_option linter.unusedSimpArgs false
open Go.RowKit Go.Deep Go.Maps
attribute [local go_sem] Oper.semAt_some

/-- A pointer to no model, or to one that nobody made. -/
def NoH (w : World) (v : Value) : Prop := v = .pointer none ∨ ∃ g, v = .pointer (some ⟨g, 0, none⟩) ∧ w.cell? ⟨g, 0, none⟩ = some (.slice none 0 0)
section
variable {w w' : World} {v : Value}
theorem NoH.kp0 (h : NoH w v) (k : Kp [] w w') : NoH w' v := by
  rcases h with h | ⟨g, h, c⟩
  · exact .inl h
  · exact .inr ⟨g, h, cell_kp k c⟩
theorem n_made (h : NoH w v) : Calls Tryd.prog 41 #[v] w fun e w' => e = .returned (.bool false) ∧ Kp [] w w' := by
  rcases h with rfl | ⟨g, rfl, c⟩
  all_goals
    go_enter Tryd.func41, Tryd.ntmps41
    go_wp2
    go_ret
    exact ⟨rfl, Kp.refl [] w⟩
theorem u_made (w : World) : Calls Tryd.prog 45 #[.pointer none] w fun e w' => e = .returned (.bool false) ∧ Kp [] w w' := by
  go_enter Tryd.func45, Tryd.ntmps45
  go_wp2
  go_ret
  exact ⟨rfl, Kp.refl [] w⟩
set_option maxRecDepth 100000 in
theorem n_check (h : NoH w v) (a : Int) : Calls Tryd.prog 67 #[v, .int .i64 a] w fun e w' => e = .returned (.int .i64 5) ∧ Kp [] w w' := by
  have HB := hid h
  go_enter Tryd.func67, Tryd.ntmps67
  go_wp2_with (fail)
  refine (n_made HB.out ).mono ?_
  rintro e w1 ⟨rfl, K1⟩
  have HK := hid K1
  clear K1
  go_wp2
  go_ret
  exact ⟨rfl, HK.out⟩
set_option maxRecDepth 100000 in
theorem n_Slot (h : NoH w v) (a b : Int) : Calls Tryd.prog 20 #[v, .int .i64 a, .int .i64 b] w fun e w' => e = .returned (.tuple #[.int .i64 0, .int .i64 5]) ∧ Kp [] w w' := by
  have HB := hid h
  go_enter Tryd.func20, Tryd.ntmps20
  go_wp2_with (fail)
  refine (n_made HB.out ).mono ?_
  rintro e w1 ⟨rfl, K1⟩
  have HK := hid K1
  clear K1
  go_wp2
  go_ret2
  exact ⟨rfl, HK.out⟩
set_option maxRecDepth 100000 in
theorem n_Global (h : NoH w v) (a : Int) : Calls Tryd.prog 21 #[v, .int .i64 a] w fun e w' => e = .returned (.tuple #[.int .i64 0, .int .i64 5]) ∧ Kp [] w w' := by
  have HB := hid h
  go_enter Tryd.func21, Tryd.ntmps21
  go_wp2_with (fail)
  refine (n_made HB.out ).mono ?_
  rintro e w1 ⟨rfl, K1⟩
  have HK := hid K1
  clear K1
  go_wp2
  go_ret2
  exact ⟨rfl, HK.out⟩
set_option maxRecDepth 100000 in
theorem n_Births (h : NoH w v) : Calls Tryd.prog 24 #[v] w fun e w' => e = .returned (.int .i64 0) ∧ Kp [] w w' := by
  have HB := hid h
  go_enter Tryd.func24, Tryd.ntmps24
  go_wp2_with (fail)
  refine (n_made HB.out ).mono ?_
  rintro e w1 ⟨rfl, K1⟩
  have HK := hid K1
  clear K1
  go_wp2
  go_ret
  exact ⟨rfl, HK.out⟩
set_option maxRecDepth 100000 in
theorem n_Mutators (h : NoH w v) : Calls Tryd.prog 25 #[v] w fun e w' => e = .returned (.int .i64 0) ∧ Kp [] w w' := by
  have HB := hid h
  go_enter Tryd.func25, Tryd.ntmps25
  go_wp2_with (fail)
  refine (n_made HB.out ).mono ?_
  rintro e w1 ⟨rfl, K1⟩
  have HK := hid K1
  clear K1
  go_wp2
  go_ret
  exact ⟨rfl, HK.out⟩
set_option maxRecDepth 100000 in
theorem n_Queue (h : NoH w v) : Calls Tryd.prog 26 #[v] w fun e w' => e = .returned (.slice none 0 0) ∧ Kp [] w w' := by
  have HB := hid h
  go_enter Tryd.func26, Tryd.ntmps26
  go_wp2_with (fail)
  refine (n_made HB.out ).mono ?_
  rintro e w1 ⟨rfl, K1⟩
  have HK := hid K1
  clear K1
  go_wp2
  go_ret
  exact ⟨rfl, HK.out⟩
set_option maxRecDepth 100000 in
theorem n_Kept (h : NoH w v) : Calls Tryd.prog 23 #[v] w fun e w' => e = .returned (.slice none 0 0) ∧ Kp [] w w' := by
  have HB := hid h
  go_enter Tryd.func23, Tryd.ntmps23
  go_wp2_with (fail)
  refine (n_made HB.out ).mono ?_
  rintro e w1 ⟨rfl, K1⟩
  have HK := hid K1
  clear K1
  go_wp2
  go_ret
  exact ⟨rfl, HK.out⟩
set_option maxRecDepth 100000 in
theorem n_Collect (h : NoH w v) : Calls Tryd.prog 39 #[v] w fun e w' => e = .returned (.int .i64 0) ∧ Kp [] w w' := by
  have HB := hid h
  go_enter Tryd.func39, Tryd.ntmps39
  go_wp2_with (fail)
  refine (n_made HB.out ).mono ?_
  rintro e w1 ⟨rfl, K1⟩
  have HK := hid K1
  clear K1
  go_wp2
  go_ret
  exact ⟨rfl, HK.out⟩
set_option maxRecDepth 100000 in
theorem n_Push (h : NoH w v) (a : Int) : Calls Tryd.prog 37 #[v, .int .i64 a] w fun e w' => e = .returned (.int .i64 5) ∧ Kp [] w w' := by
  have HB := hid h
  go_enter Tryd.func37, Tryd.ntmps37
  go_wp2_with (fail)
  refine (n_check HB.out a).mono ?_
  rintro e w1 ⟨rfl, K1⟩
  have HK := hid K1
  clear K1
  go_wp2
  go_ret
  exact ⟨rfl, HK.out⟩
set_option maxRecDepth 100000 in
theorem n_Pop (h : NoH w v) : Calls Tryd.prog 50 #[v] w fun e w' => e = .returned (.tuple #[.int .i64 0, .int .i64 5]) ∧ Kp [] w w' := by
  have HB := hid h
  go_enter Tryd.func50, Tryd.ntmps50
  go_wp2_with (fail)
  refine (n_made HB.out ).mono ?_
  rintro e w1 ⟨rfl, K1⟩
  have HK := hid K1
  clear K1
  go_wp2
  go_ret2
  exact ⟨rfl, HK.out⟩
set_option maxRecDepth 100000 in
theorem n_SetRef (h : NoH w v) (a b c : Int) : Calls Tryd.prog 36 #[v, .int .i64 a, .int .i64 b, .int .i64 c] w fun e w' => e = .returned (.int .i64 5) ∧ Kp [] w w' := by
  have HB := hid h
  go_enter Tryd.func36, Tryd.ntmps36
  go_wp2_with (fail)
  refine (n_check HB.out a).mono ?_
  rintro e w1 ⟨rfl, K1⟩
  have HK := hid K1
  clear K1
  go_wp2
  go_ret
  exact ⟨rfl, HK.out⟩
set_option maxRecDepth 100000 in
theorem n_Shape (h : NoH w v) (a : Int) : Calls Tryd.prog 34 #[v, .int .i64 a] w fun e w' => e = .returned (.tuple #[.agg #[.int .i64 0, .int .i64 0, .int .i64 0], .int .i64 5]) ∧ Kp [] w w' := by
  have K0 := hid (Kp.new w (.cells #[.int .i64 0, .int .i64 0, .int .i64 0] 33))
  have B0 := hid (Blk.new w 33 #[.int .i64 0, .int .i64 0, .int .i64 0])
  have HB := hid (h.kp0 K0.out)
  clear h
  go_enter Tryd.func34, Tryd.ntmps34
  go_wp2_with (fail)
  refine (n_check HB.out a).mono ?_
  rintro e w1 ⟨rfl, K1⟩
  have HK := hid (K0.out.chain K1)
  have B1 := B0.out.kp K1 (by simp)
  have c0 := B1.cell 0
  have c1 := B1.cell 1
  have c2 := B1.cell 2
  have f0 := B1.frozen 0
  have f1 := B1.frozen 1
  have f2 := B1.frozen 2
  have HB1 := hid B1
  clear K1 B1
  go_wp2
  have hB9 := ((HB1.out.set_ 0 (.int .i64 0)).set_ 1 (.int .i64 0)).set_ 2 (.int .i64 0)
  have hK9 : Kp [] w (((w1.setCell ⟨w.heap.size, 0, none⟩ (.int .i64 0)).setCell ⟨w.heap.size, 1, none⟩ (.int .i64 0)).setCell ⟨w.heap.size, 2, none⟩ (.int .i64 0)) :=
    (((HK.out.trans (Kp.cell _ ⟨w.heap.size, 0, none⟩ _) (U := []) (by simp) (by simp)).trans (Kp.cell _ ⟨w.heap.size, 1, none⟩ _) (U := []) (by simp) (by simp)).trans (Kp.cell _ ⟨w.heap.size, 2, none⟩ _) (U := []) (by simp) (by simp))
  generalize (((w1.setCell ⟨w.heap.size, 0, none⟩ (.int .i64 0)).setCell ⟨w.heap.size, 1, none⟩ (.int .i64 0)).setCell ⟨w.heap.size, 2, none⟩ (.int .i64 0)) = W9 at hB9 hK9 ⊢
  have q0 : W9.cell? ⟨w.heap.size, 0, none⟩ = some (.int .i64 0) := hB9.cell 0
  have q1 : W9.cell? ⟨w.heap.size, 1, none⟩ = some (.int .i64 0) := hB9.cell 1
  have q2 : W9.cell? ⟨w.heap.size, 2, none⟩ = some (.int .i64 0) := hB9.cell 2
  refine bodyPost_ret (v := .tuple #[.agg #[.int .i64 0, .int .i64 0, .int .i64 0], .int .i64 5]) ?_ rfl ⟨rfl, hK9⟩
  simp [results, Tryd.results34, q0, q1, q2, go_sem]
set_option maxRecDepth 100000 in
theorem n_Ref (h : NoH w v) (a b : Int) : Calls Tryd.prog 35 #[v, .int .i64 a, .int .i64 b] w fun e w' => e = .returned (.tuple #[.int .i64 0, .int .i64 5]) ∧ Kp [] w w' := by
  have HB := hid h
  go_enter Tryd.func35, Tryd.ntmps35
  go_wp2_with (fail)
  refine (n_check HB.out a).mono ?_
  rintro e w1 ⟨rfl, K1⟩
  have HK := hid K1
  clear K1
  go_wp2
  go_ret2
  exact ⟨rfl, HK.out⟩
set_option maxRecDepth 100000 in
theorem n_Data (h : NoH w v) (a b : Int) : Calls Tryd.prog 63 #[v, .int .i64 a, .int .i64 b] w fun e w' => e = .returned (.tuple #[.int .i64 0, .int .i64 5]) ∧ Kp [] w w' := by
  have HB := hid h
  go_enter Tryd.func63, Tryd.ntmps63
  go_wp2_with (fail)
  refine (n_check HB.out a).mono ?_
  rintro e w1 ⟨rfl, K1⟩
  have HK := hid K1
  clear K1
  go_wp2
  go_ret2
  exact ⟨rfl, HK.out⟩
set_option maxRecDepth 100000 in
theorem n_Clone (h : NoH w v) : Calls Tryd.prog 16 #[v] w fun e w' => e = .returned (.pointer none) ∧ Kp [] w w' := by
  have HB := hid h
  go_enter Tryd.func16, Tryd.ntmps16
  go_wp2_with (fail)
  refine (n_made HB.out ).mono ?_
  rintro e w1 ⟨rfl, K1⟩
  have HK := hid K1
  clear K1
  go_wp2
  go_ret
  exact ⟨rfl, HK.out⟩
set_option maxRecDepth 100000 in
theorem u_lacks (w : World) (a : Int) : Calls Tryd.prog 79 #[.pointer none, .int .i64 a] w fun e w' => e = .returned (.int .i64 5) ∧ Kp [] w w' := by
  go_enter Tryd.func79, Tryd.ntmps79
  go_wp2_with (fail)
  refine (u_made _ ).mono ?_
  rintro e w1 ⟨rfl, K1⟩
  have HK := hid K1
  clear K1
  go_wp2
  go_ret
  exact ⟨rfl, HK.out⟩
set_option maxRecDepth 100000 in
theorem u_Collect (w : World) : Calls Tryd.prog 48 #[.pointer none] w fun e w' => e = .returned (.int .i64 0) ∧ Kp [] w w' := by
  go_enter Tryd.func48, Tryd.ntmps48
  go_wp2_with (fail)
  refine (u_made _ ).mono ?_
  rintro e w1 ⟨rfl, K1⟩
  have HK := hid K1
  clear K1
  go_wp2
  go_ret
  exact ⟨rfl, HK.out⟩
set_option maxRecDepth 100000 in
theorem u_Push (w : World) (a : Int) : Calls Tryd.prog 49 #[.pointer none, .int .i64 a] w fun e w' => e = .returned (.int .i64 5) ∧ Kp [] w w' := by
  go_enter Tryd.func49, Tryd.ntmps49
  go_wp2_with (fail)
  refine (u_made _ ).mono ?_
  rintro e w1 ⟨rfl, K1⟩
  have HK := hid K1
  clear K1
  go_wp2
  go_ret
  exact ⟨rfl, HK.out⟩
set_option maxRecDepth 100000 in
theorem u_Pop (w : World) : Calls Tryd.prog 51 #[.pointer none] w fun e w' => e = .returned (.tuple #[.int .i64 0, .int .i64 5]) ∧ Kp [] w w' := by
  go_enter Tryd.func51, Tryd.ntmps51
  go_wp2_with (fail)
  refine (u_made _ ).mono ?_
  rintro e w1 ⟨rfl, K1⟩
  have HK := hid K1
  clear K1
  go_wp2
  go_ret2
  exact ⟨rfl, HK.out⟩
set_option maxRecDepth 100000 in
theorem u_SetRef (w : World) (a b c : Int) : Calls Tryd.prog 52 #[.pointer none, .int .i64 a, .int .i64 b, .int .i64 c] w fun e w' => e = .returned (.int .i64 5) ∧ Kp [] w w' := by
  go_enter Tryd.func52, Tryd.ntmps52
  go_wp2_with (fail)
  refine (u_lacks _ a).mono ?_
  rintro e w1 ⟨rfl, K1⟩
  have HK := hid K1
  clear K1
  go_wp2
  go_ret
  exact ⟨rfl, HK.out⟩
set_option maxRecDepth 100000 in
theorem u_Shape (w : World) (a : Int) : Calls Tryd.prog 61 #[.pointer none, .int .i64 a] w fun e w' => e = .returned (.tuple #[.agg #[.int .i64 0, .int .i64 0, .int .i64 0], .int .i64 5]) ∧ Kp [] w w' := by
  have K0 := hid (Kp.new w (.cells #[.int .i64 0, .int .i64 0, .int .i64 0] 33))
  have B0 := hid (Blk.new w 33 #[.int .i64 0, .int .i64 0, .int .i64 0])
  go_enter Tryd.func61, Tryd.ntmps61
  go_wp2_with (fail)
  refine (u_lacks _ a).mono ?_
  rintro e w1 ⟨rfl, K1⟩
  have HK := hid (K0.out.chain K1)
  have B1 := B0.out.kp K1 (by simp)
  have c0 := B1.cell 0
  have c1 := B1.cell 1
  have c2 := B1.cell 2
  have f0 := B1.frozen 0
  have f1 := B1.frozen 1
  have f2 := B1.frozen 2
  have HB1 := hid B1
  clear K1 B1
  go_wp2
  have hB9 := ((HB1.out.set_ 0 (.int .i64 0)).set_ 1 (.int .i64 0)).set_ 2 (.int .i64 0)
  have hK9 : Kp [] w (((w1.setCell ⟨w.heap.size, 0, none⟩ (.int .i64 0)).setCell ⟨w.heap.size, 1, none⟩ (.int .i64 0)).setCell ⟨w.heap.size, 2, none⟩ (.int .i64 0)) :=
    (((HK.out.trans (Kp.cell _ ⟨w.heap.size, 0, none⟩ _) (U := []) (by simp) (by simp)).trans (Kp.cell _ ⟨w.heap.size, 1, none⟩ _) (U := []) (by simp) (by simp)).trans (Kp.cell _ ⟨w.heap.size, 2, none⟩ _) (U := []) (by simp) (by simp))
  generalize (((w1.setCell ⟨w.heap.size, 0, none⟩ (.int .i64 0)).setCell ⟨w.heap.size, 1, none⟩ (.int .i64 0)).setCell ⟨w.heap.size, 2, none⟩ (.int .i64 0)) = W9 at hB9 hK9 ⊢
  have q0 : W9.cell? ⟨w.heap.size, 0, none⟩ = some (.int .i64 0) := hB9.cell 0
  have q1 : W9.cell? ⟨w.heap.size, 1, none⟩ = some (.int .i64 0) := hB9.cell 1
  have q2 : W9.cell? ⟨w.heap.size, 2, none⟩ = some (.int .i64 0) := hB9.cell 2
  refine bodyPost_ret (v := .tuple #[.agg #[.int .i64 0, .int .i64 0, .int .i64 0], .int .i64 5]) ?_ rfl ⟨rfl, hK9⟩
  simp [results, Tryd.results61, q0, q1, q2, go_sem]
set_option maxRecDepth 100000 in
theorem u_Ref (w : World) (a b : Int) : Calls Tryd.prog 62 #[.pointer none, .int .i64 a, .int .i64 b] w fun e w' => e = .returned (.tuple #[.int .i64 0, .int .i64 5]) ∧ Kp [] w w' := by
  go_enter Tryd.func62, Tryd.ntmps62
  go_wp2_with (fail)
  refine (u_lacks _ a).mono ?_
  rintro e w1 ⟨rfl, K1⟩
  have HK := hid K1
  clear K1
  go_wp2
  go_ret2
  exact ⟨rfl, HK.out⟩
set_option maxRecDepth 100000 in
theorem u_Data (w : World) (a b : Int) : Calls Tryd.prog 64 #[.pointer none, .int .i64 a, .int .i64 b] w fun e w' => e = .returned (.tuple #[.int .i64 0, .int .i64 5]) ∧ Kp [] w w' := by
  go_enter Tryd.func64, Tryd.ntmps64
  go_wp2_with (fail)
  refine (u_lacks _ a).mono ?_
  rintro e w1 ⟨rfl, K1⟩
  have HK := hid K1
  clear K1
  go_wp2
  go_ret2
  exact ⟨rfl, HK.out⟩
set_option maxRecDepth 100000 in
set_option maxHeartbeats 1000000 in
theorem n_Do (h : NoH w v) (mi xk xa xb xi xn xr xd xs : Int) : Calls Tryd.prog 40 #[v, .int .i64 mi, .agg #[.int .i64 xk, .int .i64 xa, .int .i64 xb, .int .i64 xi, .int .i64 xn, .int .i64 xr, .int .i64 xd, .int .i64 xs]] w fun e w' => e = .returned (.tuple #[.agg #[.slice none 0 0, .int .i64 0, .int .i64 0, .int .i64 0, .int .i64 0, .int .i64 0, .int .i64 0], .int .i64 5]) ∧ Kp [] w w' := by
  have K0 : Kp [] w ((w.alloc (.cells #[.int .i64 xk, .int .i64 xa, .int .i64 xb, .int .i64 xi, .int .i64 xn, .int .i64 xr, .int .i64 xd, .int .i64 xs] 35)).alloc (.cells #[.slice none 0 0, .int .i64 0, .int .i64 0, .int .i64 0, .int .i64 0, .int .i64 0, .int .i64 0] 73)) := (Kp.new _ _).chain (Kp.new _ _)
  have e0 := Blk.new (w.alloc (.cells #[.int .i64 xk, .int .i64 xa, .int .i64 xb, .int .i64 xi, .int .i64 xn, .int .i64 xr, .int .i64 xd, .int .i64 xs] 35)) 73 #[.slice none 0 0, .int .i64 0, .int .i64 0, .int .i64 0, .int .i64 0, .int .i64 0, .int .i64 0]
  rw [World.size_alloc] at e0
  have hsz : w.heap.size ≤ w.heap.size + 1 := by omega
  have hn := h.kp0 K0
  clear h
  go_enter Tryd.func40, Tryd.ntmps40
  go_upto_region 1 with fail
  generalize ((w.alloc (.cells #[.int .i64 xk, .int .i64 xa, .int .i64 xb, .int .i64 xi, .int .i64 xn, .int .i64 xr, .int .i64 xd, .int .i64 xs] 35)).alloc (.cells #[.slice none 0 0, .int .i64 0, .int .i64 0, .int .i64 0, .int .i64 0, .int .i64 0, .int .i64 0] 73)) = W2 at K0 e0 hn ⊢
  have HK0 := hid K0
  have HE0 := hid e0
  have HB := hid hn
  clear hn
  clear K0 e0
  go_wp2_with (fail)
  refine (n_made HB.out).mono ?_
  rintro e w1 ⟨rfl, K1⟩
  have hth : w1.there (w.heap.size + 1) 0 7 := fun j hj => by
    have hb := HE0.out.kp K1 (by simp)
    refine ⟨?_, ?_⟩
    · rw [Nat.zero_add, hb.cell j, Array.getElem?_eq_getElem (by simpa using hj)]; rfl
    · rw [Nat.zero_add]; exact hb.frozen j
  have hk9 : Kp [] w (w1.setCells (w.heap.size + 1) 0 (#[.slice none 0 0, .int .i64 0, .int .i64 0, .int .i64 0, .int .i64 0, .int .i64 0, .int .i64 0] : Array Value).toList) := (HK0.out.chain K1).trans (Kp.setCells _ _ _ _) (by simp) (by simp)
  have hrg := World.rangeAt_setCells_same w1 (w.heap.size + 1) 0 (#[.slice none 0 0, .int .i64 0, .int .i64 0, .int .i64 0, .int .i64 0, .int .i64 0, .int .i64 0] : Array Value).toList hth
  have HTH := hid hth
  have HK9 := hid hk9
  have HRG := hid hrg
  clear K1 hth hk9 hrg
  go_wp2_with (refine wpList_store_mid (by rfl) 73 (.tmp 6) (.tmp 15) (by rfl) (w.heap.size + 1) 0 #[.slice none 0 0, .int .i64 0, .int .i64 0, .int .i64 0, .int .i64 0, .int .i64 0, .int .i64 0] (by rfl) (by rfl) HTH.out effInfo effOne ?_)
  generalize w1.setCells (w.heap.size + 1) 0 (#[.slice none 0 0, .int .i64 0, .int .i64 0, .int .i64 0, .int .i64 0, .int .i64 0, .int .i64 0] : Array Value).toList = W9 at HK9 HRG ⊢
  have g0 : W9.cell? ⟨w.heap.size + 1, 0, none⟩ = some (.slice none 0 0) := by simpa using HRG.out 0 _ rfl
  have g1 : W9.cell? ⟨w.heap.size + 1, 1, none⟩ = some (.int .i64 0) := by simpa using HRG.out 1 _ rfl
  have g2 : W9.cell? ⟨w.heap.size + 1, 2, none⟩ = some (.int .i64 0) := by simpa using HRG.out 2 _ rfl
  have g3 : W9.cell? ⟨w.heap.size + 1, 3, none⟩ = some (.int .i64 0) := by simpa using HRG.out 3 _ rfl
  have g4 : W9.cell? ⟨w.heap.size + 1, 4, none⟩ = some (.int .i64 0) := by simpa using HRG.out 4 _ rfl
  have g5 : W9.cell? ⟨w.heap.size + 1, 5, none⟩ = some (.int .i64 0) := by simpa using HRG.out 5 _ rfl
  have g6 : W9.cell? ⟨w.heap.size + 1, 6, none⟩ = some (.int .i64 0) := by simpa using HRG.out 6 _ rfl
  refine bodyPost_ret (v := .tuple #[.agg #[.slice none 0 0, .int .i64 0, .int .i64 0, .int .i64 0, .int .i64 0, .int .i64 0, .int .i64 0], .int .i64 5]) ?_ rfl ⟨rfl, HK9.out⟩
  simp [results, Tryd.results40, asAddr, Act.put, go_sem, g0, g1, g2, g3, g4, g5, g6]
set_option maxRecDepth 100000 in
set_option maxHeartbeats 1000000 in
theorem u_Do (w : World) (mi xk xa xb xi xn xr xd xs : Int) : Calls Tryd.prog 46 #[.pointer none, .int .i64 mi, .agg #[.int .i64 xk, .int .i64 xa, .int .i64 xb, .int .i64 xi, .int .i64 xn, .int .i64 xr, .int .i64 xd, .int .i64 xs]] w fun e w' => e = .returned (.tuple #[.agg #[.slice none 0 0, .int .i64 0, .int .i64 0, .int .i64 0, .int .i64 0, .int .i64 0, .int .i64 0], .int .i64 5]) ∧ Kp [] w w' := by
  have K0 : Kp [] w ((w.alloc (.cells #[.int .i64 xk, .int .i64 xa, .int .i64 xb, .int .i64 xi, .int .i64 xn, .int .i64 xr, .int .i64 xd, .int .i64 xs] 35)).alloc (.cells #[.slice none 0 0, .int .i64 0, .int .i64 0, .int .i64 0, .int .i64 0, .int .i64 0, .int .i64 0] 73)) := (Kp.new _ _).chain (Kp.new _ _)
  have e0 := Blk.new (w.alloc (.cells #[.int .i64 xk, .int .i64 xa, .int .i64 xb, .int .i64 xi, .int .i64 xn, .int .i64 xr, .int .i64 xd, .int .i64 xs] 35)) 73 #[.slice none 0 0, .int .i64 0, .int .i64 0, .int .i64 0, .int .i64 0, .int .i64 0, .int .i64 0]
  rw [World.size_alloc] at e0
  have hsz : w.heap.size ≤ w.heap.size + 1 := by omega
  go_enter Tryd.func46, Tryd.ntmps46
  go_upto_region 1 with fail
  generalize ((w.alloc (.cells #[.int .i64 xk, .int .i64 xa, .int .i64 xb, .int .i64 xi, .int .i64 xn, .int .i64 xr, .int .i64 xd, .int .i64 xs] 35)).alloc (.cells #[.slice none 0 0, .int .i64 0, .int .i64 0, .int .i64 0, .int .i64 0, .int .i64 0, .int .i64 0] 73)) = W2 at K0 e0 ⊢
  have HK0 := hid K0
  have HE0 := hid e0
  clear K0 e0
  go_wp2_with (fail)
  refine (u_made _).mono ?_
  rintro e w1 ⟨rfl, K1⟩
  have hth : w1.there (w.heap.size + 1) 0 7 := fun j hj => by
    have hb := HE0.out.kp K1 (by simp)
    refine ⟨?_, ?_⟩
    · rw [Nat.zero_add, hb.cell j, Array.getElem?_eq_getElem (by simpa using hj)]; rfl
    · rw [Nat.zero_add]; exact hb.frozen j
  have hk9 : Kp [] w (w1.setCells (w.heap.size + 1) 0 (#[.slice none 0 0, .int .i64 0, .int .i64 0, .int .i64 0, .int .i64 0, .int .i64 0, .int .i64 0] : Array Value).toList) := (HK0.out.chain K1).trans (Kp.setCells _ _ _ _) (by simp) (by simp)
  have hrg := World.rangeAt_setCells_same w1 (w.heap.size + 1) 0 (#[.slice none 0 0, .int .i64 0, .int .i64 0, .int .i64 0, .int .i64 0, .int .i64 0, .int .i64 0] : Array Value).toList hth
  have HTH := hid hth
  have HK9 := hid hk9
  have HRG := hid hrg
  clear K1 hth hk9 hrg
  go_wp2_with (refine wpList_store_mid (by rfl) 73 (.tmp 6) (.tmp 15) (by rfl) (w.heap.size + 1) 0 #[.slice none 0 0, .int .i64 0, .int .i64 0, .int .i64 0, .int .i64 0, .int .i64 0, .int .i64 0] (by rfl) (by rfl) HTH.out effInfo effOne ?_)
  generalize w1.setCells (w.heap.size + 1) 0 (#[.slice none 0 0, .int .i64 0, .int .i64 0, .int .i64 0, .int .i64 0, .int .i64 0, .int .i64 0] : Array Value).toList = W9 at HK9 HRG ⊢
  have g0 : W9.cell? ⟨w.heap.size + 1, 0, none⟩ = some (.slice none 0 0) := by simpa using HRG.out 0 _ rfl
  have g1 : W9.cell? ⟨w.heap.size + 1, 1, none⟩ = some (.int .i64 0) := by simpa using HRG.out 1 _ rfl
  have g2 : W9.cell? ⟨w.heap.size + 1, 2, none⟩ = some (.int .i64 0) := by simpa using HRG.out 2 _ rfl
  have g3 : W9.cell? ⟨w.heap.size + 1, 3, none⟩ = some (.int .i64 0) := by simpa using HRG.out 3 _ rfl
  have g4 : W9.cell? ⟨w.heap.size + 1, 4, none⟩ = some (.int .i64 0) := by simpa using HRG.out 4 _ rfl
  have g5 : W9.cell? ⟨w.heap.size + 1, 5, none⟩ = some (.int .i64 0) := by simpa using HRG.out 5 _ rfl
  have g6 : W9.cell? ⟨w.heap.size + 1, 6, none⟩ = some (.int .i64 0) := by simpa using HRG.out 6 _ rfl
  refine bodyPost_ret (v := .tuple #[.agg #[.slice none 0 0, .int .i64 0, .int .i64 0, .int .i64 0, .int .i64 0, .int .i64 0, .int .i64 0], .int .i64 5]) ?_ rfl ⟨rfl, HK9.out⟩
  simp [results, Tryd.results46, asAddr, Act.put, go_sem, g0, g1, g2, g3, g4, g5, g6]
end
end Go.Proofs.YtbiompmklijgoaaDoor
/-
  ModelNone: play with a model that nobody made. Conditions: those that stand in each theorem.
-/
namespace Go.Proofs.YtbiompmklijgoaaDoor
set_option linter.unusedVariables false
set_option linter.unusedSimpArgs false
open Go.RowKit Go.Deep Go.Maps

section
variable {w w' : World} {v : Value}
set_option maxRecDepth 100000 in
set_option maxHeartbeats 1000000 in
theorem same_zero (w : World) : Calls Tryd.prog 47 #[.agg #[.slice none 0 0, .int .i64 0, .int .i64 0, .int .i64 0, .int .i64 0, .int .i64 0, .int .i64 0], .agg #[.slice none 0 0, .int .i64 0, .int .i64 0, .int .i64 0, .int .i64 0, .int .i64 0, .int .i64 0]] w fun e w' => e = .returned (.bool true) ∧ Kp [] w w' := by
  have k : Kp [] w ((w.alloc (.cells #[.slice none 0 0, .int .i64 0, .int .i64 0, .int .i64 0, .int .i64 0, .int .i64 0, .int .i64 0] 73)).alloc (.cells #[.slice none 0 0, .int .i64 0, .int .i64 0, .int .i64 0, .int .i64 0, .int .i64 0, .int .i64 0] 73)) := (Kp.new _ _).chain (Kp.new _ _)
  have hb := (Blk.new w 73 #[.slice none 0 0, .int .i64 0, .int .i64 0, .int .i64 0, .int .i64 0, .int .i64 0, .int .i64 0]).kp (Kp.new (w.alloc (.cells #[.slice none 0 0, .int .i64 0, .int .i64 0, .int .i64 0, .int .i64 0, .int .i64 0, .int .i64 0] 73)) (.cells #[.slice none 0 0, .int .i64 0, .int .i64 0, .int .i64 0, .int .i64 0, .int .i64 0, .int .i64 0] 73)) (by simp)
  have HK := hid k
  have HB := hid hb
  clear k hb
  go_enter Tryd.func47, Tryd.ntmps47
  go_wp2
  go_loopw [5] (fun c wr => c = .int .i64 0 ∧ wr.cell? ⟨w.heap.size, 0, none⟩ = some (.slice none 0 0) ∧ Kp [] w wr) (fun _ _ => 0)
  case atStart => exact ⟨rfl, HB.out.cell 0, HK.out⟩
  case round =>
    obtain ⟨rfl, hc, K⟩ := hrel
    have HK2 := hid K
    clear K
    go_wp2
    go_ret
    exact ⟨rfl, HK2.out⟩
set_option maxRecDepth 100000 in
set_option maxHeartbeats 1000000 in
theorem pn1 (h : NoH w v) (mu xk xa xb xi xn xr xd xs a b c : Int) :
    Calls Tryd.prog 18 #[v, .pointer none, .agg #[.int .i64 1, .int .i64 mu, .int .i64 xk, .int .i64 xa, .int .i64 xb, .int .i64 xi, .int .i64 xn, .int .i64 xr, .int .i64 xd, .int .i64 xs, .int .i64 a, .int .i64 b, .int .i64 c]] w fun e w' => e = .returned (.bool true) ∧ Kp [] w w' := by
  have hb := Blk.new w 37 #[.int .i64 1, .int .i64 mu, .int .i64 xk, .int .i64 xa, .int .i64 xb, .int .i64 xi, .int .i64 xn, .int .i64 xr, .int .i64 xd, .int .i64 xs, .int .i64 a, .int .i64 b, .int .i64 c]
  have HK := hid (Kp.new w (.cells #[.int .i64 1, .int .i64 mu, .int .i64 xk, .int .i64 xa, .int .i64 xb, .int .i64 xi, .int .i64 xn, .int .i64 xr, .int .i64 xd, .int .i64 xs, .int .i64 a, .int .i64 b, .int .i64 c] 37))
  have HN := hid (h.kp0 HK.out)
  have HB := hid hb
  have b0 := hb.cell 0
  have b1 := hb.cell 1
  have b2 := hb.cell 2
  have b3 := hb.cell 3
  have b4 := hb.cell 4
  have b5 := hb.cell 5
  have b6 := hb.cell 6
  have b7 := hb.cell 7
  have b8 := hb.cell 8
  have b9 := hb.cell 9
  have b10 := hb.cell 10
  have b11 := hb.cell 11
  have b12 := hb.cell 12
  clear h hb
  go_enter Tryd.func18, Tryd.ntmps18
  go_wp2_with (fail)
  refine (n_Collect HN.out).mono ?_
  rintro e w5 ⟨rfl, K5⟩
  have HK5 := hid (HK.out.chain K5)
  clear K5
  go_wp2_with (fail)
  refine (u_Collect _).mono ?_
  rintro e w6 ⟨rfl, K6⟩
  have HK6 := hid (HK5.out.chain K6)
  clear K6
  go_wp2
  go_ret
  exact ⟨rfl, HK6.out⟩
set_option maxRecDepth 100000 in
set_option maxHeartbeats 1000000 in
theorem pn2 (h : NoH w v) (mu xk xa xb xi xn xr xd xs a b c : Int) :
    Calls Tryd.prog 18 #[v, .pointer none, .agg #[.int .i64 2, .int .i64 mu, .int .i64 xk, .int .i64 xa, .int .i64 xb, .int .i64 xi, .int .i64 xn, .int .i64 xr, .int .i64 xd, .int .i64 xs, .int .i64 a, .int .i64 b, .int .i64 c]] w fun e w' => e = .returned (.bool true) ∧ Kp [] w w' := by
  have hb := Blk.new w 37 #[.int .i64 2, .int .i64 mu, .int .i64 xk, .int .i64 xa, .int .i64 xb, .int .i64 xi, .int .i64 xn, .int .i64 xr, .int .i64 xd, .int .i64 xs, .int .i64 a, .int .i64 b, .int .i64 c]
  have HK := hid (Kp.new w (.cells #[.int .i64 2, .int .i64 mu, .int .i64 xk, .int .i64 xa, .int .i64 xb, .int .i64 xi, .int .i64 xn, .int .i64 xr, .int .i64 xd, .int .i64 xs, .int .i64 a, .int .i64 b, .int .i64 c] 37))
  have HN := hid (h.kp0 HK.out)
  have HB := hid hb
  have b0 := hb.cell 0
  have b1 := hb.cell 1
  have b2 := hb.cell 2
  have b3 := hb.cell 3
  have b4 := hb.cell 4
  have b5 := hb.cell 5
  have b6 := hb.cell 6
  have b7 := hb.cell 7
  have b8 := hb.cell 8
  have b9 := hb.cell 9
  have b10 := hb.cell 10
  have b11 := hb.cell 11
  have b12 := hb.cell 12
  clear h hb
  go_enter Tryd.func18, Tryd.ntmps18
  go_wp2
  generalize w.alloc (.cells #[.int .i64 2, .int .i64 mu, .int .i64 xk, .int .i64 xa, .int .i64 xb, .int .i64 xi, .int .i64 xn, .int .i64 xr, .int .i64 xd, .int .i64 xs, .int .i64 a, .int .i64 b, .int .i64 c] 37) = w1 at *
  have ND := HN.out.kp0 (Kp.draw w1 1)
  have KD := HK.out.drewN 1
  have BD := HB.out.kp (Kp.draw w1 1) (by simp)
  have s10 : w1.drew.cell? ⟨w.heap.size, 10, none⟩ = some (.int .i64 a) := BD.cell 10
  go_region_held3 (fun W => W.cell? ⟨w.heap.size, 10, none⟩ = some (.int .i64 a)) (go_keep)
    (first
      | (go_at_call 37; refine (n_Push (by assumption) a).mono ?_; rintro e w5 ⟨rfl, K5⟩; have N5 := NoH.kp0 (by assumption) K5; have B5 := Blk.kp (by assumption) K5 (by simp); have u10 := B5.cell 10; have KK5 := Kp.chain (by assumption : Kp [] w _) K5; clear K5)
      | (go_at_call 49; refine (u_Push _ a).mono ?_; rintro e w6 ⟨rfl, K6⟩; have N6 := NoH.kp0 (by assumption) K6; have B6 := Blk.kp (by assumption) K6 (by simp); have v10 := B6.cell 10; have KK6 := Kp.chain (by assumption : Kp [] w _) K6; clear K6))
  all_goals (
    go_wp2
    go_ret
    exact ⟨rfl, by assumption⟩)
set_option maxRecDepth 100000 in
set_option maxHeartbeats 1000000 in
theorem pn3 (h : NoH w v) (mu xk xa xb xi xn xr xd xs a b c : Int) :
    Calls Tryd.prog 18 #[v, .pointer none, .agg #[.int .i64 3, .int .i64 mu, .int .i64 xk, .int .i64 xa, .int .i64 xb, .int .i64 xi, .int .i64 xn, .int .i64 xr, .int .i64 xd, .int .i64 xs, .int .i64 a, .int .i64 b, .int .i64 c]] w fun e w' => e = .returned (.bool true) ∧ Kp [] w w' := by
  have hb := Blk.new w 37 #[.int .i64 3, .int .i64 mu, .int .i64 xk, .int .i64 xa, .int .i64 xb, .int .i64 xi, .int .i64 xn, .int .i64 xr, .int .i64 xd, .int .i64 xs, .int .i64 a, .int .i64 b, .int .i64 c]
  have HK := hid (Kp.new w (.cells #[.int .i64 3, .int .i64 mu, .int .i64 xk, .int .i64 xa, .int .i64 xb, .int .i64 xi, .int .i64 xn, .int .i64 xr, .int .i64 xd, .int .i64 xs, .int .i64 a, .int .i64 b, .int .i64 c] 37))
  have HN := hid (h.kp0 HK.out)
  have HB := hid hb
  have b0 := hb.cell 0
  have b1 := hb.cell 1
  have b2 := hb.cell 2
  have b3 := hb.cell 3
  have b4 := hb.cell 4
  have b5 := hb.cell 5
  have b6 := hb.cell 6
  have b7 := hb.cell 7
  have b8 := hb.cell 8
  have b9 := hb.cell 9
  have b10 := hb.cell 10
  have b11 := hb.cell 11
  have b12 := hb.cell 12
  clear h hb
  go_enter Tryd.func18, Tryd.ntmps18
  go_wp2_with (fail)
  refine (n_Pop HN.out).mono ?_
  rintro e w5 ⟨rfl, K5⟩
  have HK5 := hid (HK.out.chain K5)
  clear K5
  go_wp2_with (fail)
  refine (u_Pop _).mono ?_
  rintro e w6 ⟨rfl, K6⟩
  have HK6 := hid (HK5.out.chain K6)
  clear K6
  go_wp2
  go_ret
  exact ⟨rfl, HK6.out⟩
set_option maxRecDepth 100000 in
set_option maxHeartbeats 1000000 in
theorem pn4 (h : NoH w v) (mu xk xa xb xi xn xr xd xs a b c : Int) :
    Calls Tryd.prog 18 #[v, .pointer none, .agg #[.int .i64 4, .int .i64 mu, .int .i64 xk, .int .i64 xa, .int .i64 xb, .int .i64 xi, .int .i64 xn, .int .i64 xr, .int .i64 xd, .int .i64 xs, .int .i64 a, .int .i64 b, .int .i64 c]] w fun e w' => e = .returned (.bool true) ∧ Kp [] w w' := by
  have hb := Blk.new w 37 #[.int .i64 4, .int .i64 mu, .int .i64 xk, .int .i64 xa, .int .i64 xb, .int .i64 xi, .int .i64 xn, .int .i64 xr, .int .i64 xd, .int .i64 xs, .int .i64 a, .int .i64 b, .int .i64 c]
  have HK := hid (Kp.new w (.cells #[.int .i64 4, .int .i64 mu, .int .i64 xk, .int .i64 xa, .int .i64 xb, .int .i64 xi, .int .i64 xn, .int .i64 xr, .int .i64 xd, .int .i64 xs, .int .i64 a, .int .i64 b, .int .i64 c] 37))
  have HN := hid (h.kp0 HK.out)
  have HB := hid hb
  have b0 := hb.cell 0
  have b1 := hb.cell 1
  have b2 := hb.cell 2
  have b3 := hb.cell 3
  have b4 := hb.cell 4
  have b5 := hb.cell 5
  have b6 := hb.cell 6
  have b7 := hb.cell 7
  have b8 := hb.cell 8
  have b9 := hb.cell 9
  have b10 := hb.cell 10
  have b11 := hb.cell 11
  have b12 := hb.cell 12
  clear h hb
  go_enter Tryd.func18, Tryd.ntmps18
  go_wp2
  generalize w.alloc (.cells #[.int .i64 4, .int .i64 mu, .int .i64 xk, .int .i64 xa, .int .i64 xb, .int .i64 xi, .int .i64 xn, .int .i64 xr, .int .i64 xd, .int .i64 xs, .int .i64 a, .int .i64 b, .int .i64 c] 37) = w1 at *
  have ND := HN.out.kp0 (Kp.draw w1 1)
  have KD := HK.out.drewN 1
  have BD := HB.out.kp (Kp.draw w1 1) (by simp)
  have s10 : w1.drew.cell? ⟨w.heap.size, 10, none⟩ = some (.int .i64 a) := BD.cell 10
  have s11 : w1.drew.cell? ⟨w.heap.size, 11, none⟩ = some (.int .i64 b) := BD.cell 11
  have s12 : w1.drew.cell? ⟨w.heap.size, 12, none⟩ = some (.int .i64 c) := BD.cell 12
  go_region_held3 (fun W => W.cell? ⟨w.heap.size, 10, none⟩ = some (.int .i64 a) ∧ W.cell? ⟨w.heap.size, 11, none⟩ = some (.int .i64 b) ∧ W.cell? ⟨w.heap.size, 12, none⟩ = some (.int .i64 c)) (go_keep)
    (first
      | (go_at_call 36; refine (n_SetRef (by assumption) a b c).mono ?_; rintro e w5 ⟨rfl, K5⟩; have N5 := NoH.kp0 (by assumption) K5; have B5 := Blk.kp (by assumption) K5 (by simp); have u10 := B5.cell 10; have u11 := B5.cell 11; have u12 := B5.cell 12; have KK5 := Kp.chain (by assumption : Kp [] w _) K5; clear K5)
      | (go_at_call 52; refine (u_SetRef _ a b c).mono ?_; rintro e w6 ⟨rfl, K6⟩; have N6 := NoH.kp0 (by assumption) K6; have B6 := Blk.kp (by assumption) K6 (by simp); have v10 := B6.cell 10; have v11 := B6.cell 11; have v12 := B6.cell 12; have KK6 := Kp.chain (by assumption : Kp [] w _) K6; clear K6))
  all_goals (
    go_wp2
    go_ret
    exact ⟨rfl, by assumption⟩)
set_option maxRecDepth 100000 in
set_option maxHeartbeats 1000000 in
theorem pn0 (h : NoH w v) (mu xk xa xb xi xn xr xd xs a b c : Int) :
    Calls Tryd.prog 18 #[v, .pointer none, .agg #[.int .i64 0, .int .i64 mu, .int .i64 xk, .int .i64 xa, .int .i64 xb, .int .i64 xi, .int .i64 xn, .int .i64 xr, .int .i64 xd, .int .i64 xs, .int .i64 a, .int .i64 b, .int .i64 c]] w fun e w' => e = .returned (.bool true) ∧ Kp [] w w' := by
  have hb := Blk.new w 37 #[.int .i64 0, .int .i64 mu, .int .i64 xk, .int .i64 xa, .int .i64 xb, .int .i64 xi, .int .i64 xn, .int .i64 xr, .int .i64 xd, .int .i64 xs, .int .i64 a, .int .i64 b, .int .i64 c]
  have HK := hid (Kp.new w (.cells #[.int .i64 0, .int .i64 mu, .int .i64 xk, .int .i64 xa, .int .i64 xb, .int .i64 xi, .int .i64 xn, .int .i64 xr, .int .i64 xd, .int .i64 xs, .int .i64 a, .int .i64 b, .int .i64 c] 37))
  have HN := hid (h.kp0 HK.out)
  have HB := hid hb
  have b0 := hb.cell 0
  have b1 := hb.cell 1
  have b2 := hb.cell 2
  have b3 := hb.cell 3
  have b4 := hb.cell 4
  have b5 := hb.cell 5
  have b6 := hb.cell 6
  have b7 := hb.cell 7
  have b8 := hb.cell 8
  have b9 := hb.cell 9
  have b10 := hb.cell 10
  have b11 := hb.cell 11
  have b12 := hb.cell 12
  clear h hb
  go_enter Tryd.func18, Tryd.ntmps18
  go_wp2_with (fail)
  refine (n_Do HN.out mu xk xa xb xi xn xr xd xs).mono ?_
  rintro e w1 ⟨rfl, K1⟩
  have HB1 := hid (HB.out.kp K1 (by simp))
  have HK1 := hid (HK.out.chain K1)
  obtain ⟨ht, hkn, hrn⟩ := fillN (vs := #[.slice none 0 0, .int .i64 0, .int .i64 0, .int .i64 0, .int .i64 0, .int .i64 0, .int .i64 0]) (Blk.new w1 73 #[.slice none 0 0, .int .i64 0, .int .i64 0, .int .i64 0, .int .i64 0, .int .i64 0, .int .i64 0]) rfl (Kp.new w1 _) (Nat.le_refl _); have HT1 := hid ht; have HKN1 := hid hkn; have HRN1 := hid hrn; clear ht hkn hrn
  clear K1 b0 b1 b2 b3 b4 b5 b6 b7 b8 b9 b10 b11 b12
  go_wp2_with (refine wpList_store_mid (by rfl) 73 (.tmp 7) (.tmp 26) (by rfl) w1.heap.size 0 #[.slice none 0 0, .int .i64 0, .int .i64 0, .int .i64 0, .int .i64 0, .int .i64 0, .int .i64 0] (by rfl) (by rfl) HT1.out effInfo effOne ?_; have HB2 := hid (HB1.out.kp HKN1.out (by simp)); have HK2 := hid (HK1.out.chain HKN1.out); generalize (w1.alloc (.cells #[.slice none 0 0, .int .i64 0, .int .i64 0, .int .i64 0, .int .i64 0, .int .i64 0, .int .i64 0] 73)).setCells w1.heap.size 0 (#[.slice none 0 0, .int .i64 0, .int .i64 0, .int .i64 0, .int .i64 0, .int .i64 0, .int .i64 0] : Array Value).toList = w2 at HB2 HK2 HRN1 ⊢; have d1 := HB2.out.cell 1; have d2 := HB2.out.cell 2; have d3 := HB2.out.cell 3; have d4 := HB2.out.cell 4; have d5 := HB2.out.cell 5; have d6 := HB2.out.cell 6; have d7 := HB2.out.cell 7; have d8 := HB2.out.cell 8; have d9 := HB2.out.cell 9)
  refine (u_Do _ mu xk xa xb xi xn xr xd xs).mono ?_
  rintro e w3 ⟨rfl, K3⟩
  have HRN3a := hid (range_kp HRN1.out K3 (by simp))
  have HK3 := hid (HK2.out.chain K3)
  have HL3 : Hid (w1.heap.size < w3.heap.size) := cell_lt (HRN3a.out 0 _ rfl)
  obtain ⟨ht, hkn, hrn⟩ := fillN (vs := #[.slice none 0 0, .int .i64 0, .int .i64 0, .int .i64 0, .int .i64 0, .int .i64 0, .int .i64 0]) (Blk.new w3 73 #[.slice none 0 0, .int .i64 0, .int .i64 0, .int .i64 0, .int .i64 0, .int .i64 0, .int .i64 0]) rfl (Kp.new w3 _) (Nat.le_refl _); have HT3 := hid ht; have HKN3 := hid hkn; have HRN3 := hid hrn; clear ht hkn hrn
  clear K3 d1 d2 d3 d4 d5 d6 d7 d8 d9
  go_wp2_with (refine wpList_store_mid (by rfl) 73 (.tmp 9) (.tmp 35) (by rfl) w3.heap.size 0 #[.slice none 0 0, .int .i64 0, .int .i64 0, .int .i64 0, .int .i64 0, .int .i64 0, .int .i64 0] (by rfl) (by rfl) HT3.out effInfo effOne ?_; go_loud (have HRN4 := hid (range_kp HRN3a.out HKN3.out (by simp)); have HK4 := hid (HK3.out.chain HKN3.out); generalize (w3.alloc (.cells #[.slice none 0 0, .int .i64 0, .int .i64 0, .int .i64 0, .int .i64 0, .int .i64 0, .int .i64 0] 73)).setCells w3.heap.size 0 (#[.slice none 0 0, .int .i64 0, .int .i64 0, .int .i64 0, .int .i64 0, .int .i64 0, .int .i64 0] : Array Value).toList = w4 at HRN4 HK4 HRN3 ⊢; have p0 : w4.cell? ⟨w1.heap.size, 0, none⟩ = some (.slice none 0 0) := (by simpa using HRN4.out 0 _ rfl); have p1 : w4.cell? ⟨w1.heap.size, 1, none⟩ = some (.int .i64 0) := (by simpa using HRN4.out 1 _ rfl); have p2 : w4.cell? ⟨w1.heap.size, 2, none⟩ = some (.int .i64 0) := (by simpa using HRN4.out 2 _ rfl); have p3 : w4.cell? ⟨w1.heap.size, 3, none⟩ = some (.int .i64 0) := (by simpa using HRN4.out 3 _ rfl); have p4 : w4.cell? ⟨w1.heap.size, 4, none⟩ = some (.int .i64 0) := (by simpa using HRN4.out 4 _ rfl); have p5 : w4.cell? ⟨w1.heap.size, 5, none⟩ = some (.int .i64 0) := (by simpa using HRN4.out 5 _ rfl); have p6 : w4.cell? ⟨w1.heap.size, 6, none⟩ = some (.int .i64 0) := (by simpa using HRN4.out 6 _ rfl); have q0 : w4.cell? ⟨w3.heap.size, 0, none⟩ = some (.slice none 0 0) := (by simpa using HRN3.out 0 _ rfl); have q1 : w4.cell? ⟨w3.heap.size, 1, none⟩ = some (.int .i64 0) := (by simpa using HRN3.out 1 _ rfl); have q2 : w4.cell? ⟨w3.heap.size, 2, none⟩ = some (.int .i64 0) := (by simpa using HRN3.out 2 _ rfl); have q3 : w4.cell? ⟨w3.heap.size, 3, none⟩ = some (.int .i64 0) := (by simpa using HRN3.out 3 _ rfl); have q4 : w4.cell? ⟨w3.heap.size, 4, none⟩ = some (.int .i64 0) := (by simpa using HRN3.out 4 _ rfl); have q5 : w4.cell? ⟨w3.heap.size, 5, none⟩ = some (.int .i64 0) := (by simpa using HRN3.out 5 _ rfl); have q6 : w4.cell? ⟨w3.heap.size, 6, none⟩ = some (.int .i64 0) := (by simpa using HRN3.out 6 _ rfl)))
  refine (same_zero _).mono ?_
  rintro e w5 ⟨rfl, K5⟩
  have HK5 := hid (HK4.out.chain K5)
  clear K5
  go_wp2
  go_ret
  exact ⟨rfl, HK5.out⟩
set_option maxRecDepth 100000 in
set_option maxHeartbeats 1000000 in
theorem pn_other (h : NoH w v) (k mu xk xa xb xi xn xr xd xs a b c : Int) (e0 : k ≠ 0) (e1 : k ≠ 1) (e2 : k ≠ 2) (e3 : k ≠ 3) (e4 : k ≠ 4) :
    Calls Tryd.prog 18 #[v, .pointer none, .agg #[.int .i64 k, .int .i64 mu, .int .i64 xk, .int .i64 xa, .int .i64 xb, .int .i64 xi, .int .i64 xn, .int .i64 xr, .int .i64 xd, .int .i64 xs, .int .i64 a, .int .i64 b, .int .i64 c]] w fun e w' => e = .returned (.bool true) ∧ Kp [] w w' := by
  have z0 : (k == 0) = false := beq_eq_false_iff_ne.2 e0
  have z1 : (k == 1) = false := beq_eq_false_iff_ne.2 e1
  have z2 : (k == 2) = false := beq_eq_false_iff_ne.2 e2
  have z3 : (k == 3) = false := beq_eq_false_iff_ne.2 e3
  have z4 : (k == 4) = false := beq_eq_false_iff_ne.2 e4
  have hb := Blk.new w 37 #[.int .i64 k, .int .i64 mu, .int .i64 xk, .int .i64 xa, .int .i64 xb, .int .i64 xi, .int .i64 xn, .int .i64 xr, .int .i64 xd, .int .i64 xs, .int .i64 a, .int .i64 b, .int .i64 c]
  have HK := hid (Kp.new w (.cells #[.int .i64 k, .int .i64 mu, .int .i64 xk, .int .i64 xa, .int .i64 xb, .int .i64 xi, .int .i64 xn, .int .i64 xr, .int .i64 xd, .int .i64 xs, .int .i64 a, .int .i64 b, .int .i64 c] 37))
  have HN := hid (h.kp0 HK.out)
  have HB := hid hb
  have b0 := hb.cell 0
  have b1 := hb.cell 1
  have b2 := hb.cell 2
  have b3 := hb.cell 3
  have b4 := hb.cell 4
  have b5 := hb.cell 5
  have b6 := hb.cell 6
  have b7 := hb.cell 7
  have b8 := hb.cell 8
  have b9 := hb.cell 9
  have b10 := hb.cell 10
  have b11 := hb.cell 11
  have b12 := hb.cell 12
  clear h hb
  go_enter Tryd.func18, Tryd.ntmps18
  clear e0 e1 e2 e3 e4
  go_wp2
  go_ret
  exact ⟨rfl, HK.out⟩
theorem play_none (h : NoH w v) (k mu xk xa xb xi xn xr xd xs a b c : Int) :
    Calls Tryd.prog 18 #[v, .pointer none, .agg #[.int .i64 k, .int .i64 mu, .int .i64 xk, .int .i64 xa, .int .i64 xb, .int .i64 xi, .int .i64 xn, .int .i64 xr, .int .i64 xd, .int .i64 xs, .int .i64 a, .int .i64 b, .int .i64 c]] w fun e w' => e = .returned (.bool true) ∧ Kp [] w w' := by
  by_cases h0 : k = 0
  · subst h0; exact pn0 h mu xk xa xb xi xn xr xd xs a b c
  by_cases h1 : k = 1
  · subst h1; exact pn1 h mu xk xa xb xi xn xr xd xs a b c
  by_cases h2 : k = 2
  · subst h2; exact pn2 h mu xk xa xb xi xn xr xd xs a b c
  by_cases h3 : k = 3
  · subst h3; exact pn3 h mu xk xa xb xi xn xr xd xs a b c
  by_cases h4 : k = 4
  · subst h4; exact pn4 h mu xk xa xb xi xn xr xd xs a b c
  exact pn_other h k mu xk xa xb xi xn xr xd xs a b c h0 h1 h2 h3 h4
end
end Go.Proofs.YtbiompmklijgoaaDoor
/-
  ModelNone: looks with a model that nobody made. Conditions: those that stand in each theorem.
-/
namespace Go.Proofs.YtbiompmklijgoaaDoor
set_option linter.unusedVariables false
set_option linter.unusedSimpArgs false
open Go.RowKit Go.Deep Go.Maps
attribute [local go_sem] Oper.semAt_some

section
variable {w w' : World} {v : Value}
set_option maxRecDepth 100000 in
set_option maxHeartbeats 1500000 in
theorem looks_none (h : NoH w v) (n : Int) : Calls Tryd.prog 22 #[v, .pointer none, .int .i64 n] w fun e w' => e = .returned (.bool true) ∧ Kp [] w w' := by
  have HN12 := hid h
  have HK12 := hid (Kp.refl [] w)
  clear h
  go_enter Tryd.func22, Tryd.ntmps22
  go_wp2_with (fail)
  refine (n_Shape HN12.out n).mono ?_
  rintro e w13 ⟨rfl, K13⟩
  have HN13 := hid (HN12.out.kp0 K13)
  have HK13 := hid (HK12.out.chain K13)
  clear K13
  have B0 := Blk.new w13 33 #[.int .i64 0, .int .i64 0, .int .i64 0]
  have f0 := B0.frozen 0
  have f1 := B0.frozen 1
  have f2 := B0.frozen 2
  have hKA := Kp.new w13 (.cells #[.int .i64 0, .int .i64 0, .int .i64 0] 33)
  go_wp2_with (fail)
  generalize (w13.alloc (.cells #[.int .i64 0, .int .i64 0, .int .i64 0] 33)) = WA at *
  refine (u_Shape _ n).mono ?_
  rintro e wB ⟨rfl, KB⟩
  have HNB := hid ((HN13.out.kp0 hKA).kp0 KB)
  have HKB := hid ((HK13.out.chain hKA).chain KB)
  have hba := B0.kp KB (by simp)
  clear KB hKA B0 f0 f1 f2
  have hKC := Kp.new wB (.cells #[.int .i64 0, .int .i64 0, .int .i64 0] 33)
  have hbc := Blk.new wB 33 #[.int .i64 0, .int .i64 0, .int .i64 0]
  have hbb := hba.kp hKC (by simp)
  have f0 := hbc.frozen 0
  have f1 := hbc.frozen 1
  have f2 := hbc.frozen 2
  have c0 := hbb.cell 0
  have c1 := hbb.cell 1
  have c2 := hbb.cell 2
  have d0 := hbc.cell 0
  have d1 := hbc.cell 1
  have d2 := hbc.cell 2
  have HNC := hid (HNB.out.kp0 hKC)
  have HKC := hid (HKB.out.chain hKC)
  have HBC := hid hbc
  clear hba hbb hbc hKC
  go_wp2
  go_loopw [11] (fun s13 wr => ∃ i : Int, s13 = .int .i64 i ∧ -1 ≤ i ∧ i ≤ 1 ∧ NoH wr v ∧ Kp [] w wr ∧ Blk wr wB.heap.size 33 #[.int .i64 0, .int .i64 0, .int .i64 0]) (fun s13 _ => (1 - intOf s13).toNat)
  case atStart => exact ⟨-1, rfl, by omega, by omega, HNC.out, HKC.out, HBC.out⟩
  case round =>
    obtain ⟨i, rfl, hi1, hi2, hn, hk, hb⟩ := hrel
    have HI := hid hn
    have HJ := hid hk
    have HB := hid hb
    have e0 := hb.cell 0
    have e1 := hb.cell 1
    clear hn hk hb c0 c1 c2 d0 d1 d2 f0 f1 f2
    by_cases hlt : i ≤ 0
    · have dl : decide (i ≤ 0) = true := decide_eq_true hlt
      go_wp2_with (fail)
      refine (n_Ref HI.out n i).mono ?_
      rintro e x1 ⟨rfl, K1⟩
      have HI1 := hid (HI.out.kp0 K1)
      have HJ1 := hid (HJ.out.chain K1)
      have HB1 := hid (HB.out.kp K1 (by simp))
      clear K1 e0 e1
      go_wp2_with (fail)
      refine (u_Ref _ n i).mono ?_
      rintro e x2 ⟨rfl, K2⟩
      have HI2 := hid (HI1.out.kp0 K2)
      have HJ2 := hid (HJ1.out.chain K2)
      have HB2 := hid (HB1.out.kp K2 (by simp))
      clear K2
      go_wp2
      go_roundw
      case rel => exact ⟨i + 1, by go_num, by omega, by omega, HI2.out, HJ2.out, HB2.out⟩
      case measure => simp [intOf]; omega
    · have dl : decide (i ≤ 0) = false := decide_eq_false hlt
      go_wp2
      clear e0 e1
      go_loopw [16] (fun s14 wr => ∃ j : Int, s14 = .int .i64 j ∧ -1 ≤ j ∧ j ≤ 1 ∧ NoH wr v ∧ Kp [] w wr ∧ Blk wr wB.heap.size 33 #[.int .i64 0, .int .i64 0, .int .i64 0]) (fun s14 _ => (1 - intOf s14).toNat)
      case atStart => exact ⟨-1, rfl, by omega, by omega, HI.out, HJ.out, HB.out⟩
      case round =>
        obtain ⟨j, rfl, hj1, hj2, hn2, hk2, hb2⟩ := hrel
        have HI0 := hid hn2
        have HJ0 := hid hk2
        have HB0 := hid hb2
        have e0 := hb2.cell 0
        have e1 := hb2.cell 1
        clear hn2 hk2 hb2
        by_cases hjt : j ≤ 0
        · have dj : decide (j ≤ 0) = true := decide_eq_true hjt
          go_wp2_with (fail)
          refine (n_Data HI0.out n j).mono ?_
          rintro e x1 ⟨rfl, K1⟩
          have HI1 := hid (HI0.out.kp0 K1)
          have HJ1 := hid (HJ0.out.chain K1)
          have HB1 := hid (HB0.out.kp K1 (by simp))
          clear K1 e0 e1
          go_wp2_with (fail)
          refine (u_Data _ n j).mono ?_
          rintro e x2 ⟨rfl, K2⟩
          have HI2 := hid (HI1.out.kp0 K2)
          have HJ2 := hid (HJ1.out.chain K2)
          have HB2 := hid (HB1.out.kp K2 (by simp))
          clear K2
          go_wp2
          go_roundw
          case rel => exact ⟨j + 1, by go_num, by omega, by omega, HI2.out, HJ2.out, HB2.out⟩
          case measure => simp [intOf]; omega
        · have dj : decide (j ≤ 0) = false := decide_eq_false hjt
          go_wp2
          go_ret
          exact ⟨rfl, HJ0.out⟩
end
end Go.Proofs.YtbiompmklijgoaaDoor
/-
  ModelNone's walk. Conditions: those that stand in each theorem.
-/
namespace Go.Proofs.YtbiompmklijgoaaDoor
set_option linter.unusedVariables false
set_option linter.unusedSimpArgs false
open Go.RowKit Go.Deep Go.Maps

section
variable {w w' : World}
set_option maxRecDepth 100000 in
theorem zeroModelN (w : World) : (zeroValue 48).run Tryd.prog w = .ok (.agg #[.slice none 0 0, .int .i64 0, .int .i64 0, .int .i64 0, .int .i64 0, .int .i64 0, .int .i64 0, .int .i64 0, .int .i64 0, .int .i64 0, .int .i64 0, .int .i64 0, .int .i64 0, .int .i64 0, .int .i64 0, .int .i64 0, .int .i64 0, .slice none 0 0, .slice none 0 0, .slice none 0 0]) w := by kernel_rfl
set_option maxRecDepth 100000 in
set_option maxHeartbeats 3000000 in
theorem model_none (hlz : LZ w) (HAL : ∀ w, LZ w → Calls Tryd.prog 13 #[] w (TrueP w)) (k mu xk xa xb xi xn xr xd xs a b c : Int) :
    Calls Tryd.prog 4 #[.agg #[.int .i64 k, .int .i64 mu, .int .i64 xk, .int .i64 xa, .int .i64 xb, .int .i64 xi, .int .i64 xn, .int .i64 xr, .int .i64 xd, .int .i64 xs, .int .i64 a, .int .i64 b, .int .i64 c]] w (TrueP w) := by
  have hz := zeroModelN
  have HA := hid HAL
  have HLZ := hid hlz
  have b1 := Blk.new w 37 #[.int .i64 k, .int .i64 mu, .int .i64 xk, .int .i64 xa, .int .i64 xb, .int .i64 xi, .int .i64 xn, .int .i64 xr, .int .i64 xd, .int .i64 xs, .int .i64 a, .int .i64 b, .int .i64 c]
  have k1 := Kp.new w (.cells #[.int .i64 k, .int .i64 mu, .int .i64 xk, .int .i64 xa, .int .i64 xb, .int .i64 xi, .int .i64 xn, .int .i64 xr, .int .i64 xd, .int .i64 xs, .int .i64 a, .int .i64 b, .int .i64 c] 37)
  have b2 := Blk.new (w.alloc (.cells #[.int .i64 k, .int .i64 mu, .int .i64 xk, .int .i64 xa, .int .i64 xb, .int .i64 xi, .int .i64 xn, .int .i64 xr, .int .i64 xd, .int .i64 xs, .int .i64 a, .int .i64 b, .int .i64 c] 37)) 48 #[.slice none 0 0, .int .i64 0, .int .i64 0, .int .i64 0, .int .i64 0, .int .i64 0, .int .i64 0, .int .i64 0, .int .i64 0, .int .i64 0, .int .i64 0, .int .i64 0, .int .i64 0, .int .i64 0, .int .i64 0, .int .i64 0, .int .i64 0, .slice none 0 0, .slice none 0 0, .slice none 0 0]
  have k2 := Kp.new (w.alloc (.cells #[.int .i64 k, .int .i64 mu, .int .i64 xk, .int .i64 xa, .int .i64 xb, .int .i64 xi, .int .i64 xn, .int .i64 xr, .int .i64 xd, .int .i64 xs, .int .i64 a, .int .i64 b, .int .i64 c] 37)) (.cells #[.slice none 0 0, .int .i64 0, .int .i64 0, .int .i64 0, .int .i64 0, .int .i64 0, .int .i64 0, .int .i64 0, .int .i64 0, .int .i64 0, .int .i64 0, .int .i64 0, .int .i64 0, .int .i64 0, .int .i64 0, .int .i64 0, .int .i64 0, .slice none 0 0, .slice none 0 0, .slice none 0 0] 48)
  rw [World.size_alloc] at b2
  have b3 := b1.kp k2 (by simp)
  have c0 := b3.cell 0
  have c1 := b3.cell 1
  have c2 := b3.cell 2
  have c3 := b3.cell 3
  have c4 := b3.cell 4
  have c5 := b3.cell 5
  have c6 := b3.cell 6
  have c7 := b3.cell 7
  have c8 := b3.cell 8
  have c9 := b3.cell 9
  have c10 := b3.cell 10
  have c11 := b3.cell 11
  have c12 := b3.cell 12
  have HK0 := hid (k1.chain k2)
  have HB0 := hid b3
  have HZ0 : Hid (NoH ((w.alloc (.cells #[.int .i64 k, .int .i64 mu, .int .i64 xk, .int .i64 xa, .int .i64 xb, .int .i64 xi, .int .i64 xn, .int .i64 xr, .int .i64 xd, .int .i64 xs, .int .i64 a, .int .i64 b, .int .i64 c] 37)).alloc (.cells #[.slice none 0 0, .int .i64 0, .int .i64 0, .int .i64 0, .int .i64 0, .int .i64 0, .int .i64 0, .int .i64 0, .int .i64 0, .int .i64 0, .int .i64 0, .int .i64 0, .int .i64 0, .int .i64 0, .int .i64 0, .int .i64 0, .int .i64 0, .slice none 0 0, .slice none 0 0, .slice none 0 0] 48)) (.pointer (some ⟨w.heap.size + 1, 0, none⟩))) := .inr ⟨_, rfl, b2.cell 0⟩
  have HPN : Hid (∀ W v, NoH W v → Calls Tryd.prog 18 #[v, .pointer none, .agg #[.int .i64 k, .int .i64 mu, .int .i64 xk, .int .i64 xa, .int .i64 xb, .int .i64 xi, .int .i64 xn, .int .i64 xr, .int .i64 xd, .int .i64 xs, .int .i64 a, .int .i64 b, .int .i64 c]] W fun e w' => e = .returned (.bool true) ∧ Kp [] W w') := fun W v h => play_none h k mu xk xa xb xi xn xr xd xs a b c
  clear HAL hlz b1 k1 b2 k2 b3
  go_enter Tryd.func4, Tryd.ntmps4
  go_wp2_with (fail)
  generalize ((w.alloc (.cells #[.int .i64 k, .int .i64 mu, .int .i64 xk, .int .i64 xa, .int .i64 xb, .int .i64 xi, .int .i64 xn, .int .i64 xr, .int .i64 xd, .int .i64 xs, .int .i64 a, .int .i64 b, .int .i64 c] 37)).alloc (.cells #[.slice none 0 0, .int .i64 0, .int .i64 0, .int .i64 0, .int .i64 0, .int .i64 0, .int .i64 0, .int .i64 0, .int .i64 0, .int .i64 0, .int .i64 0, .int .i64 0, .int .i64 0, .int .i64 0, .int .i64 0, .int .i64 0, .int .i64 0, .slice none 0 0, .slice none 0 0, .slice none 0 0] 48)) = w0 at *
  generalize w.heap.size + 1 = gz at *
  refine (n_Slot (w := _) (.inl rfl) 0 a).mono ?_
  rintro e x0 ⟨rfl, K0⟩
  have HK1 := hid (HK0.out.chain K0)
  have HZ1 := hid (HZ0.out.kp0 K0)
  have bb := HB0.out.kp K0 (by simp)
  clear c0 c1 c2 c3 c4 c5 c6 c7 c8 c9 c10 c11 c12
  have c0 := bb.cell 0
  have c1 := bb.cell 1
  have c2 := bb.cell 2
  have c3 := bb.cell 3
  have c4 := bb.cell 4
  have c5 := bb.cell 5
  have c6 := bb.cell 6
  have c7 := bb.cell 7
  have c8 := bb.cell 8
  have c9 := bb.cell 9
  have c10 := bb.cell 10
  have c11 := bb.cell 11
  have c12 := bb.cell 12
  have HB1 := hid bb
  clear K0 bb
  go_wp2_with (fail)
  refine (n_Global (w := _) HZ1.out a).mono ?_
  rintro e x1 ⟨rfl, K1⟩
  have HK2 := hid (HK1.out.chain K1)
  have HZ2 := hid (HZ1.out.kp0 K1)
  have bb := HB1.out.kp K1 (by simp)
  clear c0 c1 c2 c3 c4 c5 c6 c7 c8 c9 c10 c11 c12
  have c0 := bb.cell 0
  have c1 := bb.cell 1
  have c2 := bb.cell 2
  have c3 := bb.cell 3
  have c4 := bb.cell 4
  have c5 := bb.cell 5
  have c6 := bb.cell 6
  have c7 := bb.cell 7
  have c8 := bb.cell 8
  have c9 := bb.cell 9
  have c10 := bb.cell 10
  have c11 := bb.cell 11
  have c12 := bb.cell 12
  have HB2 := hid bb
  clear K1 bb
  go_wp2_with (fail)
  refine (HPN.out _ _ (.inl rfl)).mono ?_
  rintro e x2 ⟨rfl, K2⟩
  have HK3 := hid (HK2.out.chain K2)
  have HZ3 := hid (HZ2.out.kp0 K2)
  have bb := HB2.out.kp K2 (by simp)
  clear c0 c1 c2 c3 c4 c5 c6 c7 c8 c9 c10 c11 c12
  have c0 := bb.cell 0
  have c1 := bb.cell 1
  have c2 := bb.cell 2
  have c3 := bb.cell 3
  have c4 := bb.cell 4
  have c5 := bb.cell 5
  have c6 := bb.cell 6
  have c7 := bb.cell 7
  have c8 := bb.cell 8
  have c9 := bb.cell 9
  have c10 := bb.cell 10
  have c11 := bb.cell 11
  have c12 := bb.cell 12
  have HB3 := hid bb
  clear K2 bb
  go_wp2_with (fail)
  refine (HPN.out _ _ HZ3.out).mono ?_
  rintro e x3 ⟨rfl, K3⟩
  have HK4 := hid (HK3.out.chain K3)
  have HZ4 := hid (HZ3.out.kp0 K3)
  have bb := HB3.out.kp K3 (by simp)
  clear c0 c1 c2 c3 c4 c5 c6 c7 c8 c9 c10 c11 c12
  have c10 := bb.cell 10
  have HB4 := hid bb
  clear K3 bb
  go_wp2_with (fail)
  refine (looks_none (w := _) (.inl rfl) a).mono ?_
  rintro e x4 ⟨rfl, K4⟩
  have HK5 := hid (HK4.out.chain K4)
  have HZ5 := hid (HZ4.out.kp0 K4)
  have bb := HB4.out.kp K4 (by simp)
  clear c10
  have c10 := bb.cell 10
  have HB5 := hid bb
  clear K4 bb
  go_wp2_with (fail)
  refine (looks_none (w := _) HZ5.out a).mono ?_
  rintro e x5 ⟨rfl, K5⟩
  have HK6 := hid (HK5.out.chain K5)
  have HZ6 := hid (HZ5.out.kp0 K5)
  have bb := HB5.out.kp K5 (by simp)
  clear c10
  have c10 := bb.cell 10
  have HB6 := hid bb
  clear K5 bb
  go_wp2_with (fail)
  refine (n_Kept (w := _) (.inl rfl)).mono ?_
  rintro e x6 ⟨rfl, K6⟩
  have HK7 := hid (HK6.out.chain K6)
  have HZ7 := hid (HZ6.out.kp0 K6)
  have bb := HB6.out.kp K6 (by simp)
  clear c10
  have c10 := bb.cell 10
  have HB7 := hid bb
  clear K6 bb
  go_wp2_with (fail)
  refine (n_Kept (w := _) HZ7.out).mono ?_
  rintro e x7 ⟨rfl, K7⟩
  have HK8 := hid (HK7.out.chain K7)
  have HZ8 := hid (HZ7.out.kp0 K7)
  have bb := HB7.out.kp K7 (by simp)
  clear c10
  have c10 := bb.cell 10
  have HB8 := hid bb
  clear K7 bb
  go_wp2_with (fail)
  refine (n_Births (w := _) (.inl rfl)).mono ?_
  rintro e x8 ⟨rfl, K8⟩
  have HK9 := hid (HK8.out.chain K8)
  have HZ9 := hid (HZ8.out.kp0 K8)
  have bb := HB8.out.kp K8 (by simp)
  clear c10
  have c10 := bb.cell 10
  have HB9 := hid bb
  clear K8 bb
  go_wp2_with (fail)
  refine (n_Mutators (w := _) HZ9.out).mono ?_
  rintro e x9 ⟨rfl, K9⟩
  have HK10 := hid (HK9.out.chain K9)
  have HZ10 := hid (HZ9.out.kp0 K9)
  have bb := HB9.out.kp K9 (by simp)
  clear c10
  have c10 := bb.cell 10
  have HB10 := hid bb
  clear K9 bb
  go_wp2_with (fail)
  refine (n_Queue (w := _) HZ10.out).mono ?_
  rintro e x10 ⟨rfl, K10⟩
  have HK11 := hid (HK10.out.chain K10)
  have HZ11 := hid (HZ10.out.kp0 K10)
  have bb := HB10.out.kp K10 (by simp)
  clear c10
  have c10 := bb.cell 10
  have HB11 := hid bb
  clear K10 bb
  go_wp2_with (fail)
  refine (n_Clone (w := _) (.inl rfl)).mono ?_
  rintro e x11 ⟨rfl, K11⟩
  have HK12 := hid (HK11.out.chain K11)
  have HZ12 := hid (HZ11.out.kp0 K11)
  have bb := HB11.out.kp K11 (by simp)
  clear c10
  have c10 := bb.cell 10
  have HB12 := hid bb
  clear K11 bb
  go_wp2_with (fail)
  refine (n_Clone (w := _) HZ12.out).mono ?_
  rintro e x12 ⟨rfl, K12⟩
  have HK13 := hid (HK12.out.chain K12)
  have HZ13 := hid (HZ12.out.kp0 K12)
  have bb := HB12.out.kp K12 (by simp)
  clear c10
  have c10 := bb.cell 10
  have HB13 := hid bb
  clear K12 bb
  go_wp2_with (fail)
  refine (HA.out _ (HLZ.out.kp0 HK13.out)).mono ?_
  rintro e x20 ⟨rfl, k20⟩
  have HKF := hid (HK13.out.chain k20)
  clear k20
  go_wp2
  go_ret
  exact ⟨rfl, HKF.out⟩
end
end Go.Proofs.YtbiompmklijgoaaDoor
