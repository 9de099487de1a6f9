/-
  The contract of package model's checkAct, for each kind of needs, needs 36. Conditions: those that stand in each theorem.
-/
import Derived.Test.YtbiompmklijgoaaDoorPGD
import Derived.Test.YtbiompmklijgoaaDoorPGA
import Derived.Test.YtbiompmklijgoaaDoorPGB
import Derived.Deep.RegionHeld3
namespace Go.Proofs.YtbiompmklijgoaaDoor
set_option linter.unusedVariables false
set_option linter.unusedSimpArgs false
open Go.RowKit Go.Deep Go.Maps

section
variable {w w' W V : World} {b b0 : MB} {t : MT}
set_option maxRecDepth 100000 in
set_option maxHeartbeats 1000000 in
theorem m_ck36_1 (R : MR w b t) (m : Nat) (hm : m < t.n) (fv : Value) (xk xn xr xd xs : Int) (xa : Int) (hsa : slotB xa = false) (xb : Int) (xi : Int) :
    Calls Tryd.prog 74 #[.pointer (some ⟨b.g, 0, none⟩), .agg #[.int .i64 36, fv], .pointer (some ⟨b.sb, m * 16, none⟩), .agg #[.int .i64 xk, .int .i64 xa, .int .i64 xb, .int .i64 xi, .int .i64 xn, .int .i64 xr, .int .i64 xd, .int .i64 xs]] w fun e w' => e = .returned (.int .i64 1) ∧ Kp [] w w' := by
  have D2 : IX w b t 36 fv ⟨xk, xa, xb, xi, xn, xr, xd, xs⟩ _ := IX.start R
  unfold MA.cells at D2
  simp only at D2
  have h4 := R.ok.n4
  have HSA := hid hsa
  clear hsa
  clear R
  go_enter Tryd.func74, Tryd.ntmps74
  go_upto_region 1 with fail
  generalize ((w.alloc (.cells #[.int .i64 36, fv] 99)).alloc (.cells #[.int .i64 xk, .int .i64 xa, .int .i64 xb, .int .i64 xi, .int .i64 xn, .int .i64 xr, .int .i64 xd, .int .i64 xs] 35)) = W2 at D2 ⊢
  have HD2 := hid D2
  clear D2
  have y20 : W2.cell? ⟨w.heap.size, 0, none⟩ = some (.int .i64 36) := HD2.out.Y.cell 0
  have y21 : W2.cell? ⟨w.heap.size, 1, none⟩ = some fv := HD2.out.Y.cell 1
  have a21 : W2.cell? ⟨w.heap.size + 1, 1, none⟩ = some (.int .i64 xa) := HD2.out.A.cell 1
  go_wp2_with (first
    | (go_at_call_of 60 (Value.int .i64 xa); refine (m_isSlot _ _).mono ?_; rw [HSA.out]; rintro e w' ⟨rfl, rfl⟩)
    | (go_at_call_of 95 (Value.int .i64 1); refine (m_need _ fv 36 1 0 false rfl rfl).mono ?_; rintro e w3 ⟨rfl, hk3⟩; have HD3 : Hid (IX w b t 36 fv ⟨xk, xa, xb, xi, xn, xr, xd, xs⟩ w3) := HD2.out.kp0 (hk3); have y30 : w3.cell? ⟨w.heap.size, 0, none⟩ = some (.int .i64 36) := HD3.out.Y.cell 0; have y31 : w3.cell? ⟨w.heap.size, 1, none⟩ = some fv := HD3.out.Y.cell 1; have a31 : w3.cell? ⟨w.heap.size + 1, 1, none⟩ = some (.int .i64 xa) := HD3.out.A.cell 1; have a32 : w3.cell? ⟨w.heap.size + 1, 2, none⟩ = some (.int .i64 xb) := HD3.out.A.cell 2; clear hk3))
  go_ret
  exact ⟨rfl, HD2.out.kp⟩
set_option maxRecDepth 100000 in
set_option maxHeartbeats 1000000 in
theorem m_ck36_4 (R : MR w b t) (m : Nat) (hm : m < t.n) (fv : Value) (xk xn xr xd xs : Int) (a : Nat) (ha : a < 16) (xb : Int) (xi : Int) (hyy : t.sl.getD (m * 16 + a) 0 = 0) :
    Calls Tryd.prog 74 #[.pointer (some ⟨b.g, 0, none⟩), .agg #[.int .i64 36, fv], .pointer (some ⟨b.sb, m * 16, none⟩), .agg #[.int .i64 xk, .int .i64 (a : Int), .int .i64 xb, .int .i64 xi, .int .i64 xn, .int .i64 xr, .int .i64 xd, .int .i64 xs]] w fun e w' => e = .returned (.int .i64 7) ∧ Kp [] w w' := by
  have D2 : IX w b t 36 fv ⟨xk, (a : Int), xb, xi, xn, xr, xd, xs⟩ _ := IX.start R
  unfold MA.cells at D2
  simp only at D2
  have h4 := R.ok.n4
  have q1 : (a : Int) < 16 := by omega
  have HSA : Hid (slotB (a : Int) = true) := decide_eq_true ⟨by omega, by omega⟩
  have HZA : Hid (m * 16 + a < 16 * t.n) := by show _ < _; omega
  have HY := hid hyy
  clear hyy
  clear R
  go_enter Tryd.func74, Tryd.ntmps74
  go_upto_region 1 with fail
  generalize ((w.alloc (.cells #[.int .i64 36, fv] 99)).alloc (.cells #[.int .i64 xk, .int .i64 (a : Int), .int .i64 xb, .int .i64 xi, .int .i64 xn, .int .i64 xr, .int .i64 xd, .int .i64 xs] 35)) = W2 at D2 ⊢
  have HD2 := hid D2
  clear D2
  have y20 : W2.cell? ⟨w.heap.size, 0, none⟩ = some (.int .i64 36) := HD2.out.Y.cell 0
  have y21 : W2.cell? ⟨w.heap.size, 1, none⟩ = some fv := HD2.out.Y.cell 1
  have a21 : W2.cell? ⟨w.heap.size + 1, 1, none⟩ = some (.int .i64 (a : Int)) := HD2.out.A.cell 1
  go_wp2_with (first
    | (go_at_call_of 60 (Value.int .i64 (a : Int)); refine (m_isSlot _ _).mono ?_; rw [HSA.out]; rintro e w' ⟨rfl, rfl⟩)
    | (go_at_call_of 95 (Value.int .i64 1); refine (m_need _ fv 36 1 0 false rfl rfl).mono ?_; rintro e w3 ⟨rfl, hk3⟩; have HD3 : Hid (IX w b t 36 fv ⟨xk, (a : Int), xb, xi, xn, xr, xd, xs⟩ w3) := HD2.out.kp0 (hk3); have y30 : w3.cell? ⟨w.heap.size, 0, none⟩ = some (.int .i64 36) := HD3.out.Y.cell 0; have y31 : w3.cell? ⟨w.heap.size, 1, none⟩ = some fv := HD3.out.Y.cell 1; have a31 : w3.cell? ⟨w.heap.size + 1, 1, none⟩ = some (.int .i64 (a : Int)) := HD3.out.A.cell 1; have a32 : w3.cell? ⟨w.heap.size + 1, 2, none⟩ = some (.int .i64 xb) := HD3.out.A.cell 2; clear hk3)
    | (go_at_call_of 95 (Value.int .i64 2); refine (m_need _ fv 36 2 0 false rfl rfl).mono ?_; rintro e w4 ⟨rfl, hk4⟩; have HD4 : Hid (IX w b t 36 fv ⟨xk, (a : Int), xb, xi, xn, xr, xd, xs⟩ w4) := HD3.out.kp0 (hk4); have y40 : w4.cell? ⟨w.heap.size, 0, none⟩ = some (.int .i64 36) := HD4.out.Y.cell 0; have y41 : w4.cell? ⟨w.heap.size, 1, none⟩ = some fv := HD4.out.Y.cell 1; have a41 : w4.cell? ⟨w.heap.size + 1, 1, none⟩ = some (.int .i64 (a : Int)) := HD4.out.A.cell 1; have a42 : w4.cell? ⟨w.heap.size + 1, 2, none⟩ = some (.int .i64 xb) := HD4.out.A.cell 2; have a45 : w4.cell? ⟨w.heap.size + 1, 5, none⟩ = some (.int .i64 xr) := HD4.out.A.cell 5; have a46 : w4.cell? ⟨w.heap.size + 1, 6, none⟩ = some (.int .i64 xd) := HD4.out.A.cell 6; have a47 : w4.cell? ⟨w.heap.size + 1, 7, none⟩ = some (.int .i64 xs) := HD4.out.A.cell 7; clear hk4))
  clear y20 y21 a21 y30 y31 a31 a32 y40 y41 a41 a42 a45 a46 a47
  have u0 : w4.cell? ⟨w.heap.size, 0, none⟩ = some (.int .i64 36) := HD4.out.Y.cell 0
  have u1 : w4.cell? ⟨w.heap.size, 1, none⟩ = some fv := HD4.out.Y.cell 1
  have u2 : w4.cell? ⟨w.heap.size + 1, 1, none⟩ = some (.int .i64 (a : Int)) := HD4.out.A.cell 1
  have u3 : w4.cell? ⟨b.sb, m * 16 + a, none⟩ = some (.int .i64 0) := (by have h := HD4.out.R.cs HZA.out; rw [HY.out] at h; exact h)
  refine wp_region_held_drew (S := (fun wz => wz.cell? ⟨w.heap.size, 0, none⟩ = some (.int .i64 36) ∧ wz.cell? ⟨w.heap.size, 1, none⟩ = some fv ∧ wz.cell? ⟨w.heap.size + 1, 1, none⟩ = some (.int .i64 (a : Int)) ∧ wz.cell? ⟨b.sb, m * 16 + a, none⟩ = some (.int .i64 0))) (by kernel_rfl) ?_ (fun hHeld => ?_)
  · exact ⟨cell_kp (Kp.draw _ 1) u0, cell_kp (Kp.draw _ 1) u1, cell_kp (Kp.draw _ 1) u2, cell_kp (Kp.draw _ 1) u3⟩
  refine wpAnyH_take (i := 0) (v := _) rfl (by kernel_rfl) (by kernel_rfl) (by kernel_rfl) (fun _ _ _ h => h) (Or.inl ⟨by rfl, by (intro wz hSw; have hca := hSw.1; have hcb := hSw.2.1; go_simp; try with_reducible rfl)⟩) (by assumption) ?_
  try simp only [List.getElem_toArray, List.getElem_cons_zero, List.getElem_cons_succ, Act.put, List.setIfInBounds_toArray, List.set_cons_zero, List.set_cons_succ]
  refine wpAnyH_ready (rs := [1]) (by kernel_rfl) (by simp) ?_
  refine AllReadyH.cons rfl (fun K hK => ?_) AllReadyH.nil
  go_simp
  refine (m_need _ fv 36 4 4 true rfl rfl).mono ?_
  rintro e w6 ⟨rfl, hk6⟩
  have HD6 : Hid (IX w b t 36 fv ⟨xk, (a : Int), xb, xi, xn, xr, xd, xs⟩ w6) := HD4.out.kp0 ((Kp.draw _ 1).chain hk6)
  try go_wp2_with fail
  refine hK.out _ _ ?_ (fun hHeld => ?_)
  · exact ⟨cell_kp (hk6) hHeld.1, cell_kp (hk6) hHeld.2.1, cell_kp (hk6) hHeld.2.2.1, cell_kp (hk6) hHeld.2.2.2⟩
  clear hK K
  refine wpAnyH_take (i := 2) (v := _) rfl (by kernel_rfl) (by kernel_rfl) (by kernel_rfl) (fun _ _ _ h => h) (Or.inl ⟨by rfl, by (intro wz hSw; go_simp; try with_reducible rfl)⟩) (by assumption) ?_
  try simp only [List.getElem_toArray, List.getElem_cons_zero, List.getElem_cons_succ, Act.put, List.setIfInBounds_toArray, List.set_cons_zero, List.set_cons_succ]
  refine wpAnyH_take (i := 3) (v := _) rfl (by kernel_rfl) (by kernel_rfl) (by kernel_rfl) (fun _ _ _ h => h) (Or.inl ⟨by rfl, by (intro wz hSw; go_simp; try with_reducible rfl)⟩) (by assumption) ?_
  try simp only [List.getElem_toArray, List.getElem_cons_zero, List.getElem_cons_succ, Act.put, List.setIfInBounds_toArray, List.set_cons_zero, List.set_cons_succ]
  refine wpAnyH_take (i := 4) (v := _) rfl (by kernel_rfl) (by kernel_rfl) (by kernel_rfl) (fun _ _ _ h => h) (Or.inl ⟨by rfl, by (intro wz hSw; go_simp; try with_reducible rfl)⟩) (by assumption) ?_
  try simp only [List.getElem_toArray, List.getElem_cons_zero, List.getElem_cons_succ, Act.put, List.setIfInBounds_toArray, List.set_cons_zero, List.set_cons_succ]
  refine wpAnyH_take (i := 5) (v := _) rfl (by kernel_rfl) (by kernel_rfl) (by kernel_rfl) (fun _ _ _ h => h) (Or.inl ⟨by rfl, by (intro wz hSw; have hca := hSw.2.2.1; go_simp; try with_reducible rfl)⟩) (by assumption) ?_
  try simp only [List.getElem_toArray, List.getElem_cons_zero, List.getElem_cons_succ, Act.put, List.setIfInBounds_toArray, List.set_cons_zero, List.set_cons_succ]
  refine wpAnyH_take (i := 6) (v := _) rfl (by kernel_rfl) (by kernel_rfl) (by kernel_rfl) (fun _ _ _ h => h) (Or.inl ⟨by rfl, by (intro wz hSw; go_simp; try with_reducible rfl)⟩) (by assumption) ?_
  try simp only [List.getElem_toArray, List.getElem_cons_zero, List.getElem_cons_succ, Act.put, List.setIfInBounds_toArray, List.set_cons_zero, List.set_cons_succ]
  refine wpAnyH_take (i := 7) (v := _) rfl (by kernel_rfl) (by kernel_rfl) (by kernel_rfl) (fun _ _ _ h => h) (Or.inl ⟨by rfl, by (intro wz hSw; go_simp; try with_reducible rfl)⟩) (by assumption) ?_
  try simp only [List.getElem_toArray, List.getElem_cons_zero, List.getElem_cons_succ, Act.put, List.setIfInBounds_toArray, List.set_cons_zero, List.set_cons_succ]
  refine wpAnyH_take (i := 8) (v := _) rfl (by kernel_rfl) (by kernel_rfl) (by kernel_rfl) (fun _ _ _ h => h) (Or.inl ⟨by rfl, by (intro wz hSw; have hca := hSw.2.2.2; go_simp; try with_reducible rfl)⟩) (by assumption) ?_
  try simp only [List.getElem_toArray, List.getElem_cons_zero, List.getElem_cons_succ, Act.put, List.setIfInBounds_toArray, List.set_cons_zero, List.set_cons_succ]
  refine wpAnyH_take (i := 9) (v := _) rfl (by kernel_rfl) (by kernel_rfl) (by kernel_rfl) (fun _ _ _ h => h) (Or.inl ⟨by rfl, by (intro wz hSw; go_simp; try with_reducible rfl)⟩) (by assumption) ?_
  try simp only [List.getElem_toArray, List.getElem_cons_zero, List.getElem_cons_succ, Act.put, List.setIfInBounds_toArray, List.set_cons_zero, List.set_cons_succ]
  refine wpAnyH_take (i := 10) (v := _) rfl (by kernel_rfl) (by kernel_rfl) (by kernel_rfl) (fun _ _ _ h => h) (Or.inl ⟨by rfl, by (intro wz hSw; go_simp; try with_reducible rfl)⟩) (by assumption) ?_
  try simp only [List.getElem_toArray, List.getElem_cons_zero, List.getElem_cons_succ, Act.put, List.setIfInBounds_toArray, List.set_cons_zero, List.set_cons_succ]
  refine wpAnyH_take (i := 11) (v := _) rfl (by kernel_rfl) (by kernel_rfl) (by kernel_rfl) (fun _ _ _ h => h) (Or.inl ⟨by rfl, by (intro wz hSw; go_simp; try with_reducible rfl)⟩) (by assumption) ?_
  try simp only [List.getElem_toArray, List.getElem_cons_zero, List.getElem_cons_succ, Act.put, List.setIfInBounds_toArray, List.set_cons_zero, List.set_cons_succ]
  refine wpAnyH_take (i := 12) (v := undef) rfl (by kernel_rfl) (by kernel_rfl) (by kernel_rfl) (fun _ _ _ h => h) (Or.inr ⟨by rfl, rfl⟩) (by assumption) ?_
  try simp only [List.getElem_toArray, List.getElem_cons_zero, List.getElem_cons_succ, Act.put, List.setIfInBounds_toArray, List.set_cons_zero, List.set_cons_succ]
  refine wpAnyH_take (i := 13) (v := undef) rfl (by kernel_rfl) (by kernel_rfl) (by kernel_rfl) (fun _ _ _ h => h) (Or.inr ⟨by rfl, rfl⟩) (by assumption) ?_
  try simp only [List.getElem_toArray, List.getElem_cons_zero, List.getElem_cons_succ, Act.put, List.setIfInBounds_toArray, List.set_cons_zero, List.set_cons_succ]
  refine wpAnyH_take (i := 14) (v := undef) rfl (by kernel_rfl) (by kernel_rfl) (by kernel_rfl) (fun _ _ _ h => h) (Or.inr ⟨by rfl, rfl⟩) (by assumption) ?_
  try simp only [List.getElem_toArray, List.getElem_cons_zero, List.getElem_cons_succ, Act.put, List.setIfInBounds_toArray, List.set_cons_zero, List.set_cons_succ]
  refine wpAnyH_take (i := 15) (v := undef) rfl (by kernel_rfl) (by kernel_rfl) (by kernel_rfl) (fun _ _ _ h => h) (Or.inr ⟨by rfl, rfl⟩) (by assumption) ?_
  try simp only [List.getElem_toArray, List.getElem_cons_zero, List.getElem_cons_succ, Act.put, List.setIfInBounds_toArray, List.set_cons_zero, List.set_cons_succ]
  refine wpAnyH_take (i := 16) (v := undef) rfl (by kernel_rfl) (by kernel_rfl) (by kernel_rfl) (fun _ _ _ h => h) (Or.inr ⟨by rfl, rfl⟩) (by assumption) ?_
  try simp only [List.getElem_toArray, List.getElem_cons_zero, List.getElem_cons_succ, Act.put, List.setIfInBounds_toArray, List.set_cons_zero, List.set_cons_succ]
  refine wpAnyH_take (i := 17) (v := undef) rfl (by kernel_rfl) (by kernel_rfl) (by kernel_rfl) (fun _ _ _ h => h) (Or.inr ⟨by rfl, rfl⟩) (by assumption) ?_
  try simp only [List.getElem_toArray, List.getElem_cons_zero, List.getElem_cons_succ, Act.put, List.setIfInBounds_toArray, List.set_cons_zero, List.set_cons_succ]
  refine wpAnyH_take (i := 18) (v := undef) rfl (by kernel_rfl) (by kernel_rfl) (by kernel_rfl) (fun _ _ _ h => h) (Or.inr ⟨by rfl, rfl⟩) (by assumption) ?_
  try simp only [List.getElem_toArray, List.getElem_cons_zero, List.getElem_cons_succ, Act.put, List.setIfInBounds_toArray, List.set_cons_zero, List.set_cons_succ]
  refine wpAnyH_take (i := 19) (v := undef) rfl (by kernel_rfl) (by kernel_rfl) (by kernel_rfl) (fun _ _ _ h => h) (Or.inr ⟨by rfl, rfl⟩) (by assumption) ?_
  try simp only [List.getElem_toArray, List.getElem_cons_zero, List.getElem_cons_succ, Act.put, List.setIfInBounds_toArray, List.set_cons_zero, List.set_cons_succ]
  refine wpAnyH_take (i := 20) (v := undef) rfl (by kernel_rfl) (by kernel_rfl) (by kernel_rfl) (fun _ _ _ h => h) (Or.inr ⟨by rfl, rfl⟩) (by assumption) ?_
  try simp only [List.getElem_toArray, List.getElem_cons_zero, List.getElem_cons_succ, Act.put, List.setIfInBounds_toArray, List.set_cons_zero, List.set_cons_succ]
  refine wpAnyH_take (i := 21) (v := undef) rfl (by kernel_rfl) (by kernel_rfl) (by kernel_rfl) (fun _ _ _ h => h) (Or.inr ⟨by rfl, rfl⟩) (by assumption) ?_
  try simp only [List.getElem_toArray, List.getElem_cons_zero, List.getElem_cons_succ, Act.put, List.setIfInBounds_toArray, List.set_cons_zero, List.set_cons_succ]
  refine wpAnyH_take (i := 22) (v := undef) rfl (by kernel_rfl) (by kernel_rfl) (by kernel_rfl) (fun _ _ _ h => h) (Or.inr ⟨by rfl, rfl⟩) (by assumption) ?_
  try simp only [List.getElem_toArray, List.getElem_cons_zero, List.getElem_cons_succ, Act.put, List.setIfInBounds_toArray, List.set_cons_zero, List.set_cons_succ]
  refine wpAnyH_take (i := 23) (v := _) rfl (by kernel_rfl) (by kernel_rfl) (by kernel_rfl) (fun _ _ _ h => h) (Or.inl ⟨by rfl, by (intro wz hSw; go_simp; try with_reducible rfl)⟩) (by assumption) ?_
  try simp only [List.getElem_toArray, List.getElem_cons_zero, List.getElem_cons_succ, Act.put, List.setIfInBounds_toArray, List.set_cons_zero, List.set_cons_succ]
  refine wpAnyH_done (by kernel_rfl) ?_ _
  have HD8 := HD6
  clear hHeld
  clear u0 u1 u2 u3
  try clear hk6
  try clear hk7
  go_wp2_with fail
  go_ret
  exact ⟨rfl, HD8.out.kp⟩
set_option maxRecDepth 100000 in
set_option maxHeartbeats 1000000 in
theorem m_ck36_6 (R : MR w b t) (m : Nat) (hm : m < t.n) (fv : Value) (xk xn xr xd xs : Int) (a : Nat) (ha : a < 16) (xb : Int) (xi : Int) (y : Int) (hyy : y = t.sl.getD (m * 16 + a) 0) (hh : t.has y = true) (hix : ¬ (0 ≤ xi ∧ xi < (((t.obj y).d : Nat) : Int))) :
    Calls Tryd.prog 74 #[.pointer (some ⟨b.g, 0, none⟩), .agg #[.int .i64 36, fv], .pointer (some ⟨b.sb, m * 16, none⟩), .agg #[.int .i64 xk, .int .i64 (a : Int), .int .i64 xb, .int .i64 xi, .int .i64 xn, .int .i64 xr, .int .i64 xd, .int .i64 xs]] w fun e w' => e = .returned (.int .i64 1) ∧ Kp [] w w' := by
  have D2 : IX w b t 36 fv ⟨xk, (a : Int), xb, xi, xn, xr, xd, xs⟩ _ := IX.start R
  unfold MA.cells at D2
  simp only at D2
  have h4 := R.ok.n4
  have q1 : (a : Int) < 16 := by omega
  have HSA : Hid (slotB (a : Int) = true) := decide_eq_true ⟨by omega, by omega⟩
  have HZA : Hid (m * 16 + a < 16 * t.n) := by show _ < _; omega
  have HY := hid hyy
  have HH := hid hh
  have hy0 : (y == 0) = false := by
    have := of_decide_eq_true hh
    simpa using (show y ≠ 0 by omega)
  clear hyy hh
  have HIX := hid hix
  clear hix
  clear R
  go_enter Tryd.func74, Tryd.ntmps74
  go_upto_region 1 with fail
  generalize ((w.alloc (.cells #[.int .i64 36, fv] 99)).alloc (.cells #[.int .i64 xk, .int .i64 (a : Int), .int .i64 xb, .int .i64 xi, .int .i64 xn, .int .i64 xr, .int .i64 xd, .int .i64 xs] 35)) = W2 at D2 ⊢
  have HD2 := hid D2
  clear D2
  have y20 : W2.cell? ⟨w.heap.size, 0, none⟩ = some (.int .i64 36) := HD2.out.Y.cell 0
  have y21 : W2.cell? ⟨w.heap.size, 1, none⟩ = some fv := HD2.out.Y.cell 1
  have a21 : W2.cell? ⟨w.heap.size + 1, 1, none⟩ = some (.int .i64 (a : Int)) := HD2.out.A.cell 1
  go_wp2_with (first
    | (go_at_call_of 60 (Value.int .i64 (a : Int)); refine (m_isSlot _ _).mono ?_; rw [HSA.out]; rintro e w' ⟨rfl, rfl⟩)
    | (go_at_call_of 95 (Value.int .i64 1); refine (m_need _ fv 36 1 0 false rfl rfl).mono ?_; rintro e w3 ⟨rfl, hk3⟩; have HD3 : Hid (IX w b t 36 fv ⟨xk, (a : Int), xb, xi, xn, xr, xd, xs⟩ w3) := HD2.out.kp0 (hk3); have y30 : w3.cell? ⟨w.heap.size, 0, none⟩ = some (.int .i64 36) := HD3.out.Y.cell 0; have y31 : w3.cell? ⟨w.heap.size, 1, none⟩ = some fv := HD3.out.Y.cell 1; have a31 : w3.cell? ⟨w.heap.size + 1, 1, none⟩ = some (.int .i64 (a : Int)) := HD3.out.A.cell 1; have a32 : w3.cell? ⟨w.heap.size + 1, 2, none⟩ = some (.int .i64 xb) := HD3.out.A.cell 2; clear hk3)
    | (go_at_call_of 95 (Value.int .i64 2); refine (m_need _ fv 36 2 0 false rfl rfl).mono ?_; rintro e w4 ⟨rfl, hk4⟩; have HD4 : Hid (IX w b t 36 fv ⟨xk, (a : Int), xb, xi, xn, xr, xd, xs⟩ w4) := HD3.out.kp0 (hk4); have y40 : w4.cell? ⟨w.heap.size, 0, none⟩ = some (.int .i64 36) := HD4.out.Y.cell 0; have y41 : w4.cell? ⟨w.heap.size, 1, none⟩ = some fv := HD4.out.Y.cell 1; have a41 : w4.cell? ⟨w.heap.size + 1, 1, none⟩ = some (.int .i64 (a : Int)) := HD4.out.A.cell 1; have a42 : w4.cell? ⟨w.heap.size + 1, 2, none⟩ = some (.int .i64 xb) := HD4.out.A.cell 2; have a45 : w4.cell? ⟨w.heap.size + 1, 5, none⟩ = some (.int .i64 xr) := HD4.out.A.cell 5; have a46 : w4.cell? ⟨w.heap.size + 1, 6, none⟩ = some (.int .i64 xd) := HD4.out.A.cell 6; have a47 : w4.cell? ⟨w.heap.size + 1, 7, none⟩ = some (.int .i64 xs) := HD4.out.A.cell 7; clear hk4))
  clear y20 y21 a21 y30 y31 a31 a32 y40 y41 a41 a42 a45 a46 a47
  have u0 : w4.cell? ⟨w.heap.size, 0, none⟩ = some (.int .i64 36) := HD4.out.Y.cell 0
  have u1 : w4.cell? ⟨w.heap.size, 1, none⟩ = some fv := HD4.out.Y.cell 1
  have u2 : w4.cell? ⟨w.heap.size + 1, 1, none⟩ = some (.int .i64 (a : Int)) := HD4.out.A.cell 1
  have u3 : w4.cell? ⟨b.sb, m * 16 + a, none⟩ = some (.int .i64 y) := (by rw [HY.out]; exact HD4.out.R.cs HZA.out)
  refine wp_region_held_drew (S := (fun wz => wz.cell? ⟨w.heap.size, 0, none⟩ = some (.int .i64 36) ∧ wz.cell? ⟨w.heap.size, 1, none⟩ = some fv ∧ wz.cell? ⟨w.heap.size + 1, 1, none⟩ = some (.int .i64 (a : Int)) ∧ wz.cell? ⟨b.sb, m * 16 + a, none⟩ = some (.int .i64 y))) (by kernel_rfl) ?_ (fun hHeld => ?_)
  · exact ⟨cell_kp (Kp.draw _ 1) u0, cell_kp (Kp.draw _ 1) u1, cell_kp (Kp.draw _ 1) u2, cell_kp (Kp.draw _ 1) u3⟩
  refine wpAnyH_take (i := 0) (v := _) rfl (by kernel_rfl) (by kernel_rfl) (by kernel_rfl) (fun _ _ _ h => h) (Or.inl ⟨by rfl, by (intro wz hSw; have hca := hSw.1; have hcb := hSw.2.1; go_simp; try with_reducible rfl)⟩) (by assumption) ?_
  try simp only [List.getElem_toArray, List.getElem_cons_zero, List.getElem_cons_succ, Act.put, List.setIfInBounds_toArray, List.set_cons_zero, List.set_cons_succ]
  refine wpAnyH_ready (rs := [1]) (by kernel_rfl) (by simp) ?_
  refine AllReadyH.cons rfl (fun K hK => ?_) AllReadyH.nil
  go_simp
  refine (m_need _ fv 36 4 4 true rfl rfl).mono ?_
  rintro e w6 ⟨rfl, hk6⟩
  have HD6 : Hid (IX w b t 36 fv ⟨xk, (a : Int), xb, xi, xn, xr, xd, xs⟩ w6) := HD4.out.kp0 ((Kp.draw _ 1).chain hk6)
  try go_wp2_with fail
  refine hK.out _ _ ?_ (fun hHeld => ?_)
  · exact ⟨cell_kp (hk6) hHeld.1, cell_kp (hk6) hHeld.2.1, cell_kp (hk6) hHeld.2.2.1, cell_kp (hk6) hHeld.2.2.2⟩
  clear hK K
  refine wpAnyH_take (i := 2) (v := _) rfl (by kernel_rfl) (by kernel_rfl) (by kernel_rfl) (fun _ _ _ h => h) (Or.inl ⟨by rfl, by (intro wz hSw; go_simp; try with_reducible rfl)⟩) (by assumption) ?_
  try simp only [List.getElem_toArray, List.getElem_cons_zero, List.getElem_cons_succ, Act.put, List.setIfInBounds_toArray, List.set_cons_zero, List.set_cons_succ]
  refine wpAnyH_take (i := 3) (v := _) rfl (by kernel_rfl) (by kernel_rfl) (by kernel_rfl) (fun _ _ _ h => h) (Or.inl ⟨by rfl, by (intro wz hSw; go_simp; try with_reducible rfl)⟩) (by assumption) ?_
  try simp only [List.getElem_toArray, List.getElem_cons_zero, List.getElem_cons_succ, Act.put, List.setIfInBounds_toArray, List.set_cons_zero, List.set_cons_succ]
  refine wpAnyH_take (i := 4) (v := _) rfl (by kernel_rfl) (by kernel_rfl) (by kernel_rfl) (fun _ _ _ h => h) (Or.inl ⟨by rfl, by (intro wz hSw; go_simp; try with_reducible rfl)⟩) (by assumption) ?_
  try simp only [List.getElem_toArray, List.getElem_cons_zero, List.getElem_cons_succ, Act.put, List.setIfInBounds_toArray, List.set_cons_zero, List.set_cons_succ]
  refine wpAnyH_take (i := 5) (v := _) rfl (by kernel_rfl) (by kernel_rfl) (by kernel_rfl) (fun _ _ _ h => h) (Or.inl ⟨by rfl, by (intro wz hSw; have hca := hSw.2.2.1; go_simp; try with_reducible rfl)⟩) (by assumption) ?_
  try simp only [List.getElem_toArray, List.getElem_cons_zero, List.getElem_cons_succ, Act.put, List.setIfInBounds_toArray, List.set_cons_zero, List.set_cons_succ]
  refine wpAnyH_take (i := 6) (v := _) rfl (by kernel_rfl) (by kernel_rfl) (by kernel_rfl) (fun _ _ _ h => h) (Or.inl ⟨by rfl, by (intro wz hSw; go_simp; try with_reducible rfl)⟩) (by assumption) ?_
  try simp only [List.getElem_toArray, List.getElem_cons_zero, List.getElem_cons_succ, Act.put, List.setIfInBounds_toArray, List.set_cons_zero, List.set_cons_succ]
  refine wpAnyH_take (i := 7) (v := _) rfl (by kernel_rfl) (by kernel_rfl) (by kernel_rfl) (fun _ _ _ h => h) (Or.inl ⟨by rfl, by (intro wz hSw; go_simp; try with_reducible rfl)⟩) (by assumption) ?_
  try simp only [List.getElem_toArray, List.getElem_cons_zero, List.getElem_cons_succ, Act.put, List.setIfInBounds_toArray, List.set_cons_zero, List.set_cons_succ]
  refine wpAnyH_take (i := 8) (v := _) rfl (by kernel_rfl) (by kernel_rfl) (by kernel_rfl) (fun _ _ _ h => h) (Or.inl ⟨by rfl, by (intro wz hSw; have hca := hSw.2.2.2; go_simp; try with_reducible rfl)⟩) (by assumption) ?_
  try simp only [List.getElem_toArray, List.getElem_cons_zero, List.getElem_cons_succ, Act.put, List.setIfInBounds_toArray, List.set_cons_zero, List.set_cons_succ]
  refine wpAnyH_take (i := 9) (v := _) rfl (by kernel_rfl) (by kernel_rfl) (by kernel_rfl) (fun _ _ _ h => h) (Or.inl ⟨by rfl, by (intro wz hSw; go_simp; try with_reducible rfl)⟩) (by assumption) ?_
  try simp only [List.getElem_toArray, List.getElem_cons_zero, List.getElem_cons_succ, Act.put, List.setIfInBounds_toArray, List.set_cons_zero, List.set_cons_succ]
  refine wpAnyH_take (i := 10) (v := _) rfl (by kernel_rfl) (by kernel_rfl) (by kernel_rfl) (fun _ _ _ h => h) (Or.inl ⟨by rfl, by (intro wz hSw; go_simp; try with_reducible rfl)⟩) (by assumption) ?_
  try simp only [List.getElem_toArray, List.getElem_cons_zero, List.getElem_cons_succ, Act.put, List.setIfInBounds_toArray, List.set_cons_zero, List.set_cons_succ]
  refine wpAnyH_take (i := 11) (v := _) rfl (by kernel_rfl) (by kernel_rfl) (by kernel_rfl) (fun _ _ _ h => h) (Or.inl ⟨by rfl, by (intro wz hSw; go_simp; try with_reducible rfl)⟩) (by assumption) ?_
  try simp only [List.getElem_toArray, List.getElem_cons_zero, List.getElem_cons_succ, Act.put, List.setIfInBounds_toArray, List.set_cons_zero, List.set_cons_succ]
  refine wpAnyH_take (i := 12) (v := _) rfl (by kernel_rfl) (by kernel_rfl) (by kernel_rfl) (fun _ _ _ h => h) (Or.inl ⟨by rfl, by (intro wz hSw; have hca := hSw.1; have hcb := hSw.2.1; go_simp; try with_reducible rfl)⟩) (by assumption) ?_
  try simp only [List.getElem_toArray, List.getElem_cons_zero, List.getElem_cons_succ, Act.put, List.setIfInBounds_toArray, List.set_cons_zero, List.set_cons_succ]
  refine wpAnyH_ready (rs := [13]) (by kernel_rfl) (by simp) ?_
  refine AllReadyH.cons rfl (fun K hK => ?_) AllReadyH.nil
  go_simp
  refine (m_need _ fv 36 8 0 false rfl rfl).mono ?_
  rintro e w7 ⟨rfl, hk7⟩
  have HD7 : Hid (IX w b t 36 fv ⟨xk, (a : Int), xb, xi, xn, xr, xd, xs⟩ w7) := HD6.out.kp0 (hk7)
  try go_wp2_with fail
  refine hK.out _ _ ?_ (fun hHeld => ?_)
  · exact ⟨cell_kp (hk7) hHeld.1, cell_kp (hk7) hHeld.2.1, cell_kp (hk7) hHeld.2.2.1, cell_kp (hk7) hHeld.2.2.2⟩
  clear hK K
  refine wpAnyH_take (i := 14) (v := _) rfl (by kernel_rfl) (by kernel_rfl) (by kernel_rfl) (fun _ _ _ h => h) (Or.inl ⟨by rfl, by (intro wz hSw; go_simp; try with_reducible rfl)⟩) (by assumption) ?_
  try simp only [List.getElem_toArray, List.getElem_cons_zero, List.getElem_cons_succ, Act.put, List.setIfInBounds_toArray, List.set_cons_zero, List.set_cons_succ]
  refine wpAnyH_take (i := 15) (v := undef) rfl (by kernel_rfl) (by kernel_rfl) (by kernel_rfl) (fun _ _ _ h => h) (Or.inr ⟨by rfl, rfl⟩) (by assumption) ?_
  try simp only [List.getElem_toArray, List.getElem_cons_zero, List.getElem_cons_succ, Act.put, List.setIfInBounds_toArray, List.set_cons_zero, List.set_cons_succ]
  refine wpAnyH_take (i := 16) (v := undef) rfl (by kernel_rfl) (by kernel_rfl) (by kernel_rfl) (fun _ _ _ h => h) (Or.inr ⟨by rfl, rfl⟩) (by assumption) ?_
  try simp only [List.getElem_toArray, List.getElem_cons_zero, List.getElem_cons_succ, Act.put, List.setIfInBounds_toArray, List.set_cons_zero, List.set_cons_succ]
  refine wpAnyH_take (i := 17) (v := undef) rfl (by kernel_rfl) (by kernel_rfl) (by kernel_rfl) (fun _ _ _ h => h) (Or.inr ⟨by rfl, rfl⟩) (by assumption) ?_
  try simp only [List.getElem_toArray, List.getElem_cons_zero, List.getElem_cons_succ, Act.put, List.setIfInBounds_toArray, List.set_cons_zero, List.set_cons_succ]
  refine wpAnyH_take (i := 18) (v := undef) rfl (by kernel_rfl) (by kernel_rfl) (by kernel_rfl) (fun _ _ _ h => h) (Or.inr ⟨by rfl, rfl⟩) (by assumption) ?_
  try simp only [List.getElem_toArray, List.getElem_cons_zero, List.getElem_cons_succ, Act.put, List.setIfInBounds_toArray, List.set_cons_zero, List.set_cons_succ]
  refine wpAnyH_take (i := 19) (v := undef) rfl (by kernel_rfl) (by kernel_rfl) (by kernel_rfl) (fun _ _ _ h => h) (Or.inr ⟨by rfl, rfl⟩) (by assumption) ?_
  try simp only [List.getElem_toArray, List.getElem_cons_zero, List.getElem_cons_succ, Act.put, List.setIfInBounds_toArray, List.set_cons_zero, List.set_cons_succ]
  refine wpAnyH_take (i := 20) (v := undef) rfl (by kernel_rfl) (by kernel_rfl) (by kernel_rfl) (fun _ _ _ h => h) (Or.inr ⟨by rfl, rfl⟩) (by assumption) ?_
  try simp only [List.getElem_toArray, List.getElem_cons_zero, List.getElem_cons_succ, Act.put, List.setIfInBounds_toArray, List.set_cons_zero, List.set_cons_succ]
  refine wpAnyH_take (i := 21) (v := undef) rfl (by kernel_rfl) (by kernel_rfl) (by kernel_rfl) (fun _ _ _ h => h) (Or.inr ⟨by rfl, rfl⟩) (by assumption) ?_
  try simp only [List.getElem_toArray, List.getElem_cons_zero, List.getElem_cons_succ, Act.put, List.setIfInBounds_toArray, List.set_cons_zero, List.set_cons_succ]
  refine wpAnyH_take (i := 22) (v := _) rfl (by kernel_rfl) (by kernel_rfl) (by kernel_rfl) (fun _ _ _ h => h) (Or.inl ⟨by rfl, by (intro wz hSw; go_simp; try with_reducible rfl)⟩) (by assumption) ?_
  try simp only [List.getElem_toArray, List.getElem_cons_zero, List.getElem_cons_succ, Act.put, List.setIfInBounds_toArray, List.set_cons_zero, List.set_cons_succ]
  refine wpAnyH_take (i := 23) (v := _) rfl (by kernel_rfl) (by kernel_rfl) (by kernel_rfl) (fun _ _ _ h => h) (Or.inl ⟨by rfl, by (intro wz hSw; go_simp; try with_reducible rfl)⟩) (by assumption) ?_
  try simp only [List.getElem_toArray, List.getElem_cons_zero, List.getElem_cons_succ, Act.put, List.setIfInBounds_toArray, List.set_cons_zero, List.set_cons_succ]
  refine wpAnyH_done (by kernel_rfl) ?_ _
  have HD8 := HD7
  clear hHeld
  clear u0 u1 u2 u3
  try clear hk6
  try clear hk7
  have y80 : w7.cell? ⟨w.heap.size, 0, none⟩ = some (.int .i64 36) := HD8.out.Y.cell 0
  have y81 : w7.cell? ⟨w.heap.size, 1, none⟩ = some fv := HD8.out.Y.cell 1
  have a80 : w7.cell? ⟨w.heap.size + 1, 0, none⟩ = some (.int .i64 xk) := HD8.out.A.cell 0
  have a81 : w7.cell? ⟨w.heap.size + 1, 1, none⟩ = some (.int .i64 (a : Int)) := HD8.out.A.cell 1
  have a82 : w7.cell? ⟨w.heap.size + 1, 2, none⟩ = some (.int .i64 xb) := HD8.out.A.cell 2
  have a83 : w7.cell? ⟨w.heap.size + 1, 3, none⟩ = some (.int .i64 xi) := HD8.out.A.cell 3
  have a84 : w7.cell? ⟨w.heap.size + 1, 4, none⟩ = some (.int .i64 xn) := HD8.out.A.cell 4
  have a85 : w7.cell? ⟨w.heap.size + 1, 5, none⟩ = some (.int .i64 xr) := HD8.out.A.cell 5
  have a86 : w7.cell? ⟨w.heap.size + 1, 6, none⟩ = some (.int .i64 xd) := HD8.out.A.cell 6
  have a87 : w7.cell? ⟨w.heap.size + 1, 7, none⟩ = some (.int .i64 xs) := HD8.out.A.cell 7
  go_wp2_with (first
    | (go_at_call 97; go_loud (refine (m_idx36 HD8.out.R m hm a ha fv _ _ _ _ _ _ _ y HY.out HH.out).mono ?_; rintro e w9 ⟨v9, rfl, hv9, hk9⟩; obtain ⟨Av, cv, rfl, hcv⟩ := hv9.cut; have HCV := hid hcv; clear hcv; have HD9 : Hid (IX w b t 36 fv ⟨xk, (a : Int), xb, xi, xn, xr, xd, xs⟩ w9) := HD8.out.kp0 (hk9); have a93 : w9.cell? ⟨w.heap.size + 1, 3, none⟩ = some (.int .i64 xi) := HD9.out.A.cell 3; clear hk9 hv9))
    | (go_at_call 69; go_loud (refine (m_at_no _ HIX.out HCV.out).mono ?_; rintro e w10 ⟨rfl, rfl⟩)))
  go_ret
  exact ⟨rfl, HD9.out.kp⟩
set_option maxRecDepth 100000 in
set_option maxHeartbeats 1000000 in
theorem m_ck36_7 (R : MR w b t) (m : Nat) (hm : m < t.n) (fv : Value) (xk xn xr xd xs : Int) (a : Nat) (ha : a < 16) (xb : Int) (i : Nat) (y : Int) (hyy : y = t.sl.getD (m * 16 + a) 0) (hh : t.has y = true) (hix : i < (t.obj y).d) :
    Calls Tryd.prog 74 #[.pointer (some ⟨b.g, 0, none⟩), .agg #[.int .i64 36, fv], .pointer (some ⟨b.sb, m * 16, none⟩), .agg #[.int .i64 xk, .int .i64 (a : Int), .int .i64 xb, .int .i64 (i : Int), .int .i64 xn, .int .i64 xr, .int .i64 xd, .int .i64 xs]] w fun e w' => e = .returned (.int .i64 0) ∧ Kp [] w w' := by
  have D2 : IX w b t 36 fv ⟨xk, (a : Int), xb, (i : Int), xn, xr, xd, xs⟩ _ := IX.start R
  unfold MA.cells at D2
  simp only at D2
  have h4 := R.ok.n4
  have q1 : (a : Int) < 16 := by omega
  have HSA : Hid (slotB (a : Int) = true) := decide_eq_true ⟨by omega, by omega⟩
  have HZA : Hid (m * 16 + a < 16 * t.n) := by show _ < _; omega
  have HY := hid hyy
  have HH := hid hh
  have hy0 : (y == 0) = false := by
    have := of_decide_eq_true hh
    simpa using (show y ≠ 0 by omega)
  clear hyy hh
  have HIX := hid hix
  clear hix
  clear R
  go_enter Tryd.func74, Tryd.ntmps74
  go_upto_region 1 with fail
  generalize ((w.alloc (.cells #[.int .i64 36, fv] 99)).alloc (.cells #[.int .i64 xk, .int .i64 (a : Int), .int .i64 xb, .int .i64 (i : Int), .int .i64 xn, .int .i64 xr, .int .i64 xd, .int .i64 xs] 35)) = W2 at D2 ⊢
  have HD2 := hid D2
  clear D2
  have y20 : W2.cell? ⟨w.heap.size, 0, none⟩ = some (.int .i64 36) := HD2.out.Y.cell 0
  have y21 : W2.cell? ⟨w.heap.size, 1, none⟩ = some fv := HD2.out.Y.cell 1
  have a21 : W2.cell? ⟨w.heap.size + 1, 1, none⟩ = some (.int .i64 (a : Int)) := HD2.out.A.cell 1
  go_wp2_with (first
    | (go_at_call_of 60 (Value.int .i64 (a : Int)); refine (m_isSlot _ _).mono ?_; rw [HSA.out]; rintro e w' ⟨rfl, rfl⟩)
    | (go_at_call_of 95 (Value.int .i64 1); refine (m_need _ fv 36 1 0 false rfl rfl).mono ?_; rintro e w3 ⟨rfl, hk3⟩; have HD3 : Hid (IX w b t 36 fv ⟨xk, (a : Int), xb, (i : Int), xn, xr, xd, xs⟩ w3) := HD2.out.kp0 (hk3); have y30 : w3.cell? ⟨w.heap.size, 0, none⟩ = some (.int .i64 36) := HD3.out.Y.cell 0; have y31 : w3.cell? ⟨w.heap.size, 1, none⟩ = some fv := HD3.out.Y.cell 1; have a31 : w3.cell? ⟨w.heap.size + 1, 1, none⟩ = some (.int .i64 (a : Int)) := HD3.out.A.cell 1; have a32 : w3.cell? ⟨w.heap.size + 1, 2, none⟩ = some (.int .i64 xb) := HD3.out.A.cell 2; clear hk3)
    | (go_at_call_of 95 (Value.int .i64 2); refine (m_need _ fv 36 2 0 false rfl rfl).mono ?_; rintro e w4 ⟨rfl, hk4⟩; have HD4 : Hid (IX w b t 36 fv ⟨xk, (a : Int), xb, (i : Int), xn, xr, xd, xs⟩ w4) := HD3.out.kp0 (hk4); have y40 : w4.cell? ⟨w.heap.size, 0, none⟩ = some (.int .i64 36) := HD4.out.Y.cell 0; have y41 : w4.cell? ⟨w.heap.size, 1, none⟩ = some fv := HD4.out.Y.cell 1; have a41 : w4.cell? ⟨w.heap.size + 1, 1, none⟩ = some (.int .i64 (a : Int)) := HD4.out.A.cell 1; have a42 : w4.cell? ⟨w.heap.size + 1, 2, none⟩ = some (.int .i64 xb) := HD4.out.A.cell 2; have a45 : w4.cell? ⟨w.heap.size + 1, 5, none⟩ = some (.int .i64 xr) := HD4.out.A.cell 5; have a46 : w4.cell? ⟨w.heap.size + 1, 6, none⟩ = some (.int .i64 xd) := HD4.out.A.cell 6; have a47 : w4.cell? ⟨w.heap.size + 1, 7, none⟩ = some (.int .i64 xs) := HD4.out.A.cell 7; clear hk4))
  clear y20 y21 a21 y30 y31 a31 a32 y40 y41 a41 a42 a45 a46 a47
  have u0 : w4.cell? ⟨w.heap.size, 0, none⟩ = some (.int .i64 36) := HD4.out.Y.cell 0
  have u1 : w4.cell? ⟨w.heap.size, 1, none⟩ = some fv := HD4.out.Y.cell 1
  have u2 : w4.cell? ⟨w.heap.size + 1, 1, none⟩ = some (.int .i64 (a : Int)) := HD4.out.A.cell 1
  have u3 : w4.cell? ⟨b.sb, m * 16 + a, none⟩ = some (.int .i64 y) := (by rw [HY.out]; exact HD4.out.R.cs HZA.out)
  refine wp_region_held_drew (S := (fun wz => wz.cell? ⟨w.heap.size, 0, none⟩ = some (.int .i64 36) ∧ wz.cell? ⟨w.heap.size, 1, none⟩ = some fv ∧ wz.cell? ⟨w.heap.size + 1, 1, none⟩ = some (.int .i64 (a : Int)) ∧ wz.cell? ⟨b.sb, m * 16 + a, none⟩ = some (.int .i64 y))) (by kernel_rfl) ?_ (fun hHeld => ?_)
  · exact ⟨cell_kp (Kp.draw _ 1) u0, cell_kp (Kp.draw _ 1) u1, cell_kp (Kp.draw _ 1) u2, cell_kp (Kp.draw _ 1) u3⟩
  refine wpAnyH_take (i := 0) (v := _) rfl (by kernel_rfl) (by kernel_rfl) (by kernel_rfl) (fun _ _ _ h => h) (Or.inl ⟨by rfl, by (intro wz hSw; have hca := hSw.1; have hcb := hSw.2.1; go_simp; try with_reducible rfl)⟩) (by assumption) ?_
  try simp only [List.getElem_toArray, List.getElem_cons_zero, List.getElem_cons_succ, Act.put, List.setIfInBounds_toArray, List.set_cons_zero, List.set_cons_succ]
  refine wpAnyH_ready (rs := [1]) (by kernel_rfl) (by simp) ?_
  refine AllReadyH.cons rfl (fun K hK => ?_) AllReadyH.nil
  go_simp
  refine (m_need _ fv 36 4 4 true rfl rfl).mono ?_
  rintro e w6 ⟨rfl, hk6⟩
  have HD6 : Hid (IX w b t 36 fv ⟨xk, (a : Int), xb, (i : Int), xn, xr, xd, xs⟩ w6) := HD4.out.kp0 ((Kp.draw _ 1).chain hk6)
  try go_wp2_with fail
  refine hK.out _ _ ?_ (fun hHeld => ?_)
  · exact ⟨cell_kp (hk6) hHeld.1, cell_kp (hk6) hHeld.2.1, cell_kp (hk6) hHeld.2.2.1, cell_kp (hk6) hHeld.2.2.2⟩
  clear hK K
  refine wpAnyH_take (i := 2) (v := _) rfl (by kernel_rfl) (by kernel_rfl) (by kernel_rfl) (fun _ _ _ h => h) (Or.inl ⟨by rfl, by (intro wz hSw; go_simp; try with_reducible rfl)⟩) (by assumption) ?_
  try simp only [List.getElem_toArray, List.getElem_cons_zero, List.getElem_cons_succ, Act.put, List.setIfInBounds_toArray, List.set_cons_zero, List.set_cons_succ]
  refine wpAnyH_take (i := 3) (v := _) rfl (by kernel_rfl) (by kernel_rfl) (by kernel_rfl) (fun _ _ _ h => h) (Or.inl ⟨by rfl, by (intro wz hSw; go_simp; try with_reducible rfl)⟩) (by assumption) ?_
  try simp only [List.getElem_toArray, List.getElem_cons_zero, List.getElem_cons_succ, Act.put, List.setIfInBounds_toArray, List.set_cons_zero, List.set_cons_succ]
  refine wpAnyH_take (i := 4) (v := _) rfl (by kernel_rfl) (by kernel_rfl) (by kernel_rfl) (fun _ _ _ h => h) (Or.inl ⟨by rfl, by (intro wz hSw; go_simp; try with_reducible rfl)⟩) (by assumption) ?_
  try simp only [List.getElem_toArray, List.getElem_cons_zero, List.getElem_cons_succ, Act.put, List.setIfInBounds_toArray, List.set_cons_zero, List.set_cons_succ]
  refine wpAnyH_take (i := 5) (v := _) rfl (by kernel_rfl) (by kernel_rfl) (by kernel_rfl) (fun _ _ _ h => h) (Or.inl ⟨by rfl, by (intro wz hSw; have hca := hSw.2.2.1; go_simp; try with_reducible rfl)⟩) (by assumption) ?_
  try simp only [List.getElem_toArray, List.getElem_cons_zero, List.getElem_cons_succ, Act.put, List.setIfInBounds_toArray, List.set_cons_zero, List.set_cons_succ]
  refine wpAnyH_take (i := 6) (v := _) rfl (by kernel_rfl) (by kernel_rfl) (by kernel_rfl) (fun _ _ _ h => h) (Or.inl ⟨by rfl, by (intro wz hSw; go_simp; try with_reducible rfl)⟩) (by assumption) ?_
  try simp only [List.getElem_toArray, List.getElem_cons_zero, List.getElem_cons_succ, Act.put, List.setIfInBounds_toArray, List.set_cons_zero, List.set_cons_succ]
  refine wpAnyH_take (i := 7) (v := _) rfl (by kernel_rfl) (by kernel_rfl) (by kernel_rfl) (fun _ _ _ h => h) (Or.inl ⟨by rfl, by (intro wz hSw; go_simp; try with_reducible rfl)⟩) (by assumption) ?_
  try simp only [List.getElem_toArray, List.getElem_cons_zero, List.getElem_cons_succ, Act.put, List.setIfInBounds_toArray, List.set_cons_zero, List.set_cons_succ]
  refine wpAnyH_take (i := 8) (v := _) rfl (by kernel_rfl) (by kernel_rfl) (by kernel_rfl) (fun _ _ _ h => h) (Or.inl ⟨by rfl, by (intro wz hSw; have hca := hSw.2.2.2; go_simp; try with_reducible rfl)⟩) (by assumption) ?_
  try simp only [List.getElem_toArray, List.getElem_cons_zero, List.getElem_cons_succ, Act.put, List.setIfInBounds_toArray, List.set_cons_zero, List.set_cons_succ]
  refine wpAnyH_take (i := 9) (v := _) rfl (by kernel_rfl) (by kernel_rfl) (by kernel_rfl) (fun _ _ _ h => h) (Or.inl ⟨by rfl, by (intro wz hSw; go_simp; try with_reducible rfl)⟩) (by assumption) ?_
  try simp only [List.getElem_toArray, List.getElem_cons_zero, List.getElem_cons_succ, Act.put, List.setIfInBounds_toArray, List.set_cons_zero, List.set_cons_succ]
  refine wpAnyH_take (i := 10) (v := _) rfl (by kernel_rfl) (by kernel_rfl) (by kernel_rfl) (fun _ _ _ h => h) (Or.inl ⟨by rfl, by (intro wz hSw; go_simp; try with_reducible rfl)⟩) (by assumption) ?_
  try simp only [List.getElem_toArray, List.getElem_cons_zero, List.getElem_cons_succ, Act.put, List.setIfInBounds_toArray, List.set_cons_zero, List.set_cons_succ]
  refine wpAnyH_take (i := 11) (v := _) rfl (by kernel_rfl) (by kernel_rfl) (by kernel_rfl) (fun _ _ _ h => h) (Or.inl ⟨by rfl, by (intro wz hSw; go_simp; try with_reducible rfl)⟩) (by assumption) ?_
  try simp only [List.getElem_toArray, List.getElem_cons_zero, List.getElem_cons_succ, Act.put, List.setIfInBounds_toArray, List.set_cons_zero, List.set_cons_succ]
  refine wpAnyH_take (i := 12) (v := _) rfl (by kernel_rfl) (by kernel_rfl) (by kernel_rfl) (fun _ _ _ h => h) (Or.inl ⟨by rfl, by (intro wz hSw; have hca := hSw.1; have hcb := hSw.2.1; go_simp; try with_reducible rfl)⟩) (by assumption) ?_
  try simp only [List.getElem_toArray, List.getElem_cons_zero, List.getElem_cons_succ, Act.put, List.setIfInBounds_toArray, List.set_cons_zero, List.set_cons_succ]
  refine wpAnyH_ready (rs := [13]) (by kernel_rfl) (by simp) ?_
  refine AllReadyH.cons rfl (fun K hK => ?_) AllReadyH.nil
  go_simp
  refine (m_need _ fv 36 8 0 false rfl rfl).mono ?_
  rintro e w7 ⟨rfl, hk7⟩
  have HD7 : Hid (IX w b t 36 fv ⟨xk, (a : Int), xb, (i : Int), xn, xr, xd, xs⟩ w7) := HD6.out.kp0 (hk7)
  try go_wp2_with fail
  refine hK.out _ _ ?_ (fun hHeld => ?_)
  · exact ⟨cell_kp (hk7) hHeld.1, cell_kp (hk7) hHeld.2.1, cell_kp (hk7) hHeld.2.2.1, cell_kp (hk7) hHeld.2.2.2⟩
  clear hK K
  refine wpAnyH_take (i := 14) (v := _) rfl (by kernel_rfl) (by kernel_rfl) (by kernel_rfl) (fun _ _ _ h => h) (Or.inl ⟨by rfl, by (intro wz hSw; go_simp; try with_reducible rfl)⟩) (by assumption) ?_
  try simp only [List.getElem_toArray, List.getElem_cons_zero, List.getElem_cons_succ, Act.put, List.setIfInBounds_toArray, List.set_cons_zero, List.set_cons_succ]
  refine wpAnyH_take (i := 15) (v := undef) rfl (by kernel_rfl) (by kernel_rfl) (by kernel_rfl) (fun _ _ _ h => h) (Or.inr ⟨by rfl, rfl⟩) (by assumption) ?_
  try simp only [List.getElem_toArray, List.getElem_cons_zero, List.getElem_cons_succ, Act.put, List.setIfInBounds_toArray, List.set_cons_zero, List.set_cons_succ]
  refine wpAnyH_take (i := 16) (v := undef) rfl (by kernel_rfl) (by kernel_rfl) (by kernel_rfl) (fun _ _ _ h => h) (Or.inr ⟨by rfl, rfl⟩) (by assumption) ?_
  try simp only [List.getElem_toArray, List.getElem_cons_zero, List.getElem_cons_succ, Act.put, List.setIfInBounds_toArray, List.set_cons_zero, List.set_cons_succ]
  refine wpAnyH_take (i := 17) (v := undef) rfl (by kernel_rfl) (by kernel_rfl) (by kernel_rfl) (fun _ _ _ h => h) (Or.inr ⟨by rfl, rfl⟩) (by assumption) ?_
  try simp only [List.getElem_toArray, List.getElem_cons_zero, List.getElem_cons_succ, Act.put, List.setIfInBounds_toArray, List.set_cons_zero, List.set_cons_succ]
  refine wpAnyH_take (i := 18) (v := undef) rfl (by kernel_rfl) (by kernel_rfl) (by kernel_rfl) (fun _ _ _ h => h) (Or.inr ⟨by rfl, rfl⟩) (by assumption) ?_
  try simp only [List.getElem_toArray, List.getElem_cons_zero, List.getElem_cons_succ, Act.put, List.setIfInBounds_toArray, List.set_cons_zero, List.set_cons_succ]
  refine wpAnyH_take (i := 19) (v := undef) rfl (by kernel_rfl) (by kernel_rfl) (by kernel_rfl) (fun _ _ _ h => h) (Or.inr ⟨by rfl, rfl⟩) (by assumption) ?_
  try simp only [List.getElem_toArray, List.getElem_cons_zero, List.getElem_cons_succ, Act.put, List.setIfInBounds_toArray, List.set_cons_zero, List.set_cons_succ]
  refine wpAnyH_take (i := 20) (v := undef) rfl (by kernel_rfl) (by kernel_rfl) (by kernel_rfl) (fun _ _ _ h => h) (Or.inr ⟨by rfl, rfl⟩) (by assumption) ?_
  try simp only [List.getElem_toArray, List.getElem_cons_zero, List.getElem_cons_succ, Act.put, List.setIfInBounds_toArray, List.set_cons_zero, List.set_cons_succ]
  refine wpAnyH_take (i := 21) (v := undef) rfl (by kernel_rfl) (by kernel_rfl) (by kernel_rfl) (fun _ _ _ h => h) (Or.inr ⟨by rfl, rfl⟩) (by assumption) ?_
  try simp only [List.getElem_toArray, List.getElem_cons_zero, List.getElem_cons_succ, Act.put, List.setIfInBounds_toArray, List.set_cons_zero, List.set_cons_succ]
  refine wpAnyH_take (i := 22) (v := _) rfl (by kernel_rfl) (by kernel_rfl) (by kernel_rfl) (fun _ _ _ h => h) (Or.inl ⟨by rfl, by (intro wz hSw; go_simp; try with_reducible rfl)⟩) (by assumption) ?_
  try simp only [List.getElem_toArray, List.getElem_cons_zero, List.getElem_cons_succ, Act.put, List.setIfInBounds_toArray, List.set_cons_zero, List.set_cons_succ]
  refine wpAnyH_take (i := 23) (v := _) rfl (by kernel_rfl) (by kernel_rfl) (by kernel_rfl) (fun _ _ _ h => h) (Or.inl ⟨by rfl, by (intro wz hSw; go_simp; try with_reducible rfl)⟩) (by assumption) ?_
  try simp only [List.getElem_toArray, List.getElem_cons_zero, List.getElem_cons_succ, Act.put, List.setIfInBounds_toArray, List.set_cons_zero, List.set_cons_succ]
  refine wpAnyH_done (by kernel_rfl) ?_ _
  have HD8 := HD7
  clear hHeld
  clear u0 u1 u2 u3
  try clear hk6
  try clear hk7
  have y80 : w7.cell? ⟨w.heap.size, 0, none⟩ = some (.int .i64 36) := HD8.out.Y.cell 0
  have y81 : w7.cell? ⟨w.heap.size, 1, none⟩ = some fv := HD8.out.Y.cell 1
  have a80 : w7.cell? ⟨w.heap.size + 1, 0, none⟩ = some (.int .i64 xk) := HD8.out.A.cell 0
  have a81 : w7.cell? ⟨w.heap.size + 1, 1, none⟩ = some (.int .i64 (a : Int)) := HD8.out.A.cell 1
  have a82 : w7.cell? ⟨w.heap.size + 1, 2, none⟩ = some (.int .i64 xb) := HD8.out.A.cell 2
  have a83 : w7.cell? ⟨w.heap.size + 1, 3, none⟩ = some (.int .i64 (i : Int)) := HD8.out.A.cell 3
  have a84 : w7.cell? ⟨w.heap.size + 1, 4, none⟩ = some (.int .i64 xn) := HD8.out.A.cell 4
  have a85 : w7.cell? ⟨w.heap.size + 1, 5, none⟩ = some (.int .i64 xr) := HD8.out.A.cell 5
  have a86 : w7.cell? ⟨w.heap.size + 1, 6, none⟩ = some (.int .i64 xd) := HD8.out.A.cell 6
  have a87 : w7.cell? ⟨w.heap.size + 1, 7, none⟩ = some (.int .i64 xs) := HD8.out.A.cell 7
  go_wp2_with (first
    | (go_at_call 97; go_loud (refine (m_idx36 HD8.out.R m hm a ha fv _ _ _ _ _ _ _ y HY.out HH.out).mono ?_; rintro e w9 ⟨v9, rfl, hv9, hk9⟩; have hw9 := HD8.out.R.D; obtain ⟨g9, n9, c9, hwv9⟩ := MR.wv_of HD8.out.R (i := i) (by have := HIX.out; have := MR.fit_of HD8.out.R HH.out; omega); obtain ⟨cv, rfl, hcv, hcw⟩ := hv9.at_ (by have := HIX.out; omega) hwv9; have HCV := hid (Nat.le_trans hcv hcw); clear hcv hcw hwv9 hw9; have HD9 : Hid (IX w b t 36 fv ⟨xk, (a : Int), xb, (i : Int), xn, xr, xd, xs⟩ w9) := HD8.out.kp0 (hk9); have a93 : w9.cell? ⟨w.heap.size + 1, 3, none⟩ = some (.int .i64 (i : Int)) := HD9.out.A.cell 3; clear hk9 hv9))
    | (go_at_call 69; go_loud (refine (m_at_yes _ (by omega) (by have := HIX.out; omega) HCV.out).mono ?_; rintro e w10 ⟨rfl, rfl⟩)))
  go_ret
  exact ⟨rfl, HD9.out.kp⟩
end
end Go.Proofs.YtbiompmklijgoaaDoor
