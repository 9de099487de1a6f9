/-
  The contract of package model's checkAct, for each kind of needs, needs 0, 1. Conditions: those that stand in each theorem.
-/
import Derived.Test.YtbiompmklijgoaaDoorPGD
import Derived.Test.YtbiompmklijgoaaDoorPGA
import Derived.Test.YtbiompmklijgoaaDoorPGB
import Derived.Deep.RegionHeld3
namespace Go.Proofs.YtbiompmklijgoaaDoor
set_option linter.unusedVariables false
set_option linter.unusedSimpArgs false
open Go.RowKit Go.Deep Go.Maps

section
variable {w w' W V : World} {b b0 : MB} {t : MT}
set_option maxRecDepth 100000 in
set_option maxHeartbeats 1000000 in
theorem m_ck0_1 (R : MR w b t) (m : Nat) (hm : m < t.n) (fv : Value) (xk xn xr xd xs : Int) (xa : Int) (hsa : slotB xa = false) (xb : Int) (xi : Int) :
    Calls Tryd.prog 74 #[.pointer (some ⟨b.g, 0, none⟩), .agg #[.int .i64 0, fv], .pointer (some ⟨b.sb, m * 16, none⟩), .agg #[.int .i64 xk, .int .i64 xa, .int .i64 xb, .int .i64 xi, .int .i64 xn, .int .i64 xr, .int .i64 xd, .int .i64 xs]] w fun e w' => e = .returned (.int .i64 1) ∧ Kp [] w w' := by
  have D2 : IX w b t 0 fv ⟨xk, xa, xb, xi, xn, xr, xd, xs⟩ _ := IX.start R
  unfold MA.cells at D2
  simp only at D2
  have h4 := R.ok.n4
  have HSA := hid hsa
  clear hsa
  clear R
  go_enter Tryd.func74, Tryd.ntmps74
  go_upto_region 1 with fail
  generalize ((w.alloc (.cells #[.int .i64 0, fv] 99)).alloc (.cells #[.int .i64 xk, .int .i64 xa, .int .i64 xb, .int .i64 xi, .int .i64 xn, .int .i64 xr, .int .i64 xd, .int .i64 xs] 35)) = W2 at D2 ⊢
  have HD2 := hid D2
  clear D2
  have y20 : W2.cell? ⟨w.heap.size, 0, none⟩ = some (.int .i64 0) := HD2.out.Y.cell 0
  have y21 : W2.cell? ⟨w.heap.size, 1, none⟩ = some fv := HD2.out.Y.cell 1
  have a21 : W2.cell? ⟨w.heap.size + 1, 1, none⟩ = some (.int .i64 xa) := HD2.out.A.cell 1
  go_wp2_with (first
    | (go_at_call_of 60 (Value.int .i64 xa); refine (m_isSlot _ _).mono ?_; rw [HSA.out]; rintro e w' ⟨rfl, rfl⟩)
    | (go_at_call_of 95 (Value.int .i64 1); refine (m_need _ fv 0 1 0 false rfl rfl).mono ?_; rintro e w3 ⟨rfl, hk3⟩; have HD3 : Hid (IX w b t 0 fv ⟨xk, xa, xb, xi, xn, xr, xd, xs⟩ w3) := HD2.out.kp0 (hk3); have y30 : w3.cell? ⟨w.heap.size, 0, none⟩ = some (.int .i64 0) := HD3.out.Y.cell 0; have y31 : w3.cell? ⟨w.heap.size, 1, none⟩ = some fv := HD3.out.Y.cell 1; have a31 : w3.cell? ⟨w.heap.size + 1, 1, none⟩ = some (.int .i64 xa) := HD3.out.A.cell 1; have a32 : w3.cell? ⟨w.heap.size + 1, 2, none⟩ = some (.int .i64 xb) := HD3.out.A.cell 2; clear hk3))
  go_ret
  exact ⟨rfl, HD2.out.kp⟩
set_option maxRecDepth 100000 in
set_option maxHeartbeats 1000000 in
theorem m_ck0_7 (R : MR w b t) (m : Nat) (hm : m < t.n) (fv : Value) (xk xn xr xd xs : Int) (a : Nat) (ha : a < 16) (xb : Int) (xi : Int) :
    Calls Tryd.prog 74 #[.pointer (some ⟨b.g, 0, none⟩), .agg #[.int .i64 0, fv], .pointer (some ⟨b.sb, m * 16, none⟩), .agg #[.int .i64 xk, .int .i64 (a : Int), .int .i64 xb, .int .i64 xi, .int .i64 xn, .int .i64 xr, .int .i64 xd, .int .i64 xs]] w fun e w' => e = .returned (.int .i64 0) ∧ Kp [] w w' := by
  have D2 : IX w b t 0 fv ⟨xk, (a : Int), xb, xi, xn, xr, xd, xs⟩ _ := IX.start R
  unfold MA.cells at D2
  simp only at D2
  have h4 := R.ok.n4
  have q1 : (a : Int) < 16 := by omega
  have HSA : Hid (slotB (a : Int) = true) := decide_eq_true ⟨by omega, by omega⟩
  have HZA : Hid (m * 16 + a < 16 * t.n) := by show _ < _; omega
  clear R
  go_enter Tryd.func74, Tryd.ntmps74
  go_upto_region 1 with fail
  generalize ((w.alloc (.cells #[.int .i64 0, fv] 99)).alloc (.cells #[.int .i64 xk, .int .i64 (a : Int), .int .i64 xb, .int .i64 xi, .int .i64 xn, .int .i64 xr, .int .i64 xd, .int .i64 xs] 35)) = W2 at D2 ⊢
  have HD2 := hid D2
  clear D2
  have y20 : W2.cell? ⟨w.heap.size, 0, none⟩ = some (.int .i64 0) := HD2.out.Y.cell 0
  have y21 : W2.cell? ⟨w.heap.size, 1, none⟩ = some fv := HD2.out.Y.cell 1
  have a21 : W2.cell? ⟨w.heap.size + 1, 1, none⟩ = some (.int .i64 (a : Int)) := HD2.out.A.cell 1
  go_wp2_with (first
    | (go_at_call_of 60 (Value.int .i64 (a : Int)); refine (m_isSlot _ _).mono ?_; rw [HSA.out]; rintro e w' ⟨rfl, rfl⟩)
    | (go_at_call_of 95 (Value.int .i64 1); refine (m_need _ fv 0 1 0 false rfl rfl).mono ?_; rintro e w3 ⟨rfl, hk3⟩; have HD3 : Hid (IX w b t 0 fv ⟨xk, (a : Int), xb, xi, xn, xr, xd, xs⟩ w3) := HD2.out.kp0 (hk3); have y30 : w3.cell? ⟨w.heap.size, 0, none⟩ = some (.int .i64 0) := HD3.out.Y.cell 0; have y31 : w3.cell? ⟨w.heap.size, 1, none⟩ = some fv := HD3.out.Y.cell 1; have a31 : w3.cell? ⟨w.heap.size + 1, 1, none⟩ = some (.int .i64 (a : Int)) := HD3.out.A.cell 1; have a32 : w3.cell? ⟨w.heap.size + 1, 2, none⟩ = some (.int .i64 xb) := HD3.out.A.cell 2; clear hk3)
    | (go_at_call_of 95 (Value.int .i64 2); refine (m_need _ fv 0 2 0 false rfl rfl).mono ?_; rintro e w4 ⟨rfl, hk4⟩; have HD4 : Hid (IX w b t 0 fv ⟨xk, (a : Int), xb, xi, xn, xr, xd, xs⟩ w4) := HD3.out.kp0 (hk4); have y40 : w4.cell? ⟨w.heap.size, 0, none⟩ = some (.int .i64 0) := HD4.out.Y.cell 0; have y41 : w4.cell? ⟨w.heap.size, 1, none⟩ = some fv := HD4.out.Y.cell 1; have a41 : w4.cell? ⟨w.heap.size + 1, 1, none⟩ = some (.int .i64 (a : Int)) := HD4.out.A.cell 1; have a42 : w4.cell? ⟨w.heap.size + 1, 2, none⟩ = some (.int .i64 xb) := HD4.out.A.cell 2; have a45 : w4.cell? ⟨w.heap.size + 1, 5, none⟩ = some (.int .i64 xr) := HD4.out.A.cell 5; have a46 : w4.cell? ⟨w.heap.size + 1, 6, none⟩ = some (.int .i64 xd) := HD4.out.A.cell 6; have a47 : w4.cell? ⟨w.heap.size + 1, 7, none⟩ = some (.int .i64 xs) := HD4.out.A.cell 7; clear hk4))
  clear y20 y21 a21 y30 y31 a31 a32 y40 y41 a41 a42 a45 a46 a47
  have u0 : w4.cell? ⟨w.heap.size, 0, none⟩ = some (.int .i64 0) := HD4.out.Y.cell 0
  have u1 : w4.cell? ⟨w.heap.size, 1, none⟩ = some fv := HD4.out.Y.cell 1
  refine wp_region_held_drew (S := (fun wz => wz.cell? ⟨w.heap.size, 0, none⟩ = some (.int .i64 0) ∧ wz.cell? ⟨w.heap.size, 1, none⟩ = some fv)) (by kernel_rfl) ?_ (fun hHeld => ?_)
  · exact ⟨cell_kp (Kp.draw _ 1) u0, cell_kp (Kp.draw _ 1) u1⟩
  refine wpAnyH_take (i := 0) (v := _) rfl (by kernel_rfl) (by kernel_rfl) (by kernel_rfl) (fun _ _ _ h => h) (Or.inl ⟨by rfl, by (intro wz hSw; have hca := hSw.1; have hcb := hSw.2; go_simp; try with_reducible rfl)⟩) (by assumption) ?_
  try simp only [List.getElem_toArray, List.getElem_cons_zero, List.getElem_cons_succ, Act.put, List.setIfInBounds_toArray, List.set_cons_zero, List.set_cons_succ]
  refine wpAnyH_ready (rs := [1]) (by kernel_rfl) (by simp) ?_
  refine AllReadyH.cons rfl (fun K hK => ?_) AllReadyH.nil
  go_simp
  refine (m_need _ fv 0 4 0 false rfl rfl).mono ?_
  rintro e w6 ⟨rfl, hk6⟩
  have HD6 : Hid (IX w b t 0 fv ⟨xk, (a : Int), xb, xi, xn, xr, xd, xs⟩ w6) := HD4.out.kp0 ((Kp.draw _ 1).chain hk6)
  try go_wp2_with fail
  refine hK.out _ _ ?_ (fun hHeld => ?_)
  · exact ⟨cell_kp (hk6) hHeld.1, cell_kp (hk6) hHeld.2⟩
  clear hK K
  refine wpAnyH_take (i := 2) (v := _) rfl (by kernel_rfl) (by kernel_rfl) (by kernel_rfl) (fun _ _ _ h => h) (Or.inl ⟨by rfl, by (intro wz hSw; go_simp; try with_reducible rfl)⟩) (by assumption) ?_
  try simp only [List.getElem_toArray, List.getElem_cons_zero, List.getElem_cons_succ, Act.put, List.setIfInBounds_toArray, List.set_cons_zero, List.set_cons_succ]
  refine wpAnyH_take (i := 3) (v := undef) rfl (by kernel_rfl) (by kernel_rfl) (by kernel_rfl) (fun _ _ _ h => h) (Or.inr ⟨by rfl, rfl⟩) (by assumption) ?_
  try simp only [List.getElem_toArray, List.getElem_cons_zero, List.getElem_cons_succ, Act.put, List.setIfInBounds_toArray, List.set_cons_zero, List.set_cons_succ]
  refine wpAnyH_take (i := 4) (v := undef) rfl (by kernel_rfl) (by kernel_rfl) (by kernel_rfl) (fun _ _ _ h => h) (Or.inr ⟨by rfl, rfl⟩) (by assumption) ?_
  try simp only [List.getElem_toArray, List.getElem_cons_zero, List.getElem_cons_succ, Act.put, List.setIfInBounds_toArray, List.set_cons_zero, List.set_cons_succ]
  refine wpAnyH_take (i := 5) (v := undef) rfl (by kernel_rfl) (by kernel_rfl) (by kernel_rfl) (fun _ _ _ h => h) (Or.inr ⟨by rfl, rfl⟩) (by assumption) ?_
  try simp only [List.getElem_toArray, List.getElem_cons_zero, List.getElem_cons_succ, Act.put, List.setIfInBounds_toArray, List.set_cons_zero, List.set_cons_succ]
  refine wpAnyH_take (i := 6) (v := undef) rfl (by kernel_rfl) (by kernel_rfl) (by kernel_rfl) (fun _ _ _ h => h) (Or.inr ⟨by rfl, rfl⟩) (by assumption) ?_
  try simp only [List.getElem_toArray, List.getElem_cons_zero, List.getElem_cons_succ, Act.put, List.setIfInBounds_toArray, List.set_cons_zero, List.set_cons_succ]
  refine wpAnyH_take (i := 7) (v := undef) rfl (by kernel_rfl) (by kernel_rfl) (by kernel_rfl) (fun _ _ _ h => h) (Or.inr ⟨by rfl, rfl⟩) (by assumption) ?_
  try simp only [List.getElem_toArray, List.getElem_cons_zero, List.getElem_cons_succ, Act.put, List.setIfInBounds_toArray, List.set_cons_zero, List.set_cons_succ]
  refine wpAnyH_take (i := 8) (v := undef) rfl (by kernel_rfl) (by kernel_rfl) (by kernel_rfl) (fun _ _ _ h => h) (Or.inr ⟨by rfl, rfl⟩) (by assumption) ?_
  try simp only [List.getElem_toArray, List.getElem_cons_zero, List.getElem_cons_succ, Act.put, List.setIfInBounds_toArray, List.set_cons_zero, List.set_cons_succ]
  refine wpAnyH_take (i := 9) (v := undef) rfl (by kernel_rfl) (by kernel_rfl) (by kernel_rfl) (fun _ _ _ h => h) (Or.inr ⟨by rfl, rfl⟩) (by assumption) ?_
  try simp only [List.getElem_toArray, List.getElem_cons_zero, List.getElem_cons_succ, Act.put, List.setIfInBounds_toArray, List.set_cons_zero, List.set_cons_succ]
  refine wpAnyH_take (i := 10) (v := _) rfl (by kernel_rfl) (by kernel_rfl) (by kernel_rfl) (fun _ _ _ h => h) (Or.inl ⟨by rfl, by (intro wz hSw; go_simp; try with_reducible rfl)⟩) (by assumption) ?_
  try simp only [List.getElem_toArray, List.getElem_cons_zero, List.getElem_cons_succ, Act.put, List.setIfInBounds_toArray, List.set_cons_zero, List.set_cons_succ]
  refine wpAnyH_take (i := 11) (v := _) rfl (by kernel_rfl) (by kernel_rfl) (by kernel_rfl) (fun _ _ _ h => h) (Or.inl ⟨by rfl, by (intro wz hSw; go_simp; try with_reducible rfl)⟩) (by assumption) ?_
  try simp only [List.getElem_toArray, List.getElem_cons_zero, List.getElem_cons_succ, Act.put, List.setIfInBounds_toArray, List.set_cons_zero, List.set_cons_succ]
  refine wpAnyH_take (i := 12) (v := _) rfl (by kernel_rfl) (by kernel_rfl) (by kernel_rfl) (fun _ _ _ h => h) (Or.inl ⟨by rfl, by (intro wz hSw; have hca := hSw.1; have hcb := hSw.2; go_simp; try with_reducible rfl)⟩) (by assumption) ?_
  try simp only [List.getElem_toArray, List.getElem_cons_zero, List.getElem_cons_succ, Act.put, List.setIfInBounds_toArray, List.set_cons_zero, List.set_cons_succ]
  refine wpAnyH_ready (rs := [13]) (by kernel_rfl) (by simp) ?_
  refine AllReadyH.cons rfl (fun K hK => ?_) AllReadyH.nil
  go_simp
  refine (m_need _ fv 0 8 0 false rfl rfl).mono ?_
  rintro e w7 ⟨rfl, hk7⟩
  have HD7 : Hid (IX w b t 0 fv ⟨xk, (a : Int), xb, xi, xn, xr, xd, xs⟩ w7) := HD6.out.kp0 (hk7)
  try go_wp2_with fail
  refine hK.out _ _ ?_ (fun hHeld => ?_)
  · exact ⟨cell_kp (hk7) hHeld.1, cell_kp (hk7) hHeld.2⟩
  clear hK K
  refine wpAnyH_take (i := 14) (v := _) rfl (by kernel_rfl) (by kernel_rfl) (by kernel_rfl) (fun _ _ _ h => h) (Or.inl ⟨by rfl, by (intro wz hSw; go_simp; try with_reducible rfl)⟩) (by assumption) ?_
  try simp only [List.getElem_toArray, List.getElem_cons_zero, List.getElem_cons_succ, Act.put, List.setIfInBounds_toArray, List.set_cons_zero, List.set_cons_succ]
  refine wpAnyH_take (i := 15) (v := undef) rfl (by kernel_rfl) (by kernel_rfl) (by kernel_rfl) (fun _ _ _ h => h) (Or.inr ⟨by rfl, rfl⟩) (by assumption) ?_
  try simp only [List.getElem_toArray, List.getElem_cons_zero, List.getElem_cons_succ, Act.put, List.setIfInBounds_toArray, List.set_cons_zero, List.set_cons_succ]
  refine wpAnyH_take (i := 16) (v := undef) rfl (by kernel_rfl) (by kernel_rfl) (by kernel_rfl) (fun _ _ _ h => h) (Or.inr ⟨by rfl, rfl⟩) (by assumption) ?_
  try simp only [List.getElem_toArray, List.getElem_cons_zero, List.getElem_cons_succ, Act.put, List.setIfInBounds_toArray, List.set_cons_zero, List.set_cons_succ]
  refine wpAnyH_take (i := 17) (v := undef) rfl (by kernel_rfl) (by kernel_rfl) (by kernel_rfl) (fun _ _ _ h => h) (Or.inr ⟨by rfl, rfl⟩) (by assumption) ?_
  try simp only [List.getElem_toArray, List.getElem_cons_zero, List.getElem_cons_succ, Act.put, List.setIfInBounds_toArray, List.set_cons_zero, List.set_cons_succ]
  refine wpAnyH_take (i := 18) (v := undef) rfl (by kernel_rfl) (by kernel_rfl) (by kernel_rfl) (fun _ _ _ h => h) (Or.inr ⟨by rfl, rfl⟩) (by assumption) ?_
  try simp only [List.getElem_toArray, List.getElem_cons_zero, List.getElem_cons_succ, Act.put, List.setIfInBounds_toArray, List.set_cons_zero, List.set_cons_succ]
  refine wpAnyH_take (i := 19) (v := undef) rfl (by kernel_rfl) (by kernel_rfl) (by kernel_rfl) (fun _ _ _ h => h) (Or.inr ⟨by rfl, rfl⟩) (by assumption) ?_
  try simp only [List.getElem_toArray, List.getElem_cons_zero, List.getElem_cons_succ, Act.put, List.setIfInBounds_toArray, List.set_cons_zero, List.set_cons_succ]
  refine wpAnyH_take (i := 20) (v := undef) rfl (by kernel_rfl) (by kernel_rfl) (by kernel_rfl) (fun _ _ _ h => h) (Or.inr ⟨by rfl, rfl⟩) (by assumption) ?_
  try simp only [List.getElem_toArray, List.getElem_cons_zero, List.getElem_cons_succ, Act.put, List.setIfInBounds_toArray, List.set_cons_zero, List.set_cons_succ]
  refine wpAnyH_take (i := 21) (v := undef) rfl (by kernel_rfl) (by kernel_rfl) (by kernel_rfl) (fun _ _ _ h => h) (Or.inr ⟨by rfl, rfl⟩) (by assumption) ?_
  try simp only [List.getElem_toArray, List.getElem_cons_zero, List.getElem_cons_succ, Act.put, List.setIfInBounds_toArray, List.set_cons_zero, List.set_cons_succ]
  refine wpAnyH_take (i := 22) (v := _) rfl (by kernel_rfl) (by kernel_rfl) (by kernel_rfl) (fun _ _ _ h => h) (Or.inl ⟨by rfl, by (intro wz hSw; go_simp; try with_reducible rfl)⟩) (by assumption) ?_
  try simp only [List.getElem_toArray, List.getElem_cons_zero, List.getElem_cons_succ, Act.put, List.setIfInBounds_toArray, List.set_cons_zero, List.set_cons_succ]
  refine wpAnyH_take (i := 23) (v := _) rfl (by kernel_rfl) (by kernel_rfl) (by kernel_rfl) (fun _ _ _ h => h) (Or.inl ⟨by rfl, by (intro wz hSw; go_simp; try with_reducible rfl)⟩) (by assumption) ?_
  try simp only [List.getElem_toArray, List.getElem_cons_zero, List.getElem_cons_succ, Act.put, List.setIfInBounds_toArray, List.set_cons_zero, List.set_cons_succ]
  refine wpAnyH_done (by kernel_rfl) ?_ _
  have HD8 := HD7
  clear hHeld
  clear u0 u1
  try clear hk6
  try clear hk7
  have y80 : w7.cell? ⟨w.heap.size, 0, none⟩ = some (.int .i64 0) := HD8.out.Y.cell 0
  have y81 : w7.cell? ⟨w.heap.size, 1, none⟩ = some fv := HD8.out.Y.cell 1
  have a80 : w7.cell? ⟨w.heap.size + 1, 0, none⟩ = some (.int .i64 xk) := HD8.out.A.cell 0
  have a81 : w7.cell? ⟨w.heap.size + 1, 1, none⟩ = some (.int .i64 (a : Int)) := HD8.out.A.cell 1
  have a82 : w7.cell? ⟨w.heap.size + 1, 2, none⟩ = some (.int .i64 xb) := HD8.out.A.cell 2
  have a83 : w7.cell? ⟨w.heap.size + 1, 3, none⟩ = some (.int .i64 xi) := HD8.out.A.cell 3
  have a84 : w7.cell? ⟨w.heap.size + 1, 4, none⟩ = some (.int .i64 xn) := HD8.out.A.cell 4
  have a85 : w7.cell? ⟨w.heap.size + 1, 5, none⟩ = some (.int .i64 xr) := HD8.out.A.cell 5
  have a86 : w7.cell? ⟨w.heap.size + 1, 6, none⟩ = some (.int .i64 xd) := HD8.out.A.cell 6
  have a87 : w7.cell? ⟨w.heap.size + 1, 7, none⟩ = some (.int .i64 xs) := HD8.out.A.cell 7
  go_wp2_with (go_at_call 97; go_loud (refine (m_idx0 HD8.out.R m hm a ha fv _ _ _ _ _ _ _).mono ?_; rintro e w9 ⟨rfl, hk9⟩; have HK9 := hid (HD8.out.kp.chain hk9); clear hk9))
  go_ret
  exact ⟨rfl, HK9.out⟩
set_option maxRecDepth 100000 in
set_option maxHeartbeats 1000000 in
theorem m_ck1_1 (R : MR w b t) (m : Nat) (hm : m < t.n) (fv : Value) (xk xn xr xd xs : Int) (xa : Int) (hsa : slotB xa = false) (xb : Int) (xi : Int) :
    Calls Tryd.prog 74 #[.pointer (some ⟨b.g, 0, none⟩), .agg #[.int .i64 1, fv], .pointer (some ⟨b.sb, m * 16, none⟩), .agg #[.int .i64 xk, .int .i64 xa, .int .i64 xb, .int .i64 xi, .int .i64 xn, .int .i64 xr, .int .i64 xd, .int .i64 xs]] w fun e w' => e = .returned (.int .i64 1) ∧ Kp [] w w' := by
  have D2 : IX w b t 1 fv ⟨xk, xa, xb, xi, xn, xr, xd, xs⟩ _ := IX.start R
  unfold MA.cells at D2
  simp only at D2
  have h4 := R.ok.n4
  have HSA := hid hsa
  clear hsa
  clear R
  go_enter Tryd.func74, Tryd.ntmps74
  go_upto_region 1 with fail
  generalize ((w.alloc (.cells #[.int .i64 1, fv] 99)).alloc (.cells #[.int .i64 xk, .int .i64 xa, .int .i64 xb, .int .i64 xi, .int .i64 xn, .int .i64 xr, .int .i64 xd, .int .i64 xs] 35)) = W2 at D2 ⊢
  have HD2 := hid D2
  clear D2
  have y20 : W2.cell? ⟨w.heap.size, 0, none⟩ = some (.int .i64 1) := HD2.out.Y.cell 0
  have y21 : W2.cell? ⟨w.heap.size, 1, none⟩ = some fv := HD2.out.Y.cell 1
  have a21 : W2.cell? ⟨w.heap.size + 1, 1, none⟩ = some (.int .i64 xa) := HD2.out.A.cell 1
  go_wp2_with (first
    | (go_at_call_of 60 (Value.int .i64 xa); refine (m_isSlot _ _).mono ?_; rw [HSA.out]; rintro e w' ⟨rfl, rfl⟩)
    | (go_at_call_of 95 (Value.int .i64 1); refine (m_need _ fv 1 1 1 true rfl rfl).mono ?_; rintro e w3 ⟨rfl, hk3⟩; have HD3 : Hid (IX w b t 1 fv ⟨xk, xa, xb, xi, xn, xr, xd, xs⟩ w3) := HD2.out.kp0 (hk3); have y30 : w3.cell? ⟨w.heap.size, 0, none⟩ = some (.int .i64 1) := HD3.out.Y.cell 0; have y31 : w3.cell? ⟨w.heap.size, 1, none⟩ = some fv := HD3.out.Y.cell 1; have a31 : w3.cell? ⟨w.heap.size + 1, 1, none⟩ = some (.int .i64 xa) := HD3.out.A.cell 1; have a32 : w3.cell? ⟨w.heap.size + 1, 2, none⟩ = some (.int .i64 xb) := HD3.out.A.cell 2; clear hk3))
  go_ret
  exact ⟨rfl, HD2.out.kp⟩
set_option maxRecDepth 100000 in
set_option maxHeartbeats 1000000 in
theorem m_ck1_2 (R : MR w b t) (m : Nat) (hm : m < t.n) (fv : Value) (xk xn xr xd xs : Int) (a : Nat) (ha : a < 16) (xb : Int) (hsb : slotB xb = false) (xi : Int) :
    Calls Tryd.prog 74 #[.pointer (some ⟨b.g, 0, none⟩), .agg #[.int .i64 1, fv], .pointer (some ⟨b.sb, m * 16, none⟩), .agg #[.int .i64 xk, .int .i64 (a : Int), .int .i64 xb, .int .i64 xi, .int .i64 xn, .int .i64 xr, .int .i64 xd, .int .i64 xs]] w fun e w' => e = .returned (.int .i64 1) ∧ Kp [] w w' := by
  have D2 : IX w b t 1 fv ⟨xk, (a : Int), xb, xi, xn, xr, xd, xs⟩ _ := IX.start R
  unfold MA.cells at D2
  simp only at D2
  have h4 := R.ok.n4
  have q1 : (a : Int) < 16 := by omega
  have HSA : Hid (slotB (a : Int) = true) := decide_eq_true ⟨by omega, by omega⟩
  have HZA : Hid (m * 16 + a < 16 * t.n) := by show _ < _; omega
  have HSB := hid hsb
  clear hsb
  clear R
  go_enter Tryd.func74, Tryd.ntmps74
  go_upto_region 1 with fail
  generalize ((w.alloc (.cells #[.int .i64 1, fv] 99)).alloc (.cells #[.int .i64 xk, .int .i64 (a : Int), .int .i64 xb, .int .i64 xi, .int .i64 xn, .int .i64 xr, .int .i64 xd, .int .i64 xs] 35)) = W2 at D2 ⊢
  have HD2 := hid D2
  clear D2
  have y20 : W2.cell? ⟨w.heap.size, 0, none⟩ = some (.int .i64 1) := HD2.out.Y.cell 0
  have y21 : W2.cell? ⟨w.heap.size, 1, none⟩ = some fv := HD2.out.Y.cell 1
  have a21 : W2.cell? ⟨w.heap.size + 1, 1, none⟩ = some (.int .i64 (a : Int)) := HD2.out.A.cell 1
  go_wp2_with (first
    | (go_at_call_of 60 (Value.int .i64 (a : Int)); refine (m_isSlot _ _).mono ?_; rw [HSA.out]; rintro e w' ⟨rfl, rfl⟩)
    | (go_at_call_of 95 (Value.int .i64 1); refine (m_need _ fv 1 1 1 true rfl rfl).mono ?_; rintro e w3 ⟨rfl, hk3⟩; have HD3 : Hid (IX w b t 1 fv ⟨xk, (a : Int), xb, xi, xn, xr, xd, xs⟩ w3) := HD2.out.kp0 (hk3); have y30 : w3.cell? ⟨w.heap.size, 0, none⟩ = some (.int .i64 1) := HD3.out.Y.cell 0; have y31 : w3.cell? ⟨w.heap.size, 1, none⟩ = some fv := HD3.out.Y.cell 1; have a31 : w3.cell? ⟨w.heap.size + 1, 1, none⟩ = some (.int .i64 (a : Int)) := HD3.out.A.cell 1; have a32 : w3.cell? ⟨w.heap.size + 1, 2, none⟩ = some (.int .i64 xb) := HD3.out.A.cell 2; clear hk3)
    | (go_at_call_of 60 (Value.int .i64 xb); refine (m_isSlot _ _).mono ?_; rw [HSB.out]; rintro e w' ⟨rfl, rfl⟩))
  go_ret
  exact ⟨rfl, HD3.out.kp⟩
set_option maxRecDepth 100000 in
set_option maxHeartbeats 1000000 in
theorem m_ck1_7 (R : MR w b t) (m : Nat) (hm : m < t.n) (fv : Value) (xk xn xr xd xs : Int) (a : Nat) (ha : a < 16) (c : Nat) (hc : c < 16) (xi : Int) :
    Calls Tryd.prog 74 #[.pointer (some ⟨b.g, 0, none⟩), .agg #[.int .i64 1, fv], .pointer (some ⟨b.sb, m * 16, none⟩), .agg #[.int .i64 xk, .int .i64 (a : Int), .int .i64 (c : Int), .int .i64 xi, .int .i64 xn, .int .i64 xr, .int .i64 xd, .int .i64 xs]] w fun e w' => e = .returned (.int .i64 0) ∧ Kp [] w w' := by
  have D2 : IX w b t 1 fv ⟨xk, (a : Int), (c : Int), xi, xn, xr, xd, xs⟩ _ := IX.start R
  unfold MA.cells at D2
  simp only at D2
  have h4 := R.ok.n4
  have q1 : (a : Int) < 16 := by omega
  have HSA : Hid (slotB (a : Int) = true) := decide_eq_true ⟨by omega, by omega⟩
  have HZA : Hid (m * 16 + a < 16 * t.n) := by show _ < _; omega
  have q2 : (c : Int) < 16 := by omega
  have HSB : Hid (slotB (c : Int) = true) := decide_eq_true ⟨by omega, by omega⟩
  have HZC : Hid (m * 16 + c < 16 * t.n) := by show _ < _; omega
  clear R
  go_enter Tryd.func74, Tryd.ntmps74
  go_upto_region 1 with fail
  generalize ((w.alloc (.cells #[.int .i64 1, fv] 99)).alloc (.cells #[.int .i64 xk, .int .i64 (a : Int), .int .i64 (c : Int), .int .i64 xi, .int .i64 xn, .int .i64 xr, .int .i64 xd, .int .i64 xs] 35)) = W2 at D2 ⊢
  have HD2 := hid D2
  clear D2
  have y20 : W2.cell? ⟨w.heap.size, 0, none⟩ = some (.int .i64 1) := HD2.out.Y.cell 0
  have y21 : W2.cell? ⟨w.heap.size, 1, none⟩ = some fv := HD2.out.Y.cell 1
  have a21 : W2.cell? ⟨w.heap.size + 1, 1, none⟩ = some (.int .i64 (a : Int)) := HD2.out.A.cell 1
  go_wp2_with (first
    | (go_at_call_of 60 (Value.int .i64 (a : Int)); refine (m_isSlot _ _).mono ?_; rw [HSA.out]; rintro e w' ⟨rfl, rfl⟩)
    | (go_at_call_of 95 (Value.int .i64 1); refine (m_need _ fv 1 1 1 true rfl rfl).mono ?_; rintro e w3 ⟨rfl, hk3⟩; have HD3 : Hid (IX w b t 1 fv ⟨xk, (a : Int), (c : Int), xi, xn, xr, xd, xs⟩ w3) := HD2.out.kp0 (hk3); have y30 : w3.cell? ⟨w.heap.size, 0, none⟩ = some (.int .i64 1) := HD3.out.Y.cell 0; have y31 : w3.cell? ⟨w.heap.size, 1, none⟩ = some fv := HD3.out.Y.cell 1; have a31 : w3.cell? ⟨w.heap.size + 1, 1, none⟩ = some (.int .i64 (a : Int)) := HD3.out.A.cell 1; have a32 : w3.cell? ⟨w.heap.size + 1, 2, none⟩ = some (.int .i64 (c : Int)) := HD3.out.A.cell 2; clear hk3)
    | (go_at_call_of 60 (Value.int .i64 (c : Int)); refine (m_isSlot _ _).mono ?_; rw [HSB.out]; rintro e w' ⟨rfl, rfl⟩)
    | (go_at_call_of 95 (Value.int .i64 2); refine (m_need _ fv 1 2 0 false rfl rfl).mono ?_; rintro e w4 ⟨rfl, hk4⟩; have HD4 : Hid (IX w b t 1 fv ⟨xk, (a : Int), (c : Int), xi, xn, xr, xd, xs⟩ w4) := HD3.out.kp0 (hk4); have y40 : w4.cell? ⟨w.heap.size, 0, none⟩ = some (.int .i64 1) := HD4.out.Y.cell 0; have y41 : w4.cell? ⟨w.heap.size, 1, none⟩ = some fv := HD4.out.Y.cell 1; have a41 : w4.cell? ⟨w.heap.size + 1, 1, none⟩ = some (.int .i64 (a : Int)) := HD4.out.A.cell 1; have a42 : w4.cell? ⟨w.heap.size + 1, 2, none⟩ = some (.int .i64 (c : Int)) := HD4.out.A.cell 2; have a45 : w4.cell? ⟨w.heap.size + 1, 5, none⟩ = some (.int .i64 xr) := HD4.out.A.cell 5; have a46 : w4.cell? ⟨w.heap.size + 1, 6, none⟩ = some (.int .i64 xd) := HD4.out.A.cell 6; have a47 : w4.cell? ⟨w.heap.size + 1, 7, none⟩ = some (.int .i64 xs) := HD4.out.A.cell 7; clear hk4))
  clear y20 y21 a21 y30 y31 a31 a32 y40 y41 a41 a42 a45 a46 a47
  have u0 : w4.cell? ⟨w.heap.size, 0, none⟩ = some (.int .i64 1) := HD4.out.Y.cell 0
  have u1 : w4.cell? ⟨w.heap.size, 1, none⟩ = some fv := HD4.out.Y.cell 1
  refine wp_region_held_drew (S := (fun wz => wz.cell? ⟨w.heap.size, 0, none⟩ = some (.int .i64 1) ∧ wz.cell? ⟨w.heap.size, 1, none⟩ = some fv)) (by kernel_rfl) ?_ (fun hHeld => ?_)
  · exact ⟨cell_kp (Kp.draw _ 1) u0, cell_kp (Kp.draw _ 1) u1⟩
  refine wpAnyH_take (i := 0) (v := _) rfl (by kernel_rfl) (by kernel_rfl) (by kernel_rfl) (fun _ _ _ h => h) (Or.inl ⟨by rfl, by (intro wz hSw; have hca := hSw.1; have hcb := hSw.2; go_simp; try with_reducible rfl)⟩) (by assumption) ?_
  try simp only [List.getElem_toArray, List.getElem_cons_zero, List.getElem_cons_succ, Act.put, List.setIfInBounds_toArray, List.set_cons_zero, List.set_cons_succ]
  refine wpAnyH_ready (rs := [1]) (by kernel_rfl) (by simp) ?_
  refine AllReadyH.cons rfl (fun K hK => ?_) AllReadyH.nil
  go_simp
  refine (m_need _ fv 1 4 0 false rfl rfl).mono ?_
  rintro e w6 ⟨rfl, hk6⟩
  have HD6 : Hid (IX w b t 1 fv ⟨xk, (a : Int), (c : Int), xi, xn, xr, xd, xs⟩ w6) := HD4.out.kp0 ((Kp.draw _ 1).chain hk6)
  try go_wp2_with fail
  refine hK.out _ _ ?_ (fun hHeld => ?_)
  · exact ⟨cell_kp (hk6) hHeld.1, cell_kp (hk6) hHeld.2⟩
  clear hK K
  refine wpAnyH_take (i := 2) (v := _) rfl (by kernel_rfl) (by kernel_rfl) (by kernel_rfl) (fun _ _ _ h => h) (Or.inl ⟨by rfl, by (intro wz hSw; go_simp; try with_reducible rfl)⟩) (by assumption) ?_
  try simp only [List.getElem_toArray, List.getElem_cons_zero, List.getElem_cons_succ, Act.put, List.setIfInBounds_toArray, List.set_cons_zero, List.set_cons_succ]
  refine wpAnyH_take (i := 3) (v := undef) rfl (by kernel_rfl) (by kernel_rfl) (by kernel_rfl) (fun _ _ _ h => h) (Or.inr ⟨by rfl, rfl⟩) (by assumption) ?_
  try simp only [List.getElem_toArray, List.getElem_cons_zero, List.getElem_cons_succ, Act.put, List.setIfInBounds_toArray, List.set_cons_zero, List.set_cons_succ]
  refine wpAnyH_take (i := 4) (v := undef) rfl (by kernel_rfl) (by kernel_rfl) (by kernel_rfl) (fun _ _ _ h => h) (Or.inr ⟨by rfl, rfl⟩) (by assumption) ?_
  try simp only [List.getElem_toArray, List.getElem_cons_zero, List.getElem_cons_succ, Act.put, List.setIfInBounds_toArray, List.set_cons_zero, List.set_cons_succ]
  refine wpAnyH_take (i := 5) (v := undef) rfl (by kernel_rfl) (by kernel_rfl) (by kernel_rfl) (fun _ _ _ h => h) (Or.inr ⟨by rfl, rfl⟩) (by assumption) ?_
  try simp only [List.getElem_toArray, List.getElem_cons_zero, List.getElem_cons_succ, Act.put, List.setIfInBounds_toArray, List.set_cons_zero, List.set_cons_succ]
  refine wpAnyH_take (i := 6) (v := undef) rfl (by kernel_rfl) (by kernel_rfl) (by kernel_rfl) (fun _ _ _ h => h) (Or.inr ⟨by rfl, rfl⟩) (by assumption) ?_
  try simp only [List.getElem_toArray, List.getElem_cons_zero, List.getElem_cons_succ, Act.put, List.setIfInBounds_toArray, List.set_cons_zero, List.set_cons_succ]
  refine wpAnyH_take (i := 7) (v := undef) rfl (by kernel_rfl) (by kernel_rfl) (by kernel_rfl) (fun _ _ _ h => h) (Or.inr ⟨by rfl, rfl⟩) (by assumption) ?_
  try simp only [List.getElem_toArray, List.getElem_cons_zero, List.getElem_cons_succ, Act.put, List.setIfInBounds_toArray, List.set_cons_zero, List.set_cons_succ]
  refine wpAnyH_take (i := 8) (v := undef) rfl (by kernel_rfl) (by kernel_rfl) (by kernel_rfl) (fun _ _ _ h => h) (Or.inr ⟨by rfl, rfl⟩) (by assumption) ?_
  try simp only [List.getElem_toArray, List.getElem_cons_zero, List.getElem_cons_succ, Act.put, List.setIfInBounds_toArray, List.set_cons_zero, List.set_cons_succ]
  refine wpAnyH_take (i := 9) (v := undef) rfl (by kernel_rfl) (by kernel_rfl) (by kernel_rfl) (fun _ _ _ h => h) (Or.inr ⟨by rfl, rfl⟩) (by assumption) ?_
  try simp only [List.getElem_toArray, List.getElem_cons_zero, List.getElem_cons_succ, Act.put, List.setIfInBounds_toArray, List.set_cons_zero, List.set_cons_succ]
  refine wpAnyH_take (i := 10) (v := _) rfl (by kernel_rfl) (by kernel_rfl) (by kernel_rfl) (fun _ _ _ h => h) (Or.inl ⟨by rfl, by (intro wz hSw; go_simp; try with_reducible rfl)⟩) (by assumption) ?_
  try simp only [List.getElem_toArray, List.getElem_cons_zero, List.getElem_cons_succ, Act.put, List.setIfInBounds_toArray, List.set_cons_zero, List.set_cons_succ]
  refine wpAnyH_take (i := 11) (v := _) rfl (by kernel_rfl) (by kernel_rfl) (by kernel_rfl) (fun _ _ _ h => h) (Or.inl ⟨by rfl, by (intro wz hSw; go_simp; try with_reducible rfl)⟩) (by assumption) ?_
  try simp only [List.getElem_toArray, List.getElem_cons_zero, List.getElem_cons_succ, Act.put, List.setIfInBounds_toArray, List.set_cons_zero, List.set_cons_succ]
  refine wpAnyH_take (i := 12) (v := _) rfl (by kernel_rfl) (by kernel_rfl) (by kernel_rfl) (fun _ _ _ h => h) (Or.inl ⟨by rfl, by (intro wz hSw; have hca := hSw.1; have hcb := hSw.2; go_simp; try with_reducible rfl)⟩) (by assumption) ?_
  try simp only [List.getElem_toArray, List.getElem_cons_zero, List.getElem_cons_succ, Act.put, List.setIfInBounds_toArray, List.set_cons_zero, List.set_cons_succ]
  refine wpAnyH_ready (rs := [13]) (by kernel_rfl) (by simp) ?_
  refine AllReadyH.cons rfl (fun K hK => ?_) AllReadyH.nil
  go_simp
  refine (m_need _ fv 1 8 0 false rfl rfl).mono ?_
  rintro e w7 ⟨rfl, hk7⟩
  have HD7 : Hid (IX w b t 1 fv ⟨xk, (a : Int), (c : Int), xi, xn, xr, xd, xs⟩ w7) := HD6.out.kp0 (hk7)
  try go_wp2_with fail
  refine hK.out _ _ ?_ (fun hHeld => ?_)
  · exact ⟨cell_kp (hk7) hHeld.1, cell_kp (hk7) hHeld.2⟩
  clear hK K
  refine wpAnyH_take (i := 14) (v := _) rfl (by kernel_rfl) (by kernel_rfl) (by kernel_rfl) (fun _ _ _ h => h) (Or.inl ⟨by rfl, by (intro wz hSw; go_simp; try with_reducible rfl)⟩) (by assumption) ?_
  try simp only [List.getElem_toArray, List.getElem_cons_zero, List.getElem_cons_succ, Act.put, List.setIfInBounds_toArray, List.set_cons_zero, List.set_cons_succ]
  refine wpAnyH_take (i := 15) (v := undef) rfl (by kernel_rfl) (by kernel_rfl) (by kernel_rfl) (fun _ _ _ h => h) (Or.inr ⟨by rfl, rfl⟩) (by assumption) ?_
  try simp only [List.getElem_toArray, List.getElem_cons_zero, List.getElem_cons_succ, Act.put, List.setIfInBounds_toArray, List.set_cons_zero, List.set_cons_succ]
  refine wpAnyH_take (i := 16) (v := undef) rfl (by kernel_rfl) (by kernel_rfl) (by kernel_rfl) (fun _ _ _ h => h) (Or.inr ⟨by rfl, rfl⟩) (by assumption) ?_
  try simp only [List.getElem_toArray, List.getElem_cons_zero, List.getElem_cons_succ, Act.put, List.setIfInBounds_toArray, List.set_cons_zero, List.set_cons_succ]
  refine wpAnyH_take (i := 17) (v := undef) rfl (by kernel_rfl) (by kernel_rfl) (by kernel_rfl) (fun _ _ _ h => h) (Or.inr ⟨by rfl, rfl⟩) (by assumption) ?_
  try simp only [List.getElem_toArray, List.getElem_cons_zero, List.getElem_cons_succ, Act.put, List.setIfInBounds_toArray, List.set_cons_zero, List.set_cons_succ]
  refine wpAnyH_take (i := 18) (v := undef) rfl (by kernel_rfl) (by kernel_rfl) (by kernel_rfl) (fun _ _ _ h => h) (Or.inr ⟨by rfl, rfl⟩) (by assumption) ?_
  try simp only [List.getElem_toArray, List.getElem_cons_zero, List.getElem_cons_succ, Act.put, List.setIfInBounds_toArray, List.set_cons_zero, List.set_cons_succ]
  refine wpAnyH_take (i := 19) (v := undef) rfl (by kernel_rfl) (by kernel_rfl) (by kernel_rfl) (fun _ _ _ h => h) (Or.inr ⟨by rfl, rfl⟩) (by assumption) ?_
  try simp only [List.getElem_toArray, List.getElem_cons_zero, List.getElem_cons_succ, Act.put, List.setIfInBounds_toArray, List.set_cons_zero, List.set_cons_succ]
  refine wpAnyH_take (i := 20) (v := undef) rfl (by kernel_rfl) (by kernel_rfl) (by kernel_rfl) (fun _ _ _ h => h) (Or.inr ⟨by rfl, rfl⟩) (by assumption) ?_
  try simp only [List.getElem_toArray, List.getElem_cons_zero, List.getElem_cons_succ, Act.put, List.setIfInBounds_toArray, List.set_cons_zero, List.set_cons_succ]
  refine wpAnyH_take (i := 21) (v := undef) rfl (by kernel_rfl) (by kernel_rfl) (by kernel_rfl) (fun _ _ _ h => h) (Or.inr ⟨by rfl, rfl⟩) (by assumption) ?_
  try simp only [List.getElem_toArray, List.getElem_cons_zero, List.getElem_cons_succ, Act.put, List.setIfInBounds_toArray, List.set_cons_zero, List.set_cons_succ]
  refine wpAnyH_take (i := 22) (v := _) rfl (by kernel_rfl) (by kernel_rfl) (by kernel_rfl) (fun _ _ _ h => h) (Or.inl ⟨by rfl, by (intro wz hSw; go_simp; try with_reducible rfl)⟩) (by assumption) ?_
  try simp only [List.getElem_toArray, List.getElem_cons_zero, List.getElem_cons_succ, Act.put, List.setIfInBounds_toArray, List.set_cons_zero, List.set_cons_succ]
  refine wpAnyH_take (i := 23) (v := _) rfl (by kernel_rfl) (by kernel_rfl) (by kernel_rfl) (fun _ _ _ h => h) (Or.inl ⟨by rfl, by (intro wz hSw; go_simp; try with_reducible rfl)⟩) (by assumption) ?_
  try simp only [List.getElem_toArray, List.getElem_cons_zero, List.getElem_cons_succ, Act.put, List.setIfInBounds_toArray, List.set_cons_zero, List.set_cons_succ]
  refine wpAnyH_done (by kernel_rfl) ?_ _
  have HD8 := HD7
  clear hHeld
  clear u0 u1
  try clear hk6
  try clear hk7
  have y80 : w7.cell? ⟨w.heap.size, 0, none⟩ = some (.int .i64 1) := HD8.out.Y.cell 0
  have y81 : w7.cell? ⟨w.heap.size, 1, none⟩ = some fv := HD8.out.Y.cell 1
  have a80 : w7.cell? ⟨w.heap.size + 1, 0, none⟩ = some (.int .i64 xk) := HD8.out.A.cell 0
  have a81 : w7.cell? ⟨w.heap.size + 1, 1, none⟩ = some (.int .i64 (a : Int)) := HD8.out.A.cell 1
  have a82 : w7.cell? ⟨w.heap.size + 1, 2, none⟩ = some (.int .i64 (c : Int)) := HD8.out.A.cell 2
  have a83 : w7.cell? ⟨w.heap.size + 1, 3, none⟩ = some (.int .i64 xi) := HD8.out.A.cell 3
  have a84 : w7.cell? ⟨w.heap.size + 1, 4, none⟩ = some (.int .i64 xn) := HD8.out.A.cell 4
  have a85 : w7.cell? ⟨w.heap.size + 1, 5, none⟩ = some (.int .i64 xr) := HD8.out.A.cell 5
  have a86 : w7.cell? ⟨w.heap.size + 1, 6, none⟩ = some (.int .i64 xd) := HD8.out.A.cell 6
  have a87 : w7.cell? ⟨w.heap.size + 1, 7, none⟩ = some (.int .i64 xs) := HD8.out.A.cell 7
  go_wp2_with (go_at_call 97; go_loud (refine (m_idx1 HD8.out.R m hm a ha fv _ _ _ _ _ _ _).mono ?_; rintro e w9 ⟨rfl, hk9⟩; have HK9 := hid (HD8.out.kp.chain hk9); clear hk9))
  go_ret
  exact ⟨rfl, HK9.out⟩
end
end Go.Proofs.YtbiompmklijgoaaDoor
