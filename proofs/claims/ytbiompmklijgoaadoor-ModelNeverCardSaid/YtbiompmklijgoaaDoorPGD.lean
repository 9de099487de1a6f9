/-
  The contract of package model's indexed, for each kind of needs. Conditions: those that stand in each theorem.
-/
import Derived.Test.YtbiompmklijgoaaDoorPGB
import Derived.BigQuiet
import Derived.Test.YtbiompmklijgoaaDoorPGA
import Derived.Deep.RegionHeld3
import Derived.Test.YtbiompmklijgoaaDoorPGC
namespace Go.Proofs.YtbiompmklijgoaaDoor
set_option linter.unusedVariables false
set_option linter.unusedSimpArgs false
open Go.RowKit Go.Deep Go.Maps

section
variable {w w' W V : World} {b b0 : MB} {t : MT} {x : MA} {nd : Int} {fv : Value}
/-- While an act is looked at: the model, the way's box, the act's box. -/
structure IX (w : World) (b : MB) (t : MT) (nd : Int) (fv : Value) (x : MA) (W : World) : Prop where
  R : MR W b t
  Y : Blk W w.heap.size 99 #[.int .i64 nd, fv]
  A : Blk W (w.heap.size + 1) 35 x.cells
  kp : Kp [] w W
theorem IX.start (R : MR w b t) : IX w b t nd fv x ((w.alloc (.cells #[.int .i64 nd, fv] 99)).alloc (.cells x.cells 35)) := by
  have k : Kp [] w ((w.alloc (.cells #[.int .i64 nd, fv] 99)).alloc (.cells x.cells 35)) := (Kp.new _ _).chain (Kp.new _ _)
  have e := Blk.new (w.alloc (.cells #[.int .i64 nd, fv] 99)) 35 x.cells
  rw [World.size_alloc] at e
  exact ⟨R.kp0 k, (Blk.new w _ _).kp (Kp.new _ _) (by simp), e, k⟩
theorem IX.kp0 (h : IX w b t nd fv x W) (k : Kp [] W V) : IX w b t nd fv x V := ⟨h.R.kp0 k, h.Y.kp k (by simp), h.A.kp k (by simp), h.kp.chain k⟩
set_option maxRecDepth 100000 in
set_option maxHeartbeats 4000000 in
theorem m_idx0 (R : MR w b t) (m : Nat) (hm : m < t.n) (a : Nat) (ha : a < 16) (fv : Value) (xk xi xn xr xd xs : Int) (xb : Int) :
    Calls Tryd.prog 97 #[.pointer (some ⟨b.g, 0, none⟩), .agg #[.int .i64 0, fv], .pointer (some ⟨b.sb, m * 16, none⟩), .agg #[.int .i64 xk, .int .i64 (a : Int), .int .i64 xb, .int .i64 xi, .int .i64 xn, .int .i64 xr, .int .i64 xd, .int .i64 xs]] w fun e w' => e = .returned (.tuple #[.slice none 0 0, .bool false]) ∧ Kp [] w w' := by
  have D2 : IX w b t 0 fv ⟨xk, (a : Int), xb, xi, xn, xr, xd, xs⟩ _ := IX.start R
  unfold MA.cells at D2
  simp only at D2
  have h4 := R.ok.n4
  have q1 : (a : Int) < 16 := by omega
  have HZA : Hid (m * 16 + a < 16 * t.n) := by show _ < _; omega
  clear R
  go_enter Tryd.func97, Tryd.ntmps97
  go_upto_region 1 with fail
  generalize ((w.alloc (.cells #[.int .i64 0, fv] 99)).alloc (.cells #[.int .i64 xk, .int .i64 (a : Int), .int .i64 xb, .int .i64 xi, .int .i64 xn, .int .i64 xr, .int .i64 xd, .int .i64 xs] 35)) = W2 at D2 ⊢
  have HD2 := hid D2
  clear D2
  have c1 : W2.cell? ⟨w.heap.size + 1, 1, none⟩ = some (.int .i64 (a : Int)) := HD2.out.A.cell 1
  have s1 := HD2.out.R.cs HZA.out
  generalize t.sl.getD (m * 16 + a) 0 = y at s1
  go_quiet (fail)
  have HD3 : Hid (IX w b t 0 fv ⟨xk, (a : Int), xb, xi, xn, xr, xd, xs⟩ (W2.drewN nq)) := HD2.out.kp0 (Kp.draw _ nq)
  generalize W2.drewN nq = W3 at HD3 ⊢
  clear c1 s1
  have y30 : W3.cell? ⟨w.heap.size, 0, none⟩ = some (.int .i64 0) := HD3.out.Y.cell 0
  have y31 : W3.cell? ⟨w.heap.size, 1, none⟩ = some fv := HD3.out.Y.cell 1
  go_wp2_with (first
    | (go_at_call_of 95 (Value.int .i64 8); go_loud (refine (m_need _ fv 0 8 0 false rfl rfl).mono ?_; rintro e w4 ⟨rfl, hk4⟩; have HD4 : Hid (IX w b t 0 fv ⟨xk, (a : Int), xb, xi, xn, xr, xd, xs⟩ w4) := HD3.out.kp0 hk4; have y40 : w4.cell? ⟨w.heap.size, 0, none⟩ = some (.int .i64 0) := HD4.out.Y.cell 0; have y41 : w4.cell? ⟨w.heap.size, 1, none⟩ = some fv := HD4.out.Y.cell 1; clear hk4))
    | (go_at_call_of 95 (Value.int .i64 16); go_loud (refine (m_need _ fv 0 16 0 false rfl rfl).mono ?_; rintro e w6 ⟨rfl, hk6⟩; have HD6 : Hid (IX w b t 0 fv ⟨xk, (a : Int), xb, xi, xn, xr, xd, xs⟩ w6) := HD4.out.kp0 hk6; have y60 : w6.cell? ⟨w.heap.size, 0, none⟩ = some (.int .i64 0) := HD6.out.Y.cell 0; have y61 : w6.cell? ⟨w.heap.size, 1, none⟩ = some fv := HD6.out.Y.cell 1; clear hk6))
    | (go_at_call_of 95 (Value.int .i64 32); go_loud (refine (m_need _ fv 0 32 0 false rfl rfl).mono ?_; rintro e w7 ⟨rfl, hk7⟩; have HD7 : Hid (IX w b t 0 fv ⟨xk, (a : Int), xb, xi, xn, xr, xd, xs⟩ w7) := HD6.out.kp0 hk7; have y70 : w7.cell? ⟨w.heap.size, 0, none⟩ = some (.int .i64 0) := HD7.out.Y.cell 0; have y71 : w7.cell? ⟨w.heap.size, 1, none⟩ = some fv := HD7.out.Y.cell 1; clear hk7))
    | (go_at_call_of 95 (Value.int .i64 64); go_loud (refine (m_need _ fv 0 64 0 false rfl rfl).mono ?_; rintro e w8 ⟨rfl, hk8⟩; have HD8 : Hid (IX w b t 0 fv ⟨xk, (a : Int), xb, xi, xn, xr, xd, xs⟩ w8) := HD7.out.kp0 hk8; have y80 : w8.cell? ⟨w.heap.size, 0, none⟩ = some (.int .i64 0) := HD8.out.Y.cell 0; have y81 : w8.cell? ⟨w.heap.size, 1, none⟩ = some fv := HD8.out.Y.cell 1; clear hk8)))
  go_ret2
  exact ⟨rfl, HD8.out.kp⟩
set_option maxRecDepth 100000 in
set_option maxHeartbeats 4000000 in
theorem m_idx1 (R : MR w b t) (m : Nat) (hm : m < t.n) (a : Nat) (ha : a < 16) (fv : Value) (xk xi xn xr xd xs : Int) (xb : Int) :
    Calls Tryd.prog 97 #[.pointer (some ⟨b.g, 0, none⟩), .agg #[.int .i64 1, fv], .pointer (some ⟨b.sb, m * 16, none⟩), .agg #[.int .i64 xk, .int .i64 (a : Int), .int .i64 xb, .int .i64 xi, .int .i64 xn, .int .i64 xr, .int .i64 xd, .int .i64 xs]] w fun e w' => e = .returned (.tuple #[.slice none 0 0, .bool false]) ∧ Kp [] w w' := by
  have D2 : IX w b t 1 fv ⟨xk, (a : Int), xb, xi, xn, xr, xd, xs⟩ _ := IX.start R
  unfold MA.cells at D2
  simp only at D2
  have h4 := R.ok.n4
  have q1 : (a : Int) < 16 := by omega
  have HZA : Hid (m * 16 + a < 16 * t.n) := by show _ < _; omega
  clear R
  go_enter Tryd.func97, Tryd.ntmps97
  go_upto_region 1 with fail
  generalize ((w.alloc (.cells #[.int .i64 1, fv] 99)).alloc (.cells #[.int .i64 xk, .int .i64 (a : Int), .int .i64 xb, .int .i64 xi, .int .i64 xn, .int .i64 xr, .int .i64 xd, .int .i64 xs] 35)) = W2 at D2 ⊢
  have HD2 := hid D2
  clear D2
  have c1 : W2.cell? ⟨w.heap.size + 1, 1, none⟩ = some (.int .i64 (a : Int)) := HD2.out.A.cell 1
  have s1 := HD2.out.R.cs HZA.out
  generalize t.sl.getD (m * 16 + a) 0 = y at s1
  go_quiet (fail)
  have HD3 : Hid (IX w b t 1 fv ⟨xk, (a : Int), xb, xi, xn, xr, xd, xs⟩ (W2.drewN nq)) := HD2.out.kp0 (Kp.draw _ nq)
  generalize W2.drewN nq = W3 at HD3 ⊢
  clear c1 s1
  have y30 : W3.cell? ⟨w.heap.size, 0, none⟩ = some (.int .i64 1) := HD3.out.Y.cell 0
  have y31 : W3.cell? ⟨w.heap.size, 1, none⟩ = some fv := HD3.out.Y.cell 1
  go_wp2_with (first
    | (go_at_call_of 95 (Value.int .i64 8); go_loud (refine (m_need _ fv 1 8 0 false rfl rfl).mono ?_; rintro e w4 ⟨rfl, hk4⟩; have HD4 : Hid (IX w b t 1 fv ⟨xk, (a : Int), xb, xi, xn, xr, xd, xs⟩ w4) := HD3.out.kp0 hk4; have y40 : w4.cell? ⟨w.heap.size, 0, none⟩ = some (.int .i64 1) := HD4.out.Y.cell 0; have y41 : w4.cell? ⟨w.heap.size, 1, none⟩ = some fv := HD4.out.Y.cell 1; clear hk4))
    | (go_at_call_of 95 (Value.int .i64 16); go_loud (refine (m_need _ fv 1 16 0 false rfl rfl).mono ?_; rintro e w6 ⟨rfl, hk6⟩; have HD6 : Hid (IX w b t 1 fv ⟨xk, (a : Int), xb, xi, xn, xr, xd, xs⟩ w6) := HD4.out.kp0 hk6; have y60 : w6.cell? ⟨w.heap.size, 0, none⟩ = some (.int .i64 1) := HD6.out.Y.cell 0; have y61 : w6.cell? ⟨w.heap.size, 1, none⟩ = some fv := HD6.out.Y.cell 1; clear hk6))
    | (go_at_call_of 95 (Value.int .i64 32); go_loud (refine (m_need _ fv 1 32 0 false rfl rfl).mono ?_; rintro e w7 ⟨rfl, hk7⟩; have HD7 : Hid (IX w b t 1 fv ⟨xk, (a : Int), xb, xi, xn, xr, xd, xs⟩ w7) := HD6.out.kp0 hk7; have y70 : w7.cell? ⟨w.heap.size, 0, none⟩ = some (.int .i64 1) := HD7.out.Y.cell 0; have y71 : w7.cell? ⟨w.heap.size, 1, none⟩ = some fv := HD7.out.Y.cell 1; clear hk7))
    | (go_at_call_of 95 (Value.int .i64 64); go_loud (refine (m_need _ fv 1 64 0 false rfl rfl).mono ?_; rintro e w8 ⟨rfl, hk8⟩; have HD8 : Hid (IX w b t 1 fv ⟨xk, (a : Int), xb, xi, xn, xr, xd, xs⟩ w8) := HD7.out.kp0 hk8; have y80 : w8.cell? ⟨w.heap.size, 0, none⟩ = some (.int .i64 1) := HD8.out.Y.cell 0; have y81 : w8.cell? ⟨w.heap.size, 1, none⟩ = some fv := HD8.out.Y.cell 1; clear hk8)))
  go_ret2
  exact ⟨rfl, HD8.out.kp⟩
set_option maxRecDepth 100000 in
set_option maxHeartbeats 4000000 in
theorem m_idx2 (R : MR w b t) (m : Nat) (hm : m < t.n) (a : Nat) (ha : a < 16) (fv : Value) (xk xi xn xr xd xs : Int) (xb : Int) :
    Calls Tryd.prog 97 #[.pointer (some ⟨b.g, 0, none⟩), .agg #[.int .i64 2, fv], .pointer (some ⟨b.sb, m * 16, none⟩), .agg #[.int .i64 xk, .int .i64 (a : Int), .int .i64 xb, .int .i64 xi, .int .i64 xn, .int .i64 xr, .int .i64 xd, .int .i64 xs]] w fun e w' => e = .returned (.tuple #[.slice none 0 0, .bool false]) ∧ Kp [] w w' := by
  have D2 : IX w b t 2 fv ⟨xk, (a : Int), xb, xi, xn, xr, xd, xs⟩ _ := IX.start R
  unfold MA.cells at D2
  simp only at D2
  have h4 := R.ok.n4
  have q1 : (a : Int) < 16 := by omega
  have HZA : Hid (m * 16 + a < 16 * t.n) := by show _ < _; omega
  clear R
  go_enter Tryd.func97, Tryd.ntmps97
  go_upto_region 1 with fail
  generalize ((w.alloc (.cells #[.int .i64 2, fv] 99)).alloc (.cells #[.int .i64 xk, .int .i64 (a : Int), .int .i64 xb, .int .i64 xi, .int .i64 xn, .int .i64 xr, .int .i64 xd, .int .i64 xs] 35)) = W2 at D2 ⊢
  have HD2 := hid D2
  clear D2
  have c1 : W2.cell? ⟨w.heap.size + 1, 1, none⟩ = some (.int .i64 (a : Int)) := HD2.out.A.cell 1
  have s1 := HD2.out.R.cs HZA.out
  generalize t.sl.getD (m * 16 + a) 0 = y at s1
  go_quiet (fail)
  have HD3 : Hid (IX w b t 2 fv ⟨xk, (a : Int), xb, xi, xn, xr, xd, xs⟩ (W2.drewN nq)) := HD2.out.kp0 (Kp.draw _ nq)
  generalize W2.drewN nq = W3 at HD3 ⊢
  clear c1 s1
  have y30 : W3.cell? ⟨w.heap.size, 0, none⟩ = some (.int .i64 2) := HD3.out.Y.cell 0
  have y31 : W3.cell? ⟨w.heap.size, 1, none⟩ = some fv := HD3.out.Y.cell 1
  go_wp2_with (first
    | (go_at_call_of 95 (Value.int .i64 8); go_loud (refine (m_need _ fv 2 8 0 false rfl rfl).mono ?_; rintro e w4 ⟨rfl, hk4⟩; have HD4 : Hid (IX w b t 2 fv ⟨xk, (a : Int), xb, xi, xn, xr, xd, xs⟩ w4) := HD3.out.kp0 hk4; have y40 : w4.cell? ⟨w.heap.size, 0, none⟩ = some (.int .i64 2) := HD4.out.Y.cell 0; have y41 : w4.cell? ⟨w.heap.size, 1, none⟩ = some fv := HD4.out.Y.cell 1; clear hk4))
    | (go_at_call_of 95 (Value.int .i64 16); go_loud (refine (m_need _ fv 2 16 0 false rfl rfl).mono ?_; rintro e w6 ⟨rfl, hk6⟩; have HD6 : Hid (IX w b t 2 fv ⟨xk, (a : Int), xb, xi, xn, xr, xd, xs⟩ w6) := HD4.out.kp0 hk6; have y60 : w6.cell? ⟨w.heap.size, 0, none⟩ = some (.int .i64 2) := HD6.out.Y.cell 0; have y61 : w6.cell? ⟨w.heap.size, 1, none⟩ = some fv := HD6.out.Y.cell 1; clear hk6))
    | (go_at_call_of 95 (Value.int .i64 32); go_loud (refine (m_need _ fv 2 32 0 false rfl rfl).mono ?_; rintro e w7 ⟨rfl, hk7⟩; have HD7 : Hid (IX w b t 2 fv ⟨xk, (a : Int), xb, xi, xn, xr, xd, xs⟩ w7) := HD6.out.kp0 hk7; have y70 : w7.cell? ⟨w.heap.size, 0, none⟩ = some (.int .i64 2) := HD7.out.Y.cell 0; have y71 : w7.cell? ⟨w.heap.size, 1, none⟩ = some fv := HD7.out.Y.cell 1; clear hk7))
    | (go_at_call_of 95 (Value.int .i64 64); go_loud (refine (m_need _ fv 2 64 0 false rfl rfl).mono ?_; rintro e w8 ⟨rfl, hk8⟩; have HD8 : Hid (IX w b t 2 fv ⟨xk, (a : Int), xb, xi, xn, xr, xd, xs⟩ w8) := HD7.out.kp0 hk8; have y80 : w8.cell? ⟨w.heap.size, 0, none⟩ = some (.int .i64 2) := HD8.out.Y.cell 0; have y81 : w8.cell? ⟨w.heap.size, 1, none⟩ = some fv := HD8.out.Y.cell 1; clear hk8)))
  go_ret2
  exact ⟨rfl, HD8.out.kp⟩
set_option maxRecDepth 100000 in
set_option maxHeartbeats 4000000 in
theorem m_idx4 (R : MR w b t) (m : Nat) (hm : m < t.n) (a : Nat) (ha : a < 16) (fv : Value) (xk xi xn xr xd xs : Int) (xb : Int) :
    Calls Tryd.prog 97 #[.pointer (some ⟨b.g, 0, none⟩), .agg #[.int .i64 4, fv], .pointer (some ⟨b.sb, m * 16, none⟩), .agg #[.int .i64 xk, .int .i64 (a : Int), .int .i64 xb, .int .i64 xi, .int .i64 xn, .int .i64 xr, .int .i64 xd, .int .i64 xs]] w fun e w' => e = .returned (.tuple #[.slice none 0 0, .bool false]) ∧ Kp [] w w' := by
  have D2 : IX w b t 4 fv ⟨xk, (a : Int), xb, xi, xn, xr, xd, xs⟩ _ := IX.start R
  unfold MA.cells at D2
  simp only at D2
  have h4 := R.ok.n4
  have q1 : (a : Int) < 16 := by omega
  have HZA : Hid (m * 16 + a < 16 * t.n) := by show _ < _; omega
  clear R
  go_enter Tryd.func97, Tryd.ntmps97
  go_upto_region 1 with fail
  generalize ((w.alloc (.cells #[.int .i64 4, fv] 99)).alloc (.cells #[.int .i64 xk, .int .i64 (a : Int), .int .i64 xb, .int .i64 xi, .int .i64 xn, .int .i64 xr, .int .i64 xd, .int .i64 xs] 35)) = W2 at D2 ⊢
  have HD2 := hid D2
  clear D2
  have c1 : W2.cell? ⟨w.heap.size + 1, 1, none⟩ = some (.int .i64 (a : Int)) := HD2.out.A.cell 1
  have s1 := HD2.out.R.cs HZA.out
  generalize t.sl.getD (m * 16 + a) 0 = y at s1
  go_quiet (fail)
  have HD3 : Hid (IX w b t 4 fv ⟨xk, (a : Int), xb, xi, xn, xr, xd, xs⟩ (W2.drewN nq)) := HD2.out.kp0 (Kp.draw _ nq)
  generalize W2.drewN nq = W3 at HD3 ⊢
  clear c1 s1
  have y30 : W3.cell? ⟨w.heap.size, 0, none⟩ = some (.int .i64 4) := HD3.out.Y.cell 0
  have y31 : W3.cell? ⟨w.heap.size, 1, none⟩ = some fv := HD3.out.Y.cell 1
  go_wp2_with (first
    | (go_at_call_of 95 (Value.int .i64 8); go_loud (refine (m_need _ fv 4 8 0 false rfl rfl).mono ?_; rintro e w4 ⟨rfl, hk4⟩; have HD4 : Hid (IX w b t 4 fv ⟨xk, (a : Int), xb, xi, xn, xr, xd, xs⟩ w4) := HD3.out.kp0 hk4; have y40 : w4.cell? ⟨w.heap.size, 0, none⟩ = some (.int .i64 4) := HD4.out.Y.cell 0; have y41 : w4.cell? ⟨w.heap.size, 1, none⟩ = some fv := HD4.out.Y.cell 1; clear hk4))
    | (go_at_call_of 95 (Value.int .i64 16); go_loud (refine (m_need _ fv 4 16 0 false rfl rfl).mono ?_; rintro e w6 ⟨rfl, hk6⟩; have HD6 : Hid (IX w b t 4 fv ⟨xk, (a : Int), xb, xi, xn, xr, xd, xs⟩ w6) := HD4.out.kp0 hk6; have y60 : w6.cell? ⟨w.heap.size, 0, none⟩ = some (.int .i64 4) := HD6.out.Y.cell 0; have y61 : w6.cell? ⟨w.heap.size, 1, none⟩ = some fv := HD6.out.Y.cell 1; clear hk6))
    | (go_at_call_of 95 (Value.int .i64 32); go_loud (refine (m_need _ fv 4 32 0 false rfl rfl).mono ?_; rintro e w7 ⟨rfl, hk7⟩; have HD7 : Hid (IX w b t 4 fv ⟨xk, (a : Int), xb, xi, xn, xr, xd, xs⟩ w7) := HD6.out.kp0 hk7; have y70 : w7.cell? ⟨w.heap.size, 0, none⟩ = some (.int .i64 4) := HD7.out.Y.cell 0; have y71 : w7.cell? ⟨w.heap.size, 1, none⟩ = some fv := HD7.out.Y.cell 1; clear hk7))
    | (go_at_call_of 95 (Value.int .i64 64); go_loud (refine (m_need _ fv 4 64 0 false rfl rfl).mono ?_; rintro e w8 ⟨rfl, hk8⟩; have HD8 : Hid (IX w b t 4 fv ⟨xk, (a : Int), xb, xi, xn, xr, xd, xs⟩ w8) := HD7.out.kp0 hk8; have y80 : w8.cell? ⟨w.heap.size, 0, none⟩ = some (.int .i64 4) := HD8.out.Y.cell 0; have y81 : w8.cell? ⟨w.heap.size, 1, none⟩ = some fv := HD8.out.Y.cell 1; clear hk8)))
  go_ret2
  exact ⟨rfl, HD8.out.kp⟩
set_option maxRecDepth 100000 in
set_option maxHeartbeats 4000000 in
theorem m_idx64 (R : MR w b t) (m : Nat) (hm : m < t.n) (a : Nat) (ha : a < 16) (fv : Value) (xk xi xn xr xd xs : Int) (xb : Int) :
    Calls Tryd.prog 97 #[.pointer (some ⟨b.g, 0, none⟩), .agg #[.int .i64 64, fv], .pointer (some ⟨b.sb, m * 16, none⟩), .agg #[.int .i64 xk, .int .i64 (a : Int), .int .i64 xb, .int .i64 xi, .int .i64 xn, .int .i64 xr, .int .i64 xd, .int .i64 xs]] w fun e w' => e = .returned (.tuple #[.slice (some ⟨b.g, 1, none⟩) 16 16, .bool true]) ∧ Kp [] w w' := by
  have D2 : IX w b t 64 fv ⟨xk, (a : Int), xb, xi, xn, xr, xd, xs⟩ _ := IX.start R
  unfold MA.cells at D2
  simp only at D2
  have h4 := R.ok.n4
  have q1 : (a : Int) < 16 := by omega
  have HZA : Hid (m * 16 + a < 16 * t.n) := by show _ < _; omega
  clear R
  go_enter Tryd.func97, Tryd.ntmps97
  go_upto_region 1 with fail
  generalize ((w.alloc (.cells #[.int .i64 64, fv] 99)).alloc (.cells #[.int .i64 xk, .int .i64 (a : Int), .int .i64 xb, .int .i64 xi, .int .i64 xn, .int .i64 xr, .int .i64 xd, .int .i64 xs] 35)) = W2 at D2 ⊢
  have HD2 := hid D2
  clear D2
  have c1 : W2.cell? ⟨w.heap.size + 1, 1, none⟩ = some (.int .i64 (a : Int)) := HD2.out.A.cell 1
  have s1 := HD2.out.R.cs HZA.out
  generalize t.sl.getD (m * 16 + a) 0 = y at s1
  go_quiet (fail)
  have HD3 : Hid (IX w b t 64 fv ⟨xk, (a : Int), xb, xi, xn, xr, xd, xs⟩ (W2.drewN nq)) := HD2.out.kp0 (Kp.draw _ nq)
  generalize W2.drewN nq = W3 at HD3 ⊢
  clear c1 s1
  have y30 : W3.cell? ⟨w.heap.size, 0, none⟩ = some (.int .i64 64) := HD3.out.Y.cell 0
  have y31 : W3.cell? ⟨w.heap.size, 1, none⟩ = some fv := HD3.out.Y.cell 1
  have hu44 := Tryd.underlying44
  go_wp2_with (first
    | (go_at_call_of 95 (Value.int .i64 8); go_loud (refine (m_need _ fv 64 8 0 false rfl rfl).mono ?_; rintro e w4 ⟨rfl, hk4⟩; have HD4 : Hid (IX w b t 64 fv ⟨xk, (a : Int), xb, xi, xn, xr, xd, xs⟩ w4) := HD3.out.kp0 hk4; have y40 : w4.cell? ⟨w.heap.size, 0, none⟩ = some (.int .i64 64) := HD4.out.Y.cell 0; have y41 : w4.cell? ⟨w.heap.size, 1, none⟩ = some fv := HD4.out.Y.cell 1; clear hk4))
    | (go_at_call_of 95 (Value.int .i64 16); go_loud (refine (m_need _ fv 64 16 0 false rfl rfl).mono ?_; rintro e w6 ⟨rfl, hk6⟩; have HD6 : Hid (IX w b t 64 fv ⟨xk, (a : Int), xb, xi, xn, xr, xd, xs⟩ w6) := HD4.out.kp0 hk6; have y60 : w6.cell? ⟨w.heap.size, 0, none⟩ = some (.int .i64 64) := HD6.out.Y.cell 0; have y61 : w6.cell? ⟨w.heap.size, 1, none⟩ = some fv := HD6.out.Y.cell 1; clear hk6))
    | (go_at_call_of 95 (Value.int .i64 32); go_loud (refine (m_need _ fv 64 32 0 false rfl rfl).mono ?_; rintro e w7 ⟨rfl, hk7⟩; have HD7 : Hid (IX w b t 64 fv ⟨xk, (a : Int), xb, xi, xn, xr, xd, xs⟩ w7) := HD6.out.kp0 hk7; have y70 : w7.cell? ⟨w.heap.size, 0, none⟩ = some (.int .i64 64) := HD7.out.Y.cell 0; have y71 : w7.cell? ⟨w.heap.size, 1, none⟩ = some fv := HD7.out.Y.cell 1; clear hk7))
    | (go_at_call_of 95 (Value.int .i64 64); go_loud (refine (m_need _ fv 64 64 64 true rfl rfl).mono ?_; rintro e w8 ⟨rfl, hk8⟩; have HD8 : Hid (IX w b t 64 fv ⟨xk, (a : Int), xb, xi, xn, xr, xd, xs⟩ w8) := HD7.out.kp0 hk8; have y80 : w8.cell? ⟨w.heap.size, 0, none⟩ = some (.int .i64 64) := HD8.out.Y.cell 0; have y81 : w8.cell? ⟨w.heap.size, 1, none⟩ = some fv := HD8.out.Y.cell 1; clear hk8)))
  go_ret2
  exact ⟨rfl, HD8.out.kp⟩
set_option maxRecDepth 100000 in
set_option maxHeartbeats 4000000 in
theorem m_idx36 (R : MR w b t) (m : Nat) (hm : m < t.n) (a : Nat) (ha : a < 16) (fv : Value) (xk xi xn xr xd xs : Int) (xb : Int) (y : Int) (hyy : y = t.sl.getD (m * 16 + a) 0) (hh : t.has y = true) :
    Calls Tryd.prog 97 #[.pointer (some ⟨b.g, 0, none⟩), .agg #[.int .i64 36, fv], .pointer (some ⟨b.sb, m * 16, none⟩), .agg #[.int .i64 xk, .int .i64 (a : Int), .int .i64 xb, .int .i64 xi, .int .i64 xn, .int .i64 xr, .int .i64 xd, .int .i64 xs]] w fun e w' => ∃ v, e = .returned (.tuple #[v, .bool true]) ∧ VS b.wv ((t.obj y).f + (t.obj y).r) (t.obj y).d v ∧ Kp [] w w' := by
  have D2 : IX w b t 36 fv ⟨xk, (a : Int), xb, xi, xn, xr, xd, xs⟩ _ := IX.start R
  unfold MA.cells at D2
  simp only at D2
  have h4 := R.ok.n4
  have q1 : (a : Int) < 16 := by omega
  have HZA : Hid (m * 16 + a < 16 * t.n) := by show _ < _; omega
  have HY := hid hyy
  clear hyy
  have HH := hid hh
  clear hh
  clear R
  go_enter Tryd.func97, Tryd.ntmps97
  go_upto_region 1 with fail
  generalize ((w.alloc (.cells #[.int .i64 36, fv] 99)).alloc (.cells #[.int .i64 xk, .int .i64 (a : Int), .int .i64 xb, .int .i64 xi, .int .i64 xn, .int .i64 xr, .int .i64 xd, .int .i64 xs] 35)) = W2 at D2 ⊢
  have HD2 := hid D2
  clear D2
  have c1 : W2.cell? ⟨w.heap.size + 1, 1, none⟩ = some (.int .i64 (a : Int)) := HD2.out.A.cell 1
  have s1 := HD2.out.R.cs HZA.out
  rw [← HY.out] at s1
  go_quiet (fail)
  have HD3 : Hid (IX w b t 36 fv ⟨xk, (a : Int), xb, xi, xn, xr, xd, xs⟩ (W2.drewN nq)) := HD2.out.kp0 (Kp.draw _ nq)
  generalize W2.drewN nq = W3 at HD3 ⊢
  clear c1 s1
  have y30 : W3.cell? ⟨w.heap.size, 0, none⟩ = some (.int .i64 36) := HD3.out.Y.cell 0
  have y31 : W3.cell? ⟨w.heap.size, 1, none⟩ = some fv := HD3.out.Y.cell 1
  go_wp2_with (first
    | (go_at_call_of 95 (Value.int .i64 8); go_loud (refine (m_need _ fv 36 8 0 false rfl rfl).mono ?_; rintro e w4 ⟨rfl, hk4⟩; have HD4 : Hid (IX w b t 36 fv ⟨xk, (a : Int), xb, xi, xn, xr, xd, xs⟩ w4) := HD3.out.kp0 hk4; have y40 : w4.cell? ⟨w.heap.size, 0, none⟩ = some (.int .i64 36) := HD4.out.Y.cell 0; have y41 : w4.cell? ⟨w.heap.size, 1, none⟩ = some fv := HD4.out.Y.cell 1; clear hk4))
    | (go_at_call_of 95 (Value.int .i64 16); go_loud (refine (m_need _ fv 36 16 0 false rfl rfl).mono ?_; rintro e w6 ⟨rfl, hk6⟩; have HD6 : Hid (IX w b t 36 fv ⟨xk, (a : Int), xb, xi, xn, xr, xd, xs⟩ w6) := HD4.out.kp0 hk6; have y60 : w6.cell? ⟨w.heap.size, 0, none⟩ = some (.int .i64 36) := HD6.out.Y.cell 0; have y61 : w6.cell? ⟨w.heap.size, 1, none⟩ = some fv := HD6.out.Y.cell 1; clear hk6))
    | (go_at_call_of 95 (Value.int .i64 32); go_loud (refine (m_need _ fv 36 32 32 true rfl rfl).mono ?_; rintro e w7 ⟨rfl, hk7⟩; have HD7 : Hid (IX w b t 36 fv ⟨xk, (a : Int), xb, xi, xn, xr, xd, xs⟩ w7) := HD6.out.kp0 hk7; have y70 : w7.cell? ⟨w.heap.size, 0, none⟩ = some (.int .i64 36) := HD7.out.Y.cell 0; have y71 : w7.cell? ⟨w.heap.size, 1, none⟩ = some fv := HD7.out.Y.cell 1; clear hk7))
    | (go_at_call 80; go_loud (refine (m_data HD7.out.R HH.out).mono ?_; rintro e w9 ⟨v9, rfl, hv9, hk9⟩; have HV9 := hid hv9; have HK9 := hid (HD7.out.kp.chain hk9); clear hv9 hk9)))
  go_ret2
  exact ⟨_, rfl, HV9.out, HK9.out⟩
set_option maxRecDepth 100000 in
set_option maxHeartbeats 4000000 in
theorem m_idx21 (R : MR w b t) (m : Nat) (hm : m < t.n) (a : Nat) (ha : a < 16) (fv : Value) (xk xi xn xr xd xs : Int) (xb : Int) (y : Int) (hyy : y = t.sl.getD (m * 16 + a) 0) (hh : t.has y = true) :
    Calls Tryd.prog 97 #[.pointer (some ⟨b.g, 0, none⟩), .agg #[.int .i64 21, fv], .pointer (some ⟨b.sb, m * 16, none⟩), .agg #[.int .i64 xk, .int .i64 (a : Int), .int .i64 xb, .int .i64 xi, .int .i64 xn, .int .i64 xr, .int .i64 xd, .int .i64 xs]] w fun e w' => ∃ v, e = .returned (.tuple #[v, .bool true]) ∧ VS b.wv (t.obj y).f (t.obj y).r v ∧ Kp [] w w' := by
  have D2 : IX w b t 21 fv ⟨xk, (a : Int), xb, xi, xn, xr, xd, xs⟩ _ := IX.start R
  unfold MA.cells at D2
  simp only at D2
  have h4 := R.ok.n4
  have q1 : (a : Int) < 16 := by omega
  have HZA : Hid (m * 16 + a < 16 * t.n) := by show _ < _; omega
  have HY := hid hyy
  clear hyy
  have HH := hid hh
  clear hh
  clear R
  go_enter Tryd.func97, Tryd.ntmps97
  go_upto_region 1 with fail
  generalize ((w.alloc (.cells #[.int .i64 21, fv] 99)).alloc (.cells #[.int .i64 xk, .int .i64 (a : Int), .int .i64 xb, .int .i64 xi, .int .i64 xn, .int .i64 xr, .int .i64 xd, .int .i64 xs] 35)) = W2 at D2 ⊢
  have HD2 := hid D2
  clear D2
  have c1 : W2.cell? ⟨w.heap.size + 1, 1, none⟩ = some (.int .i64 (a : Int)) := HD2.out.A.cell 1
  have s1 := HD2.out.R.cs HZA.out
  rw [← HY.out] at s1
  go_quiet (fail)
  have HD3 : Hid (IX w b t 21 fv ⟨xk, (a : Int), xb, xi, xn, xr, xd, xs⟩ (W2.drewN nq)) := HD2.out.kp0 (Kp.draw _ nq)
  generalize W2.drewN nq = W3 at HD3 ⊢
  clear c1 s1
  have y30 : W3.cell? ⟨w.heap.size, 0, none⟩ = some (.int .i64 21) := HD3.out.Y.cell 0
  have y31 : W3.cell? ⟨w.heap.size, 1, none⟩ = some fv := HD3.out.Y.cell 1
  go_wp2_with (first
    | (go_at_call_of 95 (Value.int .i64 8); go_loud (refine (m_need _ fv 21 8 0 false rfl rfl).mono ?_; rintro e w4 ⟨rfl, hk4⟩; have HD4 : Hid (IX w b t 21 fv ⟨xk, (a : Int), xb, xi, xn, xr, xd, xs⟩ w4) := HD3.out.kp0 hk4; have y40 : w4.cell? ⟨w.heap.size, 0, none⟩ = some (.int .i64 21) := HD4.out.Y.cell 0; have y41 : w4.cell? ⟨w.heap.size, 1, none⟩ = some fv := HD4.out.Y.cell 1; clear hk4))
    | (go_at_call_of 95 (Value.int .i64 16); go_loud (refine (m_need _ fv 21 16 16 true rfl rfl).mono ?_; rintro e w6 ⟨rfl, hk6⟩; have HD6 : Hid (IX w b t 21 fv ⟨xk, (a : Int), xb, xi, xn, xr, xd, xs⟩ w6) := HD4.out.kp0 hk6; have y60 : w6.cell? ⟨w.heap.size, 0, none⟩ = some (.int .i64 21) := HD6.out.Y.cell 0; have y61 : w6.cell? ⟨w.heap.size, 1, none⟩ = some fv := HD6.out.Y.cell 1; clear hk6))
    | (go_at_call 70; go_loud (refine (m_refs HD6.out.R HH.out).mono ?_; rintro e w9 ⟨v9, rfl, hv9, hk9⟩; have HV9 := hid hv9; have HK9 := hid (HD6.out.kp.chain hk9); clear hv9 hk9)))
  go_ret2
  exact ⟨_, rfl, HV9.out, HK9.out⟩
set_option maxRecDepth 100000 in
set_option maxHeartbeats 4000000 in
theorem m_idx25 (R : MR w b t) (m : Nat) (hm : m < t.n) (a : Nat) (ha : a < 16) (fv : Value) (xk xi xn xr xd xs : Int) (c : Nat) (hc : c < 16) (z : Int) (hzz : z = t.sl.getD (m * 16 + c) 0) (hh : t.has z = true) :
    Calls Tryd.prog 97 #[.pointer (some ⟨b.g, 0, none⟩), .agg #[.int .i64 25, fv], .pointer (some ⟨b.sb, m * 16, none⟩), .agg #[.int .i64 xk, .int .i64 (a : Int), .int .i64 (c : Int), .int .i64 xi, .int .i64 xn, .int .i64 xr, .int .i64 xd, .int .i64 xs]] w fun e w' => ∃ v, e = .returned (.tuple #[v, .bool true]) ∧ VS b.wv (t.obj z).f (t.obj z).r v ∧ Kp [] w w' := by
  have D2 : IX w b t 25 fv ⟨xk, (a : Int), (c : Int), xi, xn, xr, xd, xs⟩ _ := IX.start R
  unfold MA.cells at D2
  simp only at D2
  have h4 := R.ok.n4
  have q1 : (a : Int) < 16 := by omega
  have HZA : Hid (m * 16 + a < 16 * t.n) := by show _ < _; omega
  have q2 : (c : Int) < 16 := by omega
  have HZC : Hid (m * 16 + c < 16 * t.n) := by show _ < _; omega
  have HZ := hid hzz
  clear hzz
  have HH := hid hh
  clear hh
  clear R
  go_enter Tryd.func97, Tryd.ntmps97
  go_upto_region 1 with fail
  generalize ((w.alloc (.cells #[.int .i64 25, fv] 99)).alloc (.cells #[.int .i64 xk, .int .i64 (a : Int), .int .i64 (c : Int), .int .i64 xi, .int .i64 xn, .int .i64 xr, .int .i64 xd, .int .i64 xs] 35)) = W2 at D2 ⊢
  have HD2 := hid D2
  clear D2
  have c1 : W2.cell? ⟨w.heap.size + 1, 1, none⟩ = some (.int .i64 (a : Int)) := HD2.out.A.cell 1
  have s1 := HD2.out.R.cs HZA.out
  generalize t.sl.getD (m * 16 + a) 0 = y at s1
  go_quiet (fail)
  have HD3 : Hid (IX w b t 25 fv ⟨xk, (a : Int), (c : Int), xi, xn, xr, xd, xs⟩ (W2.drewN nq)) := HD2.out.kp0 (Kp.draw _ nq)
  generalize W2.drewN nq = W3 at HD3 ⊢
  clear c1 s1
  have y30 : W3.cell? ⟨w.heap.size, 0, none⟩ = some (.int .i64 25) := HD3.out.Y.cell 0
  have y31 : W3.cell? ⟨w.heap.size, 1, none⟩ = some fv := HD3.out.Y.cell 1
  go_wp2_with (first
    | (go_at_call_of 95 (Value.int .i64 8); go_loud (refine (m_need _ fv 25 8 8 true rfl rfl).mono ?_; rintro e w4 ⟨rfl, hk4⟩; have HD4 : Hid (IX w b t 25 fv ⟨xk, (a : Int), (c : Int), xi, xn, xr, xd, xs⟩ w4) := HD3.out.kp0 hk4; have y40 : w4.cell? ⟨w.heap.size, 0, none⟩ = some (.int .i64 25) := HD4.out.Y.cell 0; have y41 : w4.cell? ⟨w.heap.size, 1, none⟩ = some fv := HD4.out.Y.cell 1; clear hk4)))
  have c2 : w4.cell? ⟨w.heap.size + 1, 2, none⟩ = some (.int .i64 (c : Int)) := HD4.out.A.cell 2
  have s2 := HD4.out.R.cs HZC.out
  rw [← HZ.out] at s2
  clear y30 y31 y40 y41
  go_quiet (fail)
  have HD5 : Hid (IX w b t 25 fv ⟨xk, (a : Int), (c : Int), xi, xn, xr, xd, xs⟩ (w4.drewN nq)) := HD4.out.kp0 (Kp.draw _ nq)
  generalize w4.drewN nq = w5 at HD5 ⊢
  clear c2 s2
  have y50 : w5.cell? ⟨w.heap.size, 0, none⟩ = some (.int .i64 25) := HD5.out.Y.cell 0
  have y51 : w5.cell? ⟨w.heap.size, 1, none⟩ = some fv := HD5.out.Y.cell 1
  go_wp2_with (first
    | (go_at_call_of 95 (Value.int .i64 16); go_loud (refine (m_need _ fv 25 16 16 true rfl rfl).mono ?_; rintro e w6 ⟨rfl, hk6⟩; have HD6 : Hid (IX w b t 25 fv ⟨xk, (a : Int), (c : Int), xi, xn, xr, xd, xs⟩ w6) := HD5.out.kp0 hk6; have y60 : w6.cell? ⟨w.heap.size, 0, none⟩ = some (.int .i64 25) := HD6.out.Y.cell 0; have y61 : w6.cell? ⟨w.heap.size, 1, none⟩ = some fv := HD6.out.Y.cell 1; clear hk6))
    | (go_at_call 70; go_loud (refine (m_refs HD6.out.R HH.out).mono ?_; rintro e w9 ⟨v9, rfl, hv9, hk9⟩; have HV9 := hid hv9; have HK9 := hid (HD6.out.kp.chain hk9); clear hv9 hk9)))
  go_ret2
  exact ⟨_, rfl, HV9.out, HK9.out⟩
end
end Go.Proofs.YtbiompmklijgoaaDoor
/-
  The contract of package model's checkAct, for each kind of needs, the lemmas. Conditions: those that stand in each theorem.
-/
namespace Go.Proofs.YtbiompmklijgoaaDoor
set_option linter.unusedVariables false
set_option linter.unusedSimpArgs false
open Go.RowKit Go.Deep Go.Maps

section
variable {w w' W V : World} {b b0 : MB} {t : MT}
theorem MR.fit_of (R : MR w b t) {x : Int} (h : t.has x = true) : (t.obj x).f + (t.obj x).r + (t.obj x).d ≤ t.ws.length := by
  obtain ⟨k, rfl, hk, hob⟩ := MT.has_nat h
  rw [hob]
  exact R.ok.fit k hk
theorem MR.wv_of (R : MR w b t) {i : Nat} (h : i < t.ws.length) : ∃ g n c, b.wv = .slice (some ⟨g, 0, none⟩) n c := by
  obtain ⟨g, c, h1, _⟩ := R.dat h
  exact ⟨g, _, c, h1⟩
end
end Go.Proofs.YtbiompmklijgoaaDoor
/-
  The contract of package model's Do, for each kind: where checkAct lets an act be done, and where it refuses. Conditions: those that stand in each theorem.
-/
namespace Go.Proofs.YtbiompmklijgoaaDoor
set_option linter.unusedVariables false
set_option linter.unusedSimpArgs false
open Go.RowKit Go.Deep Go.Maps

section
variable {w w' W V : World} {b b0 : MB} {t t' : MT}
theorem twoOne {x : Int} {f : Value} (hf : f.oneCell' = true) : (#[Value.int .i64 x, f] : Array Value).all (·.oneCell') = true :=
  all_oneCell_toArray (cs := [Value.int .i64 x, f]) (fun v hv => by
    simp only [List.mem_cons, List.not_mem_nil, or_false] at hv
    rcases hv with rfl | rfl
    · rfl
    · exact hf)
theorem wayInfo2 : (Tryd.prog.info? 99).map (·.size) = some 2 := by kernel_rfl
end
end Go.Proofs.YtbiompmklijgoaaDoor
/-
  The contract of package model's Do, for each kind: where checkAct lets an act be done, and where it refuses. Conditions: those that stand in each theorem.
-/
namespace Go.Proofs.YtbiompmklijgoaaDoor
set_option linter.unusedVariables false
set_option linter.unusedSimpArgs false
open Go.RowKit Go.Deep Go.Maps

section
variable {w w' W V : World} {b b0 : MB} {t t' : MT}
set_option maxRecDepth 100000 in
set_option maxHeartbeats 1000000 in
theorem m_doBad_m (R : MR w b t) (mi xk xa xb xi xn xr xd xs : Int) (hm : t.hasM mi = false) :
    Calls Tryd.prog 40 #[.pointer (some ⟨b.g, 0, none⟩), .int .i64 mi, .agg #[.int .i64 xk, .int .i64 xa, .int .i64 xb, .int .i64 xi, .int .i64 xn, .int .i64 xr, .int .i64 xd, .int .i64 xs]] w fun e w' => e = .returned (.tuple #[.agg #[.slice none 0 0, .int .i64 0, .int .i64 0, .int .i64 0, .int .i64 0, .int .i64 0, .int .i64 0], .int .i64 1]) ∧ ChgM w b t w' := by
  have D2 : DC w b b t ⟨xk, xa, xb, xi, xn, xr, xd, xs⟩ ef0 _ := DC.start R
  unfold MA.cells ef0 at D2
  simp only at D2
  have HHM := hid hm
  clear hm
  clear R
  go_enter Tryd.func40, Tryd.ntmps40
  go_upto_region 1 with fail
  generalize ((w.alloc (.cells #[.int .i64 xk, .int .i64 xa, .int .i64 xb, .int .i64 xi, .int .i64 xn, .int .i64 xr, .int .i64 xd, .int .i64 xs] 35)).alloc (.cells #[.slice none 0 0, .int .i64 0, .int .i64 0, .int .i64 0, .int .i64 0, .int .i64 0, .int .i64 0] 73)) = W2 at D2 ⊢
  have HD2 := hid D2
  clear D2
  go_wp2_with (first
    | (go_at_call 41; go_loud (refine (m_made HD2.out.R).mono ?_; rintro e w' ⟨rfl, n1, rfl⟩; have HD3 : Hid (DC w b b t ⟨xk, xa, xb, xi, xn, xr, xd, xs⟩ ef0 (W2.drewN n1)) := HD2.out.kp0 (Kp.draw _ n1)))
    | (go_at_call 73; go_loud (refine (m_ways _).mono ?_; rintro e w4 ⟨rfl, hk4⟩; have HD4 : Hid (DC w b b t ⟨xk, xa, xb, xi, xn, xr, xd, xs⟩ ef0 (w4)) := HD3.out.kp0 (hk4); obtain ⟨ht, hkn, hrn⟩ := fillN (vs := wayc) (Blk.new w4 100 #[.int .i64 0, .nilFunc, .int .i64 0, .nilFunc, .int .i64 0, .nilFunc, .int .i64 0, .nilFunc, .int .i64 0, .nilFunc, .int .i64 0, .nilFunc, .int .i64 0, .nilFunc, .int .i64 0, .nilFunc, .int .i64 0, .nilFunc, .int .i64 0, .nilFunc, .int .i64 0, .nilFunc, .int .i64 0, .nilFunc]) rfl (Kp.new w4 _) (Nat.le_refl _); have HT := hid ht; have HKN := hid hkn; clear ht hkn hrn hk4))
    | (refine wpList_store_mid (by rfl) 100 (.tmp 8) (.tmp 16) (by rfl) w4.heap.size 0 wayc (by rfl) (by rfl) HT.out wayInfo wayOne ?_; have HD5 : Hid (DC w b b t ⟨xk, xa, xb, xi, xn, xr, xd, xs⟩ ef0 ((w4.alloc (.cells #[.int .i64 0, .nilFunc, .int .i64 0, .nilFunc, .int .i64 0, .nilFunc, .int .i64 0, .nilFunc, .int .i64 0, .nilFunc, .int .i64 0, .nilFunc, .int .i64 0, .nilFunc, .int .i64 0, .nilFunc, .int .i64 0, .nilFunc, .int .i64 0, .nilFunc, .int .i64 0, .nilFunc, .int .i64 0, .nilFunc] 100)).setCells w4.heap.size 0 wayc.toList)) := HD4.out.kp0 (HKN.out); generalize (w4.alloc (.cells #[.int .i64 0, .nilFunc, .int .i64 0, .nilFunc, .int .i64 0, .nilFunc, .int .i64 0, .nilFunc, .int .i64 0, .nilFunc, .int .i64 0, .nilFunc, .int .i64 0, .nilFunc, .int .i64 0, .nilFunc, .int .i64 0, .nilFunc, .int .i64 0, .nilFunc, .int .i64 0, .nilFunc, .int .i64 0, .nilFunc] 100)).setCells w4.heap.size 0 wayc.toList = w5 at HD5 ⊢; have a50 : w5.cell? ⟨w.heap.size, 0, none⟩ = some (.int .i64 xk) := HD5.out.A.cell 0; obtain ⟨hth, hch, hrg⟩ := DC.fin (ef' := #[.slice none 0 0, .int .i64 0, .int .i64 0, .int .i64 0, .int .i64 0, .int .i64 0, .int .i64 0]) HD5.out rfl rfl; have HTH := hid hth; have HCH := hid hch; have HRG := hid hrg; clear hth hch hrg)
    | (go_at_call 59; go_loud (refine (m_hasMutator HD5.out.R _).mono ?_; rw [HHM.out]; rintro e w' ⟨rfl, rfl⟩))
    | (refine wpList_store_mid (by rfl) 73 (.tmp 6) (.tmp 31) (by rfl) (w.heap.size + 1) 0 #[.slice none 0 0, .int .i64 0, .int .i64 0, .int .i64 0, .int .i64 0, .int .i64 0, .int .i64 0] (by rfl) (by rfl) HTH.out effInfo effOne ?_))
  generalize w5.setCells (w.heap.size + 1) 0 (#[.slice none 0 0, .int .i64 0, .int .i64 0, .int .i64 0, .int .i64 0, .int .i64 0, .int .i64 0] : Array Value).toList = W9 at HCH HRG ⊢
  have g0 : W9.cell? ⟨w.heap.size + 1, 0, none⟩ = some (.slice none 0 0) := by simpa using HRG.out 0 _ rfl
  have g1 : W9.cell? ⟨w.heap.size + 1, 1, none⟩ = some (.int .i64 0) := by simpa using HRG.out 1 _ rfl
  have g2 : W9.cell? ⟨w.heap.size + 1, 2, none⟩ = some (.int .i64 0) := by simpa using HRG.out 2 _ rfl
  have g3 : W9.cell? ⟨w.heap.size + 1, 3, none⟩ = some (.int .i64 0) := by simpa using HRG.out 3 _ rfl
  have g4 : W9.cell? ⟨w.heap.size + 1, 4, none⟩ = some (.int .i64 0) := by simpa using HRG.out 4 _ rfl
  have g5 : W9.cell? ⟨w.heap.size + 1, 5, none⟩ = some (.int .i64 0) := by simpa using HRG.out 5 _ rfl
  have g6 : W9.cell? ⟨w.heap.size + 1, 6, none⟩ = some (.int .i64 0) := by simpa using HRG.out 6 _ rfl
  refine bodyPost_ret (v := .tuple #[.agg #[.slice none 0 0, .int .i64 0, .int .i64 0, .int .i64 0, .int .i64 0, .int .i64 0, .int .i64 0], .int .i64 1]) ?_ rfl ⟨rfl, HCH.out⟩
  simp [results, Tryd.results40, asAddr, Act.put, go_sem, g0, g1, g2, g3, g4, g5, g6]
set_option maxRecDepth 100000 in
set_option maxHeartbeats 1000000 in
theorem m_doBad_lo (R : MR w b t) (mi xk xa xb xi xn xr xd xs : Int) (hm : t.hasM mi = true) (hk : xk < 0) :
    Calls Tryd.prog 40 #[.pointer (some ⟨b.g, 0, none⟩), .int .i64 mi, .agg #[.int .i64 xk, .int .i64 xa, .int .i64 xb, .int .i64 xi, .int .i64 xn, .int .i64 xr, .int .i64 xd, .int .i64 xs]] w fun e w' => e = .returned (.tuple #[.agg #[.slice none 0 0, .int .i64 0, .int .i64 0, .int .i64 0, .int .i64 0, .int .i64 0, .int .i64 0], .int .i64 1]) ∧ ChgM w b t w' := by
  have D2 : DC w b b t ⟨xk, xa, xb, xi, xn, xr, xd, xs⟩ ef0 _ := DC.start R
  unfold MA.cells ef0 at D2
  simp only at D2
  have HHM := hid hm
  clear hm
  have d0 : decide (xk < 0) = true := decide_eq_true hk
  clear R
  go_enter Tryd.func40, Tryd.ntmps40
  go_upto_region 1 with fail
  generalize ((w.alloc (.cells #[.int .i64 xk, .int .i64 xa, .int .i64 xb, .int .i64 xi, .int .i64 xn, .int .i64 xr, .int .i64 xd, .int .i64 xs] 35)).alloc (.cells #[.slice none 0 0, .int .i64 0, .int .i64 0, .int .i64 0, .int .i64 0, .int .i64 0, .int .i64 0] 73)) = W2 at D2 ⊢
  have HD2 := hid D2
  clear D2
  go_wp2_with (first
    | (go_at_call 41; go_loud (refine (m_made HD2.out.R).mono ?_; rintro e w' ⟨rfl, n1, rfl⟩; have HD3 : Hid (DC w b b t ⟨xk, xa, xb, xi, xn, xr, xd, xs⟩ ef0 (W2.drewN n1)) := HD2.out.kp0 (Kp.draw _ n1)))
    | (go_at_call 73; go_loud (refine (m_ways _).mono ?_; rintro e w4 ⟨rfl, hk4⟩; have HD4 : Hid (DC w b b t ⟨xk, xa, xb, xi, xn, xr, xd, xs⟩ ef0 (w4)) := HD3.out.kp0 (hk4); obtain ⟨ht, hkn, hrn⟩ := fillN (vs := wayc) (Blk.new w4 100 #[.int .i64 0, .nilFunc, .int .i64 0, .nilFunc, .int .i64 0, .nilFunc, .int .i64 0, .nilFunc, .int .i64 0, .nilFunc, .int .i64 0, .nilFunc, .int .i64 0, .nilFunc, .int .i64 0, .nilFunc, .int .i64 0, .nilFunc, .int .i64 0, .nilFunc, .int .i64 0, .nilFunc, .int .i64 0, .nilFunc]) rfl (Kp.new w4 _) (Nat.le_refl _); have HT := hid ht; have HKN := hid hkn; clear ht hkn hrn hk4))
    | (refine wpList_store_mid (by rfl) 100 (.tmp 8) (.tmp 16) (by rfl) w4.heap.size 0 wayc (by rfl) (by rfl) HT.out wayInfo wayOne ?_; have HD5 : Hid (DC w b b t ⟨xk, xa, xb, xi, xn, xr, xd, xs⟩ ef0 ((w4.alloc (.cells #[.int .i64 0, .nilFunc, .int .i64 0, .nilFunc, .int .i64 0, .nilFunc, .int .i64 0, .nilFunc, .int .i64 0, .nilFunc, .int .i64 0, .nilFunc, .int .i64 0, .nilFunc, .int .i64 0, .nilFunc, .int .i64 0, .nilFunc, .int .i64 0, .nilFunc, .int .i64 0, .nilFunc, .int .i64 0, .nilFunc] 100)).setCells w4.heap.size 0 wayc.toList)) := HD4.out.kp0 (HKN.out); generalize (w4.alloc (.cells #[.int .i64 0, .nilFunc, .int .i64 0, .nilFunc, .int .i64 0, .nilFunc, .int .i64 0, .nilFunc, .int .i64 0, .nilFunc, .int .i64 0, .nilFunc, .int .i64 0, .nilFunc, .int .i64 0, .nilFunc, .int .i64 0, .nilFunc, .int .i64 0, .nilFunc, .int .i64 0, .nilFunc, .int .i64 0, .nilFunc] 100)).setCells w4.heap.size 0 wayc.toList = w5 at HD5 ⊢; have a50 : w5.cell? ⟨w.heap.size, 0, none⟩ = some (.int .i64 xk) := HD5.out.A.cell 0; obtain ⟨hth, hch, hrg⟩ := DC.fin (ef' := #[.slice none 0 0, .int .i64 0, .int .i64 0, .int .i64 0, .int .i64 0, .int .i64 0, .int .i64 0]) HD5.out rfl rfl; have HTH := hid hth; have HCH := hid hch; have HRG := hid hrg; clear hth hch hrg)
    | (go_at_call 59; go_loud (refine (m_hasMutator HD5.out.R _).mono ?_; rw [HHM.out]; rintro e w' ⟨rfl, rfl⟩))
    | (refine wpList_store_mid (by rfl) 73 (.tmp 6) (.tmp 31) (by rfl) (w.heap.size + 1) 0 #[.slice none 0 0, .int .i64 0, .int .i64 0, .int .i64 0, .int .i64 0, .int .i64 0, .int .i64 0] (by rfl) (by rfl) HTH.out effInfo effOne ?_))
  generalize w5.setCells (w.heap.size + 1) 0 (#[.slice none 0 0, .int .i64 0, .int .i64 0, .int .i64 0, .int .i64 0, .int .i64 0, .int .i64 0] : Array Value).toList = W9 at HCH HRG ⊢
  have g0 : W9.cell? ⟨w.heap.size + 1, 0, none⟩ = some (.slice none 0 0) := by simpa using HRG.out 0 _ rfl
  have g1 : W9.cell? ⟨w.heap.size + 1, 1, none⟩ = some (.int .i64 0) := by simpa using HRG.out 1 _ rfl
  have g2 : W9.cell? ⟨w.heap.size + 1, 2, none⟩ = some (.int .i64 0) := by simpa using HRG.out 2 _ rfl
  have g3 : W9.cell? ⟨w.heap.size + 1, 3, none⟩ = some (.int .i64 0) := by simpa using HRG.out 3 _ rfl
  have g4 : W9.cell? ⟨w.heap.size + 1, 4, none⟩ = some (.int .i64 0) := by simpa using HRG.out 4 _ rfl
  have g5 : W9.cell? ⟨w.heap.size + 1, 5, none⟩ = some (.int .i64 0) := by simpa using HRG.out 5 _ rfl
  have g6 : W9.cell? ⟨w.heap.size + 1, 6, none⟩ = some (.int .i64 0) := by simpa using HRG.out 6 _ rfl
  refine bodyPost_ret (v := .tuple #[.agg #[.slice none 0 0, .int .i64 0, .int .i64 0, .int .i64 0, .int .i64 0, .int .i64 0, .int .i64 0], .int .i64 1]) ?_ rfl ⟨rfl, HCH.out⟩
  simp [results, Tryd.results40, asAddr, Act.put, go_sem, g0, g1, g2, g3, g4, g5, g6]
set_option maxRecDepth 100000 in
set_option maxHeartbeats 1000000 in
theorem m_doBad_hi (R : MR w b t) (mi xk xa xb xi xn xr xd xs : Int) (hm : t.hasM mi = true) (hk : 12 ≤ xk) :
    Calls Tryd.prog 40 #[.pointer (some ⟨b.g, 0, none⟩), .int .i64 mi, .agg #[.int .i64 xk, .int .i64 xa, .int .i64 xb, .int .i64 xi, .int .i64 xn, .int .i64 xr, .int .i64 xd, .int .i64 xs]] w fun e w' => e = .returned (.tuple #[.agg #[.slice none 0 0, .int .i64 0, .int .i64 0, .int .i64 0, .int .i64 0, .int .i64 0, .int .i64 0], .int .i64 1]) ∧ ChgM w b t w' := by
  have D2 : DC w b b t ⟨xk, xa, xb, xi, xn, xr, xd, xs⟩ ef0 _ := DC.start R
  unfold MA.cells ef0 at D2
  simp only at D2
  have HHM := hid hm
  clear hm
  have d0 : decide (xk < 0) = false := decide_eq_false (by omega)
  have d1 : decide ((12 : Int) ≤ xk) = true := decide_eq_true hk
  clear R
  go_enter Tryd.func40, Tryd.ntmps40
  go_upto_region 1 with fail
  generalize ((w.alloc (.cells #[.int .i64 xk, .int .i64 xa, .int .i64 xb, .int .i64 xi, .int .i64 xn, .int .i64 xr, .int .i64 xd, .int .i64 xs] 35)).alloc (.cells #[.slice none 0 0, .int .i64 0, .int .i64 0, .int .i64 0, .int .i64 0, .int .i64 0, .int .i64 0] 73)) = W2 at D2 ⊢
  have HD2 := hid D2
  clear D2
  go_wp2_with (first
    | (go_at_call 41; go_loud (refine (m_made HD2.out.R).mono ?_; rintro e w' ⟨rfl, n1, rfl⟩; have HD3 : Hid (DC w b b t ⟨xk, xa, xb, xi, xn, xr, xd, xs⟩ ef0 (W2.drewN n1)) := HD2.out.kp0 (Kp.draw _ n1)))
    | (go_at_call 73; go_loud (refine (m_ways _).mono ?_; rintro e w4 ⟨rfl, hk4⟩; have HD4 : Hid (DC w b b t ⟨xk, xa, xb, xi, xn, xr, xd, xs⟩ ef0 (w4)) := HD3.out.kp0 (hk4); obtain ⟨ht, hkn, hrn⟩ := fillN (vs := wayc) (Blk.new w4 100 #[.int .i64 0, .nilFunc, .int .i64 0, .nilFunc, .int .i64 0, .nilFunc, .int .i64 0, .nilFunc, .int .i64 0, .nilFunc, .int .i64 0, .nilFunc, .int .i64 0, .nilFunc, .int .i64 0, .nilFunc, .int .i64 0, .nilFunc, .int .i64 0, .nilFunc, .int .i64 0, .nilFunc, .int .i64 0, .nilFunc]) rfl (Kp.new w4 _) (Nat.le_refl _); have HT := hid ht; have HKN := hid hkn; clear ht hkn hrn hk4))
    | (refine wpList_store_mid (by rfl) 100 (.tmp 8) (.tmp 16) (by rfl) w4.heap.size 0 wayc (by rfl) (by rfl) HT.out wayInfo wayOne ?_; have HD5 : Hid (DC w b b t ⟨xk, xa, xb, xi, xn, xr, xd, xs⟩ ef0 ((w4.alloc (.cells #[.int .i64 0, .nilFunc, .int .i64 0, .nilFunc, .int .i64 0, .nilFunc, .int .i64 0, .nilFunc, .int .i64 0, .nilFunc, .int .i64 0, .nilFunc, .int .i64 0, .nilFunc, .int .i64 0, .nilFunc, .int .i64 0, .nilFunc, .int .i64 0, .nilFunc, .int .i64 0, .nilFunc, .int .i64 0, .nilFunc] 100)).setCells w4.heap.size 0 wayc.toList)) := HD4.out.kp0 (HKN.out); generalize (w4.alloc (.cells #[.int .i64 0, .nilFunc, .int .i64 0, .nilFunc, .int .i64 0, .nilFunc, .int .i64 0, .nilFunc, .int .i64 0, .nilFunc, .int .i64 0, .nilFunc, .int .i64 0, .nilFunc, .int .i64 0, .nilFunc, .int .i64 0, .nilFunc, .int .i64 0, .nilFunc, .int .i64 0, .nilFunc, .int .i64 0, .nilFunc] 100)).setCells w4.heap.size 0 wayc.toList = w5 at HD5 ⊢; have a50 : w5.cell? ⟨w.heap.size, 0, none⟩ = some (.int .i64 xk) := HD5.out.A.cell 0; obtain ⟨hth, hch, hrg⟩ := DC.fin (ef' := #[.slice none 0 0, .int .i64 0, .int .i64 0, .int .i64 0, .int .i64 0, .int .i64 0, .int .i64 0]) HD5.out rfl rfl; have HTH := hid hth; have HCH := hid hch; have HRG := hid hrg; clear hth hch hrg)
    | (go_at_call 59; go_loud (refine (m_hasMutator HD5.out.R _).mono ?_; rw [HHM.out]; rintro e w' ⟨rfl, rfl⟩))
    | (refine wpList_store_mid (by rfl) 73 (.tmp 6) (.tmp 31) (by rfl) (w.heap.size + 1) 0 #[.slice none 0 0, .int .i64 0, .int .i64 0, .int .i64 0, .int .i64 0, .int .i64 0, .int .i64 0] (by rfl) (by rfl) HTH.out effInfo effOne ?_))
  generalize w5.setCells (w.heap.size + 1) 0 (#[.slice none 0 0, .int .i64 0, .int .i64 0, .int .i64 0, .int .i64 0, .int .i64 0, .int .i64 0] : Array Value).toList = W9 at HCH HRG ⊢
  have g0 : W9.cell? ⟨w.heap.size + 1, 0, none⟩ = some (.slice none 0 0) := by simpa using HRG.out 0 _ rfl
  have g1 : W9.cell? ⟨w.heap.size + 1, 1, none⟩ = some (.int .i64 0) := by simpa using HRG.out 1 _ rfl
  have g2 : W9.cell? ⟨w.heap.size + 1, 2, none⟩ = some (.int .i64 0) := by simpa using HRG.out 2 _ rfl
  have g3 : W9.cell? ⟨w.heap.size + 1, 3, none⟩ = some (.int .i64 0) := by simpa using HRG.out 3 _ rfl
  have g4 : W9.cell? ⟨w.heap.size + 1, 4, none⟩ = some (.int .i64 0) := by simpa using HRG.out 4 _ rfl
  have g5 : W9.cell? ⟨w.heap.size + 1, 5, none⟩ = some (.int .i64 0) := by simpa using HRG.out 5 _ rfl
  have g6 : W9.cell? ⟨w.heap.size + 1, 6, none⟩ = some (.int .i64 0) := by simpa using HRG.out 6 _ rfl
  refine bodyPost_ret (v := .tuple #[.agg #[.slice none 0 0, .int .i64 0, .int .i64 0, .int .i64 0, .int .i64 0, .int .i64 0, .int .i64 0], .int .i64 1]) ?_ rfl ⟨rfl, HCH.out⟩
  simp [results, Tryd.results40, asAddr, Act.put, go_sem, g0, g1, g2, g3, g4, g5, g6]
end
end Go.Proofs.YtbiompmklijgoaaDoor
