/-
  A heap that nobody made: the contracts of package heap's and the document's functions. Conditions: those that stand in each theorem.
-/
import Derived.Test.YtkkmlllajfafcaaGreatPNa
import Derived.BigQuiet
import Derived.Test.YtkkmlllajfafcaaGreatPG20
import Derived.Test.YtkkmlllajfafcaaGreatPG16
import Derived.Test.YtkkmlllajfafcaaGreatPG21
import Derived.Test.YtkkmlllajfafcaaGreatPG23
namespace Go.Proofs.YtkkmlllajfafcaaGreat
set_option linter.unusedVariables false
set_option linter.unusedSimpArgs false
open Go.RowKit Go.Deep Go.Maps
attribute [local go_sem] Oper.semAt_some

section
variable {w w' : World} {v : Value}
set_option maxRecDepth 100000 in
theorem n_space (h : NoH w v) (a : Int) : Calls Tryz.prog 36 #[v, .int .i64 a] w fun e w' => e = .returned (.int .i64 (-1)) ∧ Kp [] w w' := by
  have HB := hid h
  go_enter Tryz.func36, Tryz.ntmps36
  go_wp2_with (fail)
  refine (n_made HB.out ).mono ?_
  rintro e w1 ⟨rfl, K1⟩
  have HK := hid K1
  clear K1
  go_wp2
  go_ret
  exact ⟨rfl, HK.out⟩
set_option maxRecDepth 100000 in
theorem n_all (h : NoH w v) : Calls Tryz.prog 86 #[v] w fun e w' => e = .returned (.slice none 0 0) ∧ Kp [] w w' := by
  have HB := hid h
  go_enter Tryz.func86, Tryz.ntmps86
  go_wp2_with (fail)
  refine (n_made HB.out ).mono ?_
  rintro e w1 ⟨rfl, K1⟩
  have HK := hid K1
  clear K1
  go_wp2
  go_ret
  exact ⟨rfl, HK.out⟩
set_option maxRecDepth 100000 in
theorem n_gaps (h : NoH w v) (a : Int) : Calls Tryz.prog 45 #[v, .int .i64 a] w fun e w' => e = .returned (.slice none 0 0) ∧ Kp [] w w' := by
  have HB := hid h
  go_enter Tryz.func45, Tryz.ntmps45
  go_wp2_with (fail)
  refine (n_state HB.out a).mono ?_
  rintro e w1 ⟨rfl, K1⟩
  have HK := hid K1
  clear K1
  go_wp2
  go_ret
  exact ⟨rfl, HK.out⟩
set_option maxRecDepth 100000 in
theorem n_lines (h : NoH w v) (a : Int) : Calls Tryz.prog 39 #[v, .int .i64 a] w fun e w' => e = .returned (.slice none 0 0) ∧ Kp [] w w' := by
  have HB := hid h
  go_enter Tryz.func39, Tryz.ntmps39
  go_wp2_with (fail)
  refine (n_state HB.out a).mono ?_
  rintro e w1 ⟨rfl, K1⟩
  have HK := hid K1
  clear K1
  go_wp2
  go_ret
  exact ⟨rfl, HK.out⟩
set_option maxRecDepth 100000 in
theorem n_blocks (h : NoH w v) : Calls Tryz.prog 40 #[v] w fun e w' => e = .returned (.int .i64 0) ∧ Kp [] w w' := by
  have HB := hid h
  go_enter Tryz.func40, Tryz.ntmps40
  go_wp2_with (fail)
  refine (n_made HB.out ).mono ?_
  rintro e w1 ⟨rfl, K1⟩
  have HK := hid K1
  clear K1
  go_wp2
  go_ret
  exact ⟨rfl, HK.out⟩
set_option maxRecDepth 100000 in
theorem n_births (h : NoH w v) : Calls Tryz.prog 30 #[v] w fun e w' => e = .returned (.int .i64 0) ∧ Kp [] w w' := by
  have HB := hid h
  go_enter Tryz.func30, Tryz.ntmps30
  go_wp2_with (fail)
  refine (n_made HB.out ).mono ?_
  rintro e w1 ⟨rfl, K1⟩
  have HK := hid K1
  clear K1
  go_wp2
  go_ret
  exact ⟨rfl, HK.out⟩
set_option maxRecDepth 100000 in
theorem n_used (h : NoH w v) : Calls Tryz.prog 83 #[v] w fun e w' => e = .returned (.int .i64 0) ∧ Kp [] w w' := by
  have HB := hid h
  go_enter Tryz.func83, Tryz.ntmps83
  go_wp2_with (fail)
  refine (n_made HB.out ).mono ?_
  rintro e w1 ⟨rfl, K1⟩
  have HK := hid K1
  clear K1
  go_wp2
  go_ret
  exact ⟨rfl, HK.out⟩
set_option maxRecDepth 100000 in
theorem n_clone (h : NoH w v) : Calls Tryz.prog 14 #[v] w fun e w' => e = .returned (.pointer none) ∧ Kp [] w w' := by
  have HB := hid h
  go_enter Tryz.func14, Tryz.ntmps14
  go_wp2_with (fail)
  refine (n_made HB.out ).mono ?_
  rintro e w1 ⟨rfl, K1⟩
  have HK := hid K1
  clear K1
  go_wp2
  go_ret
  exact ⟨rfl, HK.out⟩
set_option maxRecDepth 100000 in
set_option maxHeartbeats 3000000 in
theorem looks_none (h : NoH w v) (n : Int) : Calls Tryz.prog 95 #[v, .pointer none, .int .i64 n] w fun e w' => e = .returned (.bool true) ∧ Kp [] w w' := by
  have HN0 := hid h
  have HK0 := hid (Kp.refl [] w)
  clear h
  go_enter Tryz.func95, Tryz.ntmps95
  go_wp2_with (fail)
  refine (n_word HN0.out n).mono ?_
  rintro e w1 ⟨rfl, K1⟩
  have HN1 := hid (HN0.out.kp0 K1)
  have HK1 := hid (HK0.out.chain K1)
  clear K1
  go_wp2_with (fail)
  refine (u_word _ n).mono ?_
  rintro e w2 ⟨rfl, K2⟩
  have HN2 := hid (HN1.out.kp0 K2)
  have HK2 := hid (HK1.out.chain K2)
  clear K2
  go_wp2_with (fail)
  refine (n_has HN2.out n).mono ?_
  rintro e w3 ⟨rfl, K3⟩
  have HN3 := hid (HN2.out.kp0 K3)
  have HK3 := hid (HK2.out.chain K3)
  clear K3
  go_wp2_with (fail)
  refine (u_has _ n).mono ?_
  rintro e w4 ⟨rfl, K4⟩
  have HN4 := hid (HN3.out.kp0 K4)
  have HK4 := hid (HK3.out.chain K4)
  clear K4
  go_wp2_with (fail)
  refine (n_pinned HN4.out n).mono ?_
  rintro e w5 ⟨rfl, K5⟩
  have HN5 := hid (HN4.out.kp0 K5)
  have HK5 := hid (HK4.out.chain K5)
  clear K5
  go_wp2_with (fail)
  refine (u_pinned _ n).mono ?_
  rintro e w6 ⟨rfl, K6⟩
  have HN6 := hid (HN5.out.kp0 K6)
  have HK6 := hid (HK5.out.chain K6)
  clear K6
  go_wp2_with (fail)
  refine (n_find HN6.out n).mono ?_
  rintro e w7 ⟨rfl, K7⟩
  have HN7 := hid (HN6.out.kp0 K7)
  have HK7 := hid (HK6.out.chain K7)
  clear K7
  go_wp2_with (fail)
  refine (u_find _ n).mono ?_
  rintro e w8 ⟨rfl, K8⟩
  have HN8 := hid (HN7.out.kp0 K8)
  have HK8 := hid (HK7.out.chain K8)
  clear K8
  go_wp2_with (fail)
  refine (n_forward HN8.out n).mono ?_
  rintro e w9 ⟨rfl, K9⟩
  have HN9 := hid (HN8.out.kp0 K9)
  have HK9 := hid (HK8.out.chain K9)
  clear K9
  go_wp2_with (fail)
  refine (u_forward _ n).mono ?_
  rintro e w10 ⟨rfl, K10⟩
  have HN10 := hid (HN9.out.kp0 K10)
  have HK10 := hid (HK9.out.chain K10)
  clear K10
  go_wp2_with (fail)
  refine (n_ident HN10.out n).mono ?_
  rintro e w11 ⟨rfl, K11⟩
  have HN11 := hid (HN10.out.kp0 K11)
  have HK11 := hid (HK10.out.chain K11)
  clear K11
  go_wp2_with (fail)
  refine (u_ident _ n).mono ?_
  rintro e w12 ⟨rfl, K12⟩
  have HN12 := hid (HN11.out.kp0 K12)
  have HK12 := hid (HK11.out.chain K12)
  clear K12
  go_wp2_with (fail)
  refine (n_shape HN12.out n).mono ?_
  rintro e w13 ⟨rfl, K13⟩
  have HN13 := hid (HN12.out.kp0 K13)
  have HK13 := hid (HK12.out.chain K13)
  clear K13
  have B0 := Blk.new w13 33 #[.int .i64 0, .int .i64 0, .int .i64 0]
  have f0 := B0.frozen 0
  have f1 := B0.frozen 1
  have f2 := B0.frozen 2
  have hKA := Kp.new w13 (.cells #[.int .i64 0, .int .i64 0, .int .i64 0] 33)
  go_wp2_with (fail)
  generalize (w13.alloc (.cells #[.int .i64 0, .int .i64 0, .int .i64 0] 33)) = WA at *
  refine (u_shape _ n).mono ?_
  rintro e wB ⟨rfl, KB⟩
  have HNB := hid ((HN13.out.kp0 hKA).kp0 KB)
  have HKB := hid ((HK13.out.chain hKA).chain KB)
  have hba := B0.kp KB (by simp)
  clear KB hKA B0 f0 f1 f2
  have hKC := Kp.new wB (.cells #[.int .i64 0, .int .i64 0, .int .i64 0] 33)
  have hbc := Blk.new wB 33 #[.int .i64 0, .int .i64 0, .int .i64 0]
  have hbb := hba.kp hKC (by simp)
  have f0 := hbc.frozen 0
  have f1 := hbc.frozen 1
  have f2 := hbc.frozen 2
  have c0 := hbb.cell 0
  have c1 := hbb.cell 1
  have c2 := hbb.cell 2
  have d0 := hbc.cell 0
  have d1 := hbc.cell 1
  have d2 := hbc.cell 2
  have HNC := hid (HNB.out.kp0 hKC)
  have HKC := hid (HKB.out.chain hKC)
  have HBC := hid hbc
  clear hba hbb hbc hKC
  go_wp2
  go_loopw [7, 8, 9, 10, 13] (fun s7 s8 s9 s10 s13 wr => s7 = .int .i64 0 ∧ s8 = .int .i64 5 ∧ s9 = .int .i64 0 ∧ s10 = .int .i64 5 ∧ ∃ i : Int, s13 = .int .i64 i ∧ -1 ≤ i ∧ i ≤ 1 ∧ NoH wr v ∧ Kp [] w wr ∧ Blk wr wB.heap.size 33 #[.int .i64 0, .int .i64 0, .int .i64 0]) (fun _ _ _ _ s13 _ => (1 - intOf s13).toNat)
  case atStart => exact ⟨rfl, rfl, rfl, rfl, -1, rfl, by omega, by omega, HNC.out, HKC.out, HBC.out⟩
  case round =>
    obtain ⟨rfl, rfl, rfl, rfl, i, rfl, hi1, hi2, hn, hk, hb⟩ := hrel
    have HI := hid hn
    have HJ := hid hk
    have HB := hid hb
    have e0 := hb.cell 0
    have e1 := hb.cell 1
    clear hn hk hb c0 c1 c2 d0 d1 d2 f0 f1 f2
    by_cases hlt : i ≤ 0
    · have dl : decide (i ≤ 0) = true := decide_eq_true hlt
      go_wp2_with (fail)
      refine (n_ref HI.out n i).mono ?_
      rintro e x1 ⟨rfl, K1⟩
      have HI1 := hid (HI.out.kp0 K1)
      have HJ1 := hid (HJ.out.chain K1)
      have HB1 := hid (HB.out.kp K1 (by simp))
      clear K1 e0 e1
      go_wp2_with (fail)
      refine (u_ref _ n i).mono ?_
      rintro e x2 ⟨rfl, K2⟩
      have HI2 := hid (HI1.out.kp0 K2)
      have HJ2 := hid (HJ1.out.chain K2)
      have HB2 := hid (HB1.out.kp K2 (by simp))
      clear K2
      go_wp2
      go_roundw
      case rel => exact ⟨rfl, rfl, rfl, rfl, i + 1, by go_num, by omega, by omega, HI2.out, HJ2.out, HB2.out⟩
      case measure => simp [intOf]; omega
    · have dl : decide (i ≤ 0) = false := decide_eq_false hlt
      go_wp2
      clear e0 e1
      go_loopw [7, 8, 9, 10, 14] (fun s7 s8 s9 s10 s14 wr => s7 = .int .i64 0 ∧ s8 = .int .i64 5 ∧ s9 = .int .i64 0 ∧ s10 = .int .i64 5 ∧ ∃ j : Int, s14 = .int .i64 j ∧ -1 ≤ j ∧ j ≤ 1 ∧ NoH wr v ∧ Kp [] w wr ∧ Blk wr wB.heap.size 33 #[.int .i64 0, .int .i64 0, .int .i64 0]) (fun _ _ _ _ s14 _ => (1 - intOf s14).toNat)
      case atStart => exact ⟨rfl, rfl, rfl, rfl, -1, rfl, by omega, by omega, HI.out, HJ.out, HB.out⟩
      case round =>
        obtain ⟨rfl, rfl, rfl, rfl, j, rfl, hj1, hj2, hn2, hk2, hb2⟩ := hrel
        have HI0 := hid hn2
        have HJ0 := hid hk2
        have HB0 := hid hb2
        have e0 := hb2.cell 0
        have e1 := hb2.cell 1
        clear hn2 hk2 hb2
        by_cases hjt : j ≤ 0
        · have dj : decide (j ≤ 0) = true := decide_eq_true hjt
          go_wp2_with (fail)
          refine (n_data HI0.out n j).mono ?_
          rintro e x1 ⟨rfl, K1⟩
          have HI1 := hid (HI0.out.kp0 K1)
          have HJ1 := hid (HJ0.out.chain K1)
          have HB1 := hid (HB0.out.kp K1 (by simp))
          clear K1 e0 e1
          go_wp2_with (fail)
          refine (u_data _ n j).mono ?_
          rintro e x2 ⟨rfl, K2⟩
          have HI2 := hid (HI1.out.kp0 K2)
          have HJ2 := hid (HJ1.out.chain K2)
          have HB2 := hid (HB1.out.kp K2 (by simp))
          clear K2
          go_wp2
          go_roundw
          case rel => exact ⟨rfl, rfl, rfl, rfl, j + 1, by go_num, by omega, by omega, HI2.out, HJ2.out, HB2.out⟩
          case measure => simp [intOf]; omega
        · have dj : decide (j ≤ 0) = false := decide_eq_false hjt
          go_wp2
          go_ret
          exact ⟨rfl, HJ0.out⟩
end
end Go.Proofs.YtkkmlllajfafcaaGreat
/-
  The law's Same where there are no heaps. Conditions: those that stand in each theorem.
-/
namespace Go.Proofs.YtkkmlllajfafcaaGreat
set_option linter.unusedVariables false
set_option linter.unusedSimpArgs false
open Go.RowKit Go.Deep Go.Maps

section
variable {w w' W : World} {v : Value}
theorem u_blocks (w : World) : Calls Tryz.prog 81 #[.pointer none] w fun e w' => e = .returned (.int .i64 0) ∧ Kp [] w w' := by
  go_enter Tryz.func81, Tryz.ntmps81
  go_wp2_with (go_at_call 60; refine (u_made _).mono ?_; rintro e w1 ⟨rfl, K1⟩; have HK1 := hid K1; clear K1)
  go_ret
  exact ⟨rfl, by first | exact HK1.out | exact HK1.out.chain (Kp.refl _ _)⟩
theorem u_births (w : World) : Calls Tryz.prog 82 #[.pointer none] w fun e w' => e = .returned (.int .i64 0) ∧ Kp [] w w' := by
  go_enter Tryz.func82, Tryz.ntmps82
  go_wp2_with (go_at_call 60; refine (u_made _).mono ?_; rintro e w1 ⟨rfl, K1⟩; have HK1 := hid K1; clear K1)
  go_ret
  exact ⟨rfl, by first | exact HK1.out | exact HK1.out.chain (Kp.refl _ _)⟩
theorem u_used (w : World) : Calls Tryz.prog 84 #[.pointer none] w fun e w' => e = .returned (.int .i64 0) ∧ Kp [] w w' := by
  go_enter Tryz.func84, Tryz.ntmps84
  go_wp2
  go_loopw [3, 4] (fun s c wr => c = .int .i64 0 ∧ s = .int .i64 0 ∧ Kp [] w wr) (fun _ _ _ => 0)
  case atStart => exact ⟨rfl, rfl, Kp.refl _ _⟩
  case round =>
    obtain ⟨rfl, rfl, K⟩ := hrel
    have HK := hid K
    clear K
    go_wp2_with (go_at_call 60; refine (u_made _).mono ?_; rintro e w1 ⟨rfl, K1⟩; have HK1 := hid (HK.out.chain K1); clear K1)
    go_ret
    exact ⟨rfl, HK1.out⟩
theorem u_all (w : World) : Calls Tryz.prog 87 #[.pointer none] w fun e w' => e = .returned (.slice none 0 0) ∧ Kp [] w w' := by
  go_enter Tryz.func87, Tryz.ntmps87
  go_wp2
  go_loopw [3, 4] (fun s c wr => c = .int .i64 0 ∧ s = .slice none 0 0 ∧ Kp [] w wr) (fun _ _ _ => 0)
  case atStart => exact ⟨rfl, rfl, Kp.refl _ _⟩
  case round =>
    obtain ⟨rfl, rfl, K⟩ := hrel
    have HK := hid K
    clear K
    go_wp2_with (go_at_call 60; refine (u_made _).mono ?_; rintro e w1 ⟨rfl, K1⟩; have HK1 := hid (HK.out.chain K1); clear K1)
    go_ret
    exact ⟨rfl, HK1.out⟩
theorem u_state (w : World) (a : Int) : Calls Tryz.prog 88 #[.pointer none, .int .i64 a] w fun e w' => e = .returned (.int .i64 (-1)) ∧ Kp [] w w' := by
  go_enter Tryz.func88, Tryz.ntmps88
  go_wp2_with (go_at_call 60; refine (u_made _).mono ?_; rintro e w1 ⟨rfl, K1⟩; have HK1 := hid K1; clear K1)
  go_ret
  exact ⟨rfl, by first | exact HK1.out | exact HK1.out.chain (Kp.refl _ _)⟩
theorem u_space (w : World) (a : Int) : Calls Tryz.prog 89 #[.pointer none, .int .i64 a] w fun e w' => e = .returned (.int .i64 (-1)) ∧ Kp [] w w' := by
  go_enter Tryz.func89, Tryz.ntmps89
  go_wp2_with (go_at_call 60; refine (u_made _).mono ?_; rintro e w1 ⟨rfl, K1⟩; have HK1 := hid K1; clear K1)
  go_ret
  exact ⟨rfl, by first | exact HK1.out | exact HK1.out.chain (Kp.refl _ _)⟩
theorem u_objects (w : World) (a : Int) : Calls Tryz.prog 91 #[.pointer none, .int .i64 a] w fun e w' => e = .returned (.slice none 0 0) ∧ Kp [] w w' := by
  go_enter Tryz.func91, Tryz.ntmps91
  go_wp2
  go_loopw [5, 6] (fun s c wr => c = .int .i64 0 ∧ s = .slice none 0 0 ∧ Kp [] w wr) (fun _ _ _ => 0)
  case atStart => exact ⟨rfl, rfl, Kp.refl _ _⟩
  case round =>
    obtain ⟨rfl, rfl, K⟩ := hrel
    have HK := hid K
    clear K
    go_wp2_with (go_at_call 60; refine (u_made _).mono ?_; rintro e w1 ⟨rfl, K1⟩; have HK1 := hid (HK.out.chain K1); clear K1)
    go_ret
    exact ⟨rfl, HK1.out⟩
theorem u_gaps (w : World) (a : Int) : Calls Tryz.prog 92 #[.pointer none, .int .i64 a] w fun e w' => e = .returned (.slice none 0 0) ∧ Kp [] w w' := by
  go_enter Tryz.func92, Tryz.ntmps92
  go_wp2_with (first | (go_at_call 60; refine (u_made _).mono ?_; rintro e w1 ⟨rfl, K1⟩; have HK1 := hid K1; clear K1) | (go_at_call 88; refine (u_state _ _).mono ?_; rintro e w1 ⟨rfl, K1⟩; have HK1 := hid K1; clear K1))
  go_ret
  exact ⟨rfl, by first | exact HK1.out | exact HK1.out.chain (Kp.refl _ _)⟩
theorem u_lines (w : World) (a : Int) : Calls Tryz.prog 94 #[.pointer none, .int .i64 a] w fun e w' => e = .returned (.slice none 0 0) ∧ Kp [] w w' := by
  go_enter Tryz.func94, Tryz.ntmps94
  go_wp2_with (first | (go_at_call 60; refine (u_made _).mono ?_; rintro e w1 ⟨rfl, K1⟩; have HK1 := hid K1; clear K1) | (go_at_call 88; refine (u_state _ _).mono ?_; rintro e w1 ⟨rfl, K1⟩; have HK1 := hid K1; clear K1))
  go_ret
  exact ⟨rfl, by first | exact HK1.out | exact HK1.out.chain (Kp.refl _ _)⟩
theorem u_at (w : World) (a : Int) : Calls Tryz.prog 96 #[.pointer none, .int .i64 a] w fun e w' => e = .returned (.tuple #[.int .i64 0, .int .i64 5]) ∧ Kp [] w w' := by
  go_enter Tryz.func96, Tryz.ntmps96
  go_wp2_with (go_at_call 60; refine (u_made _).mono ?_; rintro e w1 ⟨rfl, K1⟩; have HK1 := hid K1; clear K1)
  go_ret2
  exact ⟨rfl, by first | exact HK1.out | exact HK1.out.chain (Kp.refl _ _)⟩
theorem n_objects (h : NoH w v) (a : Int) : Calls Tryz.prog 90 #[v, .int .i64 a] w fun e w' => e = .returned (.slice none 0 0) ∧ Kp [] w w' := by
  have HN := hid h
  clear h
  go_enter Tryz.func90, Tryz.ntmps90
  go_wp2_with (go_at_call 55; refine (n_made HN.out).mono ?_; rintro e w1 ⟨rfl, K1⟩; have HK1 := hid K1; clear K1)
  go_ret
  exact ⟨rfl, HK1.out⟩
theorem n_at (h : NoH w v) (a : Int) : Calls Tryz.prog 49 #[v, .int .i64 a] w fun e w' => e = .returned (.tuple #[.int .i64 0, .int .i64 5]) ∧ Kp [] w w' := by
  have HN := hid h
  clear h
  go_enter Tryz.func49, Tryz.ntmps49
  go_wp2_with (go_at_call 55; refine (n_made HN.out).mono ?_; rintro e w1 ⟨rfl, K1⟩; have HK1 := hid K1; clear K1)
  go_ret2
  exact ⟨rfl, HK1.out⟩
end
end Go.Proofs.YtkkmlllajfafcaaGreat
/-
  The law's Same of no heaps; HeapPlays where New refuses. Conditions: those that stand in each theorem.
-/
namespace Go.Proofs.YtkkmlllajfafcaaGreat
set_option linter.unusedVariables false
set_option linter.unusedSimpArgs false
open Go.RowKit Go.Deep Go.Maps

section
variable {w w' W : World}
theorem far_nil (w : World) : FarI w 0 (.slice none 0 0) [] := FarI.of_own ⟨rfl, .inl ⟨rfl, rfl⟩⟩
theorem runs_nil (w : World) : RunsAt w (.slice none 0 0) [] := ⟨none, 0, rfl, fun i hi => by simp at hi⟩
set_option maxRecDepth 100000 in
set_option maxHeartbeats 2000000 in
theorem same_nil (w : World) : Calls Tryz.prog 17 #[.pointer none, .pointer none] w fun e w' => e = .returned (.bool true) ∧ Kp [] w w' := by
  have HK0 : Hid (Kp [] w w) := Kp.refl _ _
  go_enter Tryz.func17, Tryz.ntmps17
  go_wp2_with (first
    | (go_at_call 40; refine (n_blocks (Or.inl rfl)).mono ?_; rintro e w1 ⟨rfl, h1⟩; have HK1 := hid (HK0.out.chain h1); clear h1)
        | (go_at_call 81; refine (u_blocks _).mono ?_; rintro e w2 ⟨rfl, h2⟩; have HK2 := hid (HK1.out.chain h2); clear h2)
        | (go_at_call 30; refine (n_births (Or.inl rfl)).mono ?_; rintro e w3 ⟨rfl, h3⟩; have HK3 := hid (HK2.out.chain h3); clear h3)
        | (go_at_call 82; refine (u_births _).mono ?_; rintro e w4 ⟨rfl, h4⟩; have HK4 := hid (HK3.out.chain h4); clear h4)
        | (go_at_call 83; refine (n_used (Or.inl rfl)).mono ?_; rintro e w5 ⟨rfl, h5⟩; have HK5 := hid (HK4.out.chain h5); clear h5)
        | (go_at_call 84; refine (u_used _).mono ?_; rintro e w6 ⟨rfl, h6⟩; have HK6 := hid (HK5.out.chain h6); clear h6)
        | (go_at_call 86; refine (n_all (Or.inl rfl)).mono ?_; rintro e w7 ⟨rfl, h7⟩; have HK7 := hid (HK6.out.chain h7); clear h7)
        | (go_at_call 87; refine (u_all _).mono ?_; rintro e w8 ⟨rfl, h8⟩; have HK8 := hid (HK7.out.chain h8); clear h8)
        | (go_at_call 85; refine (ints_yes (far_nil _) (far_nil _) (by simp)).mono ?_; rintro e w9 ⟨rfl, h9⟩; have HK9 := hid (HK8.out.chain (Kp.of_drewN h9)); clear h9))
  go_loopw [5] (fun c wr => ∃ k : Nat, k ≤ 2 ∧ c = .int .i64 ((k : Int) - 1) ∧ Kp [] w wr) (fun c _ => 2 - (intOf c + 1).toNat)
  case atStart => exact ⟨0, by omega, by first | rfl | go_num, HK9.out⟩
  case round =>
    obtain ⟨k, hk, rfl, K⟩ := hrel
    have HKW := hid K
    clear K
    by_cases hlt : k < 2
    · have e1 : decide ((k : Int) - 1 ≤ 0) = true := decide_eq_true (by omega)
      go_wp2_with (first
        | (go_at_call 81; refine (u_blocks _).mono ?_; rintro e w11 ⟨rfl, h11⟩; have HK11 := hid (HKW.out.chain h11); clear h11)
            | (go_at_call 41; refine (n_state (Or.inl rfl) _).mono ?_; rintro e w12 ⟨rfl, h12⟩; have HK12 := hid (HK11.out.chain h12); clear h12)
            | (go_at_call 88; refine (u_state _ _).mono ?_; rintro e w13 ⟨rfl, h13⟩; have HK13 := hid (HK12.out.chain h13); clear h13)
            | (go_at_call 36; refine (n_space (Or.inl rfl) _).mono ?_; rintro e w14 ⟨rfl, h14⟩; have HK14 := hid (HK13.out.chain h14); clear h14)
            | (go_at_call 89; refine (u_space _ _).mono ?_; rintro e w15 ⟨rfl, h15⟩; have HK15 := hid (HK14.out.chain h15); clear h15)
            | (go_at_call 90; refine (n_objects (Or.inl rfl) _).mono ?_; rintro e w16 ⟨rfl, h16⟩; have HK16 := hid (HK15.out.chain h16); clear h16)
            | (go_at_call 91; refine (u_objects _ _).mono ?_; rintro e w17 ⟨rfl, h17⟩; have HK17 := hid (HK16.out.chain h17); clear h17)
            | (go_at_call 85; refine (ints_yes (far_nil _) (far_nil _) (by simp)).mono ?_; rintro e w18 ⟨rfl, h18⟩; have HK18 := hid (HK17.out.chain (Kp.of_drewN h18)); clear h18)
            | (go_at_call 45; refine (n_gaps (Or.inl rfl) _).mono ?_; rintro e w19 ⟨rfl, h19⟩; have HK19 := hid (HK18.out.chain h19); clear h19)
            | (go_at_call 92; refine (u_gaps _ _).mono ?_; rintro e w20 ⟨rfl, h20⟩; have HK20 := hid (HK19.out.chain h20); clear h20)
            | (go_at_call 53; refine (sameRuns_yes (runs_nil _) (runs_nil _) (by simp)).mono ?_; rintro e w21 ⟨rfl, h21⟩; have HK21 := hid (HK20.out.chain (Kp.of_drewN h21)); clear h21)
            | (go_at_call 39; refine (n_lines (Or.inl rfl) _).mono ?_; rintro e w22 ⟨rfl, h22⟩; have HK22 := hid (HK21.out.chain h22); clear h22)
            | (go_at_call 94; refine (u_lines _ _).mono ?_; rintro e w23 ⟨rfl, h23⟩; have HK23 := hid (HK22.out.chain h23); clear h23)
            | (go_at_call 93; refine (bools_yes (boolsNone _) (boolsNone _) (by simp)).mono ?_; rintro e w24 ⟨rfl, h24⟩; have HK24 := hid (HK23.out.chain (Kp.of_drewN h24)); clear h24))
      go_roundw
      case rel => exact ⟨k + 1, by omega, by go_num, HK24.out⟩
      case measure => simp [intOf]; omega
    · obtain rfl : k = 2 := by omega
      go_wp2_with (go_at_call 81; refine (u_blocks _).mono ?_; rintro e w11 ⟨rfl, h11⟩; have HK11 := hid (HKW.out.chain h11); clear h11)
      go_loopw [6] (fun c wr => ∃ k : Nat, k ≤ 2 ∧ c = .int .i64 ((k : Int) - 1) ∧ Kp [] w wr) (fun c _ => 2 - (intOf c + 1).toNat)
      case atStart => exact ⟨0, by omega, by first | rfl | go_num, HK11.out⟩
      case round =>
        obtain ⟨k, hk, rfl, K⟩ := hrel
        have HKV := hid K
        clear K
        by_cases hlt : k < 2
        · have e1 : decide ((k : Int) - 1 ≤ 0) = true := decide_eq_true (by omega)
          go_wp2_with (first
            | (go_at_call 81; refine (u_blocks _).mono ?_; rintro e w31 ⟨rfl, h31⟩; have HK31 := hid (HKV.out.chain h31); clear h31)
                | (go_at_call 88; refine (u_state _ _).mono ?_; rintro e w32 ⟨rfl, h32⟩; have HK32 := hid (HK31.out.chain h32); clear h32)
                | (go_at_call 95; refine (looks_none (Or.inl rfl) _).mono ?_; rintro e w33 ⟨rfl, h33⟩; have HK33 := hid (HK32.out.chain h33); clear h33))
          go_roundw
          case rel => exact ⟨k + 1, by omega, by go_num, HK33.out⟩
          case measure => simp [intOf]; omega
        · obtain rfl : k = 2 := by omega
          go_wp2_with (go_at_call 81; refine (u_blocks _).mono ?_; rintro e w31 ⟨rfl, h31⟩; have HK31 := hid (HKV.out.chain h31); clear h31)
          go_loopw [7, 8, 9, 10, 11] (fun c _ _ _ _ wr => ∃ k : Nat, k ≤ 3 ∧ c = .int .i64 ((k : Int) - 1) ∧ Kp [] w wr) (fun c _ _ _ _ _ => 3 - (intOf c + 1).toNat)
          case atStart => exact ⟨0, by omega, by first | rfl | go_num, HK31.out⟩
          case round =>
            obtain ⟨k, hk, rfl, K⟩ := hrel
            have HKU := hid K
            clear K
            by_cases hlt : k < 3
            · have e1 : decide ((k : Int) - 1 ≤ 1) = true := decide_eq_true (by omega)
              go_wp2_with (first
                | (go_at_call 82; refine (u_births _).mono ?_; rintro e w41 ⟨rfl, h41⟩; have HK41 := hid (HKU.out.chain h41); clear h41)
                    | (go_at_call 49; refine (n_at (Or.inl rfl) _).mono ?_; rintro e w42 ⟨rfl, h42⟩; have HK42 := hid (HK41.out.chain h42); clear h42)
                    | (go_at_call 96; refine (u_at _ _).mono ?_; rintro e w43 ⟨rfl, h43⟩; have HK43 := hid (HK42.out.chain h43); clear h43))
              go_roundw
              case rel => first | exact ⟨k + 1, by omega, by go_num, HK43.out⟩ | ((repeat apply Exists.intro); exact ⟨⟨k + 1, by omega, by go_num, HK43.out⟩, rfl⟩)
              case measure => simp [intOf]; omega
            · obtain rfl : k = 3 := by omega
              go_wp2_with (go_at_call 82; refine (u_births _).mono ?_; rintro e w41 ⟨rfl, h41⟩; have HK41 := hid (HKU.out.chain h41); clear h41)
              go_ret
              exact ⟨rfl, HK41.out⟩
theorem plays_refused (n : Int) (A : Option Addr) (len cap : Nat) (hg : len ≤ 60) (hn : ¬ (2 ≤ n ∧ n ≤ 64)) :
    Calls Tryz.prog 3 #[.int .i64 n, .slice A len cap] w (TrueP w) := by
  have HG := hid (show decide (60 < len) = false from decide_eq_false (by omega))
  have HB := hid hn
  by_cases h12 : 12 < n
  · have h64 : 64 < n := by omega
    clear hn
    go_enter Tryz.func3, Tryz.ntmps3
    go_wp2_with (first
      | (go_at_call 10; refine (h_great _ _ _).mono ?_; rintro e w1 ⟨rfl, h1⟩; rw [HG.out]; have HK1 := hid (Kp.of_drewN h1); clear h1)
      | (go_at_call 12; refine (h_new_bad n _ HB.out).mono ?_; rintro e w2 ⟨rfl, h2⟩; have HK2 := hid (HK1.out.chain (Kp.of_drewN h2)); clear h2)
      | (go_at_call 13; refine (d_new_bad n _ HB.out).mono ?_; rintro e w3 ⟨rfl, h3⟩; have HK3 := hid (HK2.out.chain (Kp.of_drewN h3)); clear h3))
    go_loopw [5, 7, 9] (fun hh tt c wr => c = .int .i64 0 ∧ hh = .pointer none ∧ tt = .pointer none ∧ Kp [] w wr) (fun _ _ _ _ => 0)
    case atStart => exact ⟨rfl, rfl, rfl, HK3.out⟩
    case round =>
      obtain ⟨rfl, rfl, rfl, K⟩ := hrel
      have HKW := hid K
      clear K
      by_cases hl : 0 < len
      · go_wp2_with (first
          | (go_at_call 17; refine (same_nil _).mono ?_; rintro e w7 ⟨rfl, K7⟩; have HK7 := hid (HKW.out.chain K7); clear K7)
          | (go_at_call 11; refine (alive_ok _).mono ?_; rintro e w8 ⟨rfl, K8⟩; have HK8 := hid (HK7.out.chain K8); clear K8))
        go_ret
        exact ⟨rfl, HK8.out⟩
      · obtain rfl : len = 0 := by omega
        go_wp2_with (first
          | (go_at_call 17; refine (same_nil _).mono ?_; rintro e w7 ⟨rfl, K7⟩; have HK7 := hid (HKW.out.chain K7); clear K7)
          | (go_at_call 11; refine (alive_ok _).mono ?_; rintro e w8 ⟨rfl, K8⟩; have HK8 := hid (HK7.out.chain K8); clear K8))
        go_ret
        exact ⟨rfl, HK8.out⟩
  · have h2 : n < 2 := by omega
    clear hn
    go_enter Tryz.func3, Tryz.ntmps3
    go_wp2_with (first
      | (go_at_call 10; refine (h_great _ _ _).mono ?_; rintro e w1 ⟨rfl, h1⟩; rw [HG.out]; have HK1 := hid (Kp.of_drewN h1); clear h1)
      | (go_at_call 12; refine (h_new_bad n _ HB.out).mono ?_; rintro e w2 ⟨rfl, h2⟩; have HK2 := hid (HK1.out.chain (Kp.of_drewN h2)); clear h2)
      | (go_at_call 13; refine (d_new_bad n _ HB.out).mono ?_; rintro e w3 ⟨rfl, h3⟩; have HK3 := hid (HK2.out.chain (Kp.of_drewN h3)); clear h3))
    go_loopw [5, 7, 9] (fun hh tt c wr => c = .int .i64 0 ∧ hh = .pointer none ∧ tt = .pointer none ∧ Kp [] w wr) (fun _ _ _ _ => 0)
    case atStart => exact ⟨rfl, rfl, rfl, HK3.out⟩
    case round =>
      obtain ⟨rfl, rfl, rfl, K⟩ := hrel
      have HKW := hid K
      clear K
      by_cases hl : 0 < len
      · go_wp2_with (first
          | (go_at_call 17; refine (same_nil _).mono ?_; rintro e w7 ⟨rfl, K7⟩; have HK7 := hid (HKW.out.chain K7); clear K7)
          | (go_at_call 11; refine (alive_ok _).mono ?_; rintro e w8 ⟨rfl, K8⟩; have HK8 := hid (HK7.out.chain K8); clear K8))
        go_ret
        exact ⟨rfl, HK8.out⟩
      · obtain rfl : len = 0 := by omega
        go_wp2_with (first
          | (go_at_call 17; refine (same_nil _).mono ?_; rintro e w7 ⟨rfl, K7⟩; have HK7 := hid (HKW.out.chain K7); clear K7)
          | (go_at_call 11; refine (alive_ok _).mono ?_; rintro e w8 ⟨rfl, K8⟩; have HK8 := hid (HK7.out.chain K8); clear K8))
        go_ret
        exact ⟨rfl, HK8.out⟩
end
end Go.Proofs.YtkkmlllajfafcaaGreat
/-
  The law HeapPlays, walked. Conditions: those that stand in each theorem.
-/
namespace Go.Proofs.YtkkmlllajfafcaaGreat
set_option linter.unusedVariables false
set_option linter.unusedSimpArgs false
open Go.RowKit Go.Deep Go.Maps

section
variable {w : World}
theorem heap_plays (n : Int) (A : Option Addr) (len cap : Nat) (hA : PActs w A len) :
    Calls Tryz.prog 3 #[.int .i64 n, .slice A len cap] w (TrueP w) := by
  by_cases hg : 60 < len
  · exact plays_great n A len cap hg
  · by_cases h1 : 2 ≤ n ∧ n ≤ 64
    · by_cases h2 : 12 < n
      · exact plays_wide n A len cap (by omega) h2 h1.2
      · obtain ⟨k, rfl⟩ : ∃ k : Nat, n = (k : Int) := ⟨n.toNat, by omega⟩
        exact plays_main (fun W d p m T hp => d_clone W d p m T hp) k A len cap (by omega) (by omega) (by omega) hA
    · exact plays_refused n A len cap (by omega) h1
end
end Go.Proofs.YtkkmlllajfafcaaGreat
