/-
  A heap that nobody made: the contracts of package heap's and the document's functions. Conditions: those that stand in each theorem.
-/
import Derived.Test.YtkhemendnoeciaaGreatNa
namespace Go.Proofs.YtkhemendnoeciaaGreat
set_option linter.unusedVariables false
set_option linter.unusedSimpArgs false
open Go.RowKit Go.Deep Go.Maps
attribute [local go_sem] Oper.semAt_some

section
variable {w w' : World} {v : Value}
set_option maxRecDepth 100000 in
theorem n_space (h : NoH w v) (a : Int) : Calls Tryz.prog 15 #[v, .int .i64 a] w fun e w' => e = .returned (.int .i64 (-1)) ∧ Kp [] w w' := by
  have HB := hid h
  go_enter Tryz.func15, Tryz.ntmps15
  go_wp2_with (fail)
  refine (n_made HB.out ).mono ?_
  rintro e w1 ⟨rfl, K1⟩
  have HK := hid K1
  clear K1
  go_wp2
  go_ret
  exact ⟨rfl, HK.out⟩
set_option maxRecDepth 100000 in
theorem n_all (h : NoH w v) : Calls Tryz.prog 16 #[v] w fun e w' => e = .returned (.slice none 0 0) ∧ Kp [] w w' := by
  have HB := hid h
  go_enter Tryz.func16, Tryz.ntmps16
  go_wp2_with (fail)
  refine (n_made HB.out ).mono ?_
  rintro e w1 ⟨rfl, K1⟩
  have HK := hid K1
  clear K1
  go_wp2
  go_ret
  exact ⟨rfl, HK.out⟩
set_option maxRecDepth 100000 in
theorem n_gaps (h : NoH w v) (a : Int) : Calls Tryz.prog 17 #[v, .int .i64 a] w fun e w' => e = .returned (.slice none 0 0) ∧ Kp [] w w' := by
  have HB := hid h
  go_enter Tryz.func17, Tryz.ntmps17
  go_wp2_with (fail)
  refine (n_state HB.out a).mono ?_
  rintro e w1 ⟨rfl, K1⟩
  have HK := hid K1
  clear K1
  go_wp2
  go_ret
  exact ⟨rfl, HK.out⟩
set_option maxRecDepth 100000 in
theorem n_lines (h : NoH w v) (a : Int) : Calls Tryz.prog 18 #[v, .int .i64 a] w fun e w' => e = .returned (.slice none 0 0) ∧ Kp [] w w' := by
  have HB := hid h
  go_enter Tryz.func18, Tryz.ntmps18
  go_wp2_with (fail)
  refine (n_state HB.out a).mono ?_
  rintro e w1 ⟨rfl, K1⟩
  have HK := hid K1
  clear K1
  go_wp2
  go_ret
  exact ⟨rfl, HK.out⟩
set_option maxRecDepth 100000 in
theorem n_blocks (h : NoH w v) : Calls Tryz.prog 19 #[v] w fun e w' => e = .returned (.int .i64 0) ∧ Kp [] w w' := by
  have HB := hid h
  go_enter Tryz.func19, Tryz.ntmps19
  go_wp2_with (fail)
  refine (n_made HB.out ).mono ?_
  rintro e w1 ⟨rfl, K1⟩
  have HK := hid K1
  clear K1
  go_wp2
  go_ret
  exact ⟨rfl, HK.out⟩
set_option maxRecDepth 100000 in
theorem n_births (h : NoH w v) : Calls Tryz.prog 20 #[v] w fun e w' => e = .returned (.int .i64 0) ∧ Kp [] w w' := by
  have HB := hid h
  go_enter Tryz.func20, Tryz.ntmps20
  go_wp2_with (fail)
  refine (n_made HB.out ).mono ?_
  rintro e w1 ⟨rfl, K1⟩
  have HK := hid K1
  clear K1
  go_wp2
  go_ret
  exact ⟨rfl, HK.out⟩
set_option maxRecDepth 100000 in
theorem n_used (h : NoH w v) : Calls Tryz.prog 21 #[v] w fun e w' => e = .returned (.int .i64 0) ∧ Kp [] w w' := by
  have HB := hid h
  go_enter Tryz.func21, Tryz.ntmps21
  go_wp2_with (fail)
  refine (n_made HB.out ).mono ?_
  rintro e w1 ⟨rfl, K1⟩
  have HK := hid K1
  clear K1
  go_wp2
  go_ret
  exact ⟨rfl, HK.out⟩
set_option maxRecDepth 100000 in
theorem n_clone (h : NoH w v) : Calls Tryz.prog 9 #[v] w fun e w' => e = .returned (.pointer none) ∧ Kp [] w w' := by
  have HB := hid h
  go_enter Tryz.func9, Tryz.ntmps9
  go_wp2_with (fail)
  refine (n_made HB.out ).mono ?_
  rintro e w1 ⟨rfl, K1⟩
  have HK := hid K1
  clear K1
  go_wp2
  go_ret
  exact ⟨rfl, HK.out⟩
set_option maxRecDepth 100000 in
set_option maxHeartbeats 3000000 in
theorem looks_none (h : NoH w v) (n : Int) : Calls Tryz.prog 13 #[v, .pointer none, .int .i64 n] w fun e w' => e = .returned (.bool true) ∧ Kp [] w w' := by
  have HN0 := hid h
  have HK0 := hid (Kp.refl [] w)
  clear h
  go_enter Tryz.func13, Tryz.ntmps13
  go_wp2_with (fail)
  refine (n_word HN0.out n).mono ?_
  rintro e w1 ⟨rfl, K1⟩
  have HN1 := hid (HN0.out.kp0 K1)
  have HK1 := hid (HK0.out.chain K1)
  clear K1
  go_wp2_with (fail)
  refine (u_word _ n).mono ?_
  rintro e w2 ⟨rfl, K2⟩
  have HN2 := hid (HN1.out.kp0 K2)
  have HK2 := hid (HK1.out.chain K2)
  clear K2
  go_wp2_with (fail)
  refine (n_has HN2.out n).mono ?_
  rintro e w3 ⟨rfl, K3⟩
  have HN3 := hid (HN2.out.kp0 K3)
  have HK3 := hid (HK2.out.chain K3)
  clear K3
  go_wp2_with (fail)
  refine (u_has _ n).mono ?_
  rintro e w4 ⟨rfl, K4⟩
  have HN4 := hid (HN3.out.kp0 K4)
  have HK4 := hid (HK3.out.chain K4)
  clear K4
  go_wp2_with (fail)
  refine (n_pinned HN4.out n).mono ?_
  rintro e w5 ⟨rfl, K5⟩
  have HN5 := hid (HN4.out.kp0 K5)
  have HK5 := hid (HK4.out.chain K5)
  clear K5
  go_wp2_with (fail)
  refine (u_pinned _ n).mono ?_
  rintro e w6 ⟨rfl, K6⟩
  have HN6 := hid (HN5.out.kp0 K6)
  have HK6 := hid (HK5.out.chain K6)
  clear K6
  go_wp2_with (fail)
  refine (n_find HN6.out n).mono ?_
  rintro e w7 ⟨rfl, K7⟩
  have HN7 := hid (HN6.out.kp0 K7)
  have HK7 := hid (HK6.out.chain K7)
  clear K7
  go_wp2_with (fail)
  refine (u_find _ n).mono ?_
  rintro e w8 ⟨rfl, K8⟩
  have HN8 := hid (HN7.out.kp0 K8)
  have HK8 := hid (HK7.out.chain K8)
  clear K8
  go_wp2_with (fail)
  refine (n_forward HN8.out n).mono ?_
  rintro e w9 ⟨rfl, K9⟩
  have HN9 := hid (HN8.out.kp0 K9)
  have HK9 := hid (HK8.out.chain K9)
  clear K9
  go_wp2_with (fail)
  refine (u_forward _ n).mono ?_
  rintro e w10 ⟨rfl, K10⟩
  have HN10 := hid (HN9.out.kp0 K10)
  have HK10 := hid (HK9.out.chain K10)
  clear K10
  go_wp2_with (fail)
  refine (n_ident HN10.out n).mono ?_
  rintro e w11 ⟨rfl, K11⟩
  have HN11 := hid (HN10.out.kp0 K11)
  have HK11 := hid (HK10.out.chain K11)
  clear K11
  go_wp2_with (fail)
  refine (u_ident _ n).mono ?_
  rintro e w12 ⟨rfl, K12⟩
  have HN12 := hid (HN11.out.kp0 K12)
  have HK12 := hid (HK11.out.chain K12)
  clear K12
  go_wp2_with (fail)
  refine (n_shape HN12.out n).mono ?_
  rintro e w13 ⟨rfl, K13⟩
  have HN13 := hid (HN12.out.kp0 K13)
  have HK13 := hid (HK12.out.chain K13)
  clear K13
  have B0 := Blk.new w13 33 #[.int .i64 0, .int .i64 0, .int .i64 0]
  have f0 := B0.frozen 0
  have f1 := B0.frozen 1
  have f2 := B0.frozen 2
  have hKA := Kp.new w13 (.cells #[.int .i64 0, .int .i64 0, .int .i64 0] 33)
  go_wp2_with (fail)
  generalize (w13.alloc (.cells #[.int .i64 0, .int .i64 0, .int .i64 0] 33)) = WA at *
  refine (u_shape _ n).mono ?_
  rintro e wB ⟨rfl, KB⟩
  have HNB := hid ((HN13.out.kp0 hKA).kp0 KB)
  have HKB := hid ((HK13.out.chain hKA).chain KB)
  have hba := B0.kp KB (by simp)
  clear KB hKA B0 f0 f1 f2
  have hKC := Kp.new wB (.cells #[.int .i64 0, .int .i64 0, .int .i64 0] 33)
  have hbc := Blk.new wB 33 #[.int .i64 0, .int .i64 0, .int .i64 0]
  have hbb := hba.kp hKC (by simp)
  have f0 := hbc.frozen 0
  have f1 := hbc.frozen 1
  have f2 := hbc.frozen 2
  have c0 := hbb.cell 0
  have c1 := hbb.cell 1
  have c2 := hbb.cell 2
  have d0 := hbc.cell 0
  have d1 := hbc.cell 1
  have d2 := hbc.cell 2
  have HNC := hid (HNB.out.kp0 hKC)
  have HKC := hid (HKB.out.chain hKC)
  have HBC := hid hbc
  clear hba hbb hbc hKC
  go_wp2
  go_loopw [7, 8, 9, 10, 13] (fun s7 s8 s9 s10 s13 wr => s7 = .int .i64 0 ∧ s8 = .int .i64 5 ∧ s9 = .int .i64 0 ∧ s10 = .int .i64 5 ∧ ∃ i : Int, s13 = .int .i64 i ∧ -1 ≤ i ∧ i ≤ 1 ∧ NoH wr v ∧ Kp [] w wr ∧ Blk wr wB.heap.size 33 #[.int .i64 0, .int .i64 0, .int .i64 0]) (fun _ _ _ _ s13 _ => (1 - intOf s13).toNat)
  case atStart => exact ⟨rfl, rfl, rfl, rfl, -1, rfl, by omega, by omega, HNC.out, HKC.out, HBC.out⟩
  case round =>
    obtain ⟨rfl, rfl, rfl, rfl, i, rfl, hi1, hi2, hn, hk, hb⟩ := hrel
    have HI := hid hn
    have HJ := hid hk
    have HB := hid hb
    have e0 := hb.cell 0
    have e1 := hb.cell 1
    clear hn hk hb c0 c1 c2 d0 d1 d2 f0 f1 f2
    by_cases hlt : i ≤ 0
    · have dl : decide (i ≤ 0) = true := decide_eq_true hlt
      go_wp2_with (fail)
      refine (n_ref HI.out n i).mono ?_
      rintro e x1 ⟨rfl, K1⟩
      have HI1 := hid (HI.out.kp0 K1)
      have HJ1 := hid (HJ.out.chain K1)
      have HB1 := hid (HB.out.kp K1 (by simp))
      clear K1 e0 e1
      go_wp2_with (fail)
      refine (u_ref _ n i).mono ?_
      rintro e x2 ⟨rfl, K2⟩
      have HI2 := hid (HI1.out.kp0 K2)
      have HJ2 := hid (HJ1.out.chain K2)
      have HB2 := hid (HB1.out.kp K2 (by simp))
      clear K2
      go_wp2
      go_roundw
      case rel => exact ⟨rfl, rfl, rfl, rfl, i + 1, by go_num, by omega, by omega, HI2.out, HJ2.out, HB2.out⟩
      case measure => simp [intOf]; omega
    · have dl : decide (i ≤ 0) = false := decide_eq_false hlt
      go_wp2
      clear e0 e1
      go_loopw [7, 8, 9, 10, 14] (fun s7 s8 s9 s10 s14 wr => s7 = .int .i64 0 ∧ s8 = .int .i64 5 ∧ s9 = .int .i64 0 ∧ s10 = .int .i64 5 ∧ ∃ j : Int, s14 = .int .i64 j ∧ -1 ≤ j ∧ j ≤ 1 ∧ NoH wr v ∧ Kp [] w wr ∧ Blk wr wB.heap.size 33 #[.int .i64 0, .int .i64 0, .int .i64 0]) (fun _ _ _ _ s14 _ => (1 - intOf s14).toNat)
      case atStart => exact ⟨rfl, rfl, rfl, rfl, -1, rfl, by omega, by omega, HI.out, HJ.out, HB.out⟩
      case round =>
        obtain ⟨rfl, rfl, rfl, rfl, j, rfl, hj1, hj2, hn2, hk2, hb2⟩ := hrel
        have HI0 := hid hn2
        have HJ0 := hid hk2
        have HB0 := hid hb2
        have e0 := hb2.cell 0
        have e1 := hb2.cell 1
        clear hn2 hk2 hb2
        by_cases hjt : j ≤ 0
        · have dj : decide (j ≤ 0) = true := decide_eq_true hjt
          go_wp2_with (fail)
          refine (n_data HI0.out n j).mono ?_
          rintro e x1 ⟨rfl, K1⟩
          have HI1 := hid (HI0.out.kp0 K1)
          have HJ1 := hid (HJ0.out.chain K1)
          have HB1 := hid (HB0.out.kp K1 (by simp))
          clear K1 e0 e1
          go_wp2_with (fail)
          refine (u_data _ n j).mono ?_
          rintro e x2 ⟨rfl, K2⟩
          have HI2 := hid (HI1.out.kp0 K2)
          have HJ2 := hid (HJ1.out.chain K2)
          have HB2 := hid (HB1.out.kp K2 (by simp))
          clear K2
          go_wp2
          go_roundw
          case rel => exact ⟨rfl, rfl, rfl, rfl, j + 1, by go_num, by omega, by omega, HI2.out, HJ2.out, HB2.out⟩
          case measure => simp [intOf]; omega
        · have dj : decide (j ≤ 0) = false := decide_eq_false hjt
          go_wp2
          go_ret
          exact ⟨rfl, HJ0.out⟩
end
end Go.Proofs.YtkhemendnoeciaaGreat
