/-
  HeapNone's walk. Conditions: those that stand in each theorem.
-/
import Derived.Test.YtkhemendnoeciaaGreatNb
import Derived.Test.YtkhemendnoeciaaGreatNc
namespace Go.Proofs.YtkhemendnoeciaaGreat
set_option linter.unusedVariables false
set_option linter.unusedSimpArgs false
open Go.RowKit Go.Deep Go.Maps

section
variable {w w' : World}
set_option maxRecDepth 100000 in
theorem zeroHeap (w : World) : (zeroValue 46).run Tryz.prog w = .ok (.agg #[.slice none 0 0, .slice none 0 0, .pointer none, .pointer none, .map none, .map none, .int .i64 0]) w := by kernel_rfl
set_option maxRecDepth 100000 in
set_option maxHeartbeats 3000000 in
theorem heap_none (HAL : ∀ w, Calls Tryz.prog 6 #[] w (TrueP w)) (k a b c r d s : Int) :
    Calls Tryz.prog 4 #[.agg #[.int .i64 k, .int .i64 a, .int .i64 b, .int .i64 c, .int .i64 r, .int .i64 d, .int .i64 s]] w (TrueP w) := by
  have hz := zeroHeap
  have HA := hid HAL
  have b1 := Blk.new w 35 #[.int .i64 k, .int .i64 a, .int .i64 b, .int .i64 c, .int .i64 r, .int .i64 d, .int .i64 s]
  have k1 := Kp.new w (.cells #[.int .i64 k, .int .i64 a, .int .i64 b, .int .i64 c, .int .i64 r, .int .i64 d, .int .i64 s] 35)
  have b2 := Blk.new (w.alloc (.cells #[.int .i64 k, .int .i64 a, .int .i64 b, .int .i64 c, .int .i64 r, .int .i64 d, .int .i64 s] 35)) 46 #[.slice none 0 0, .slice none 0 0, .pointer none, .pointer none, .map none, .map none, .int .i64 0]
  have k2 := Kp.new (w.alloc (.cells #[.int .i64 k, .int .i64 a, .int .i64 b, .int .i64 c, .int .i64 r, .int .i64 d, .int .i64 s] 35)) (.cells #[.slice none 0 0, .slice none 0 0, .pointer none, .pointer none, .map none, .map none, .int .i64 0] 46)
  rw [World.size_alloc] at b2
  have b3 := b1.kp k2 (by simp)
  have c0 := b3.cell 0
  have c1 := b3.cell 1
  have c2 := b3.cell 2
  have c3 := b3.cell 3
  have c4 := b3.cell 4
  have c5 := b3.cell 5
  have c6 := b3.cell 6
  have HK0 := hid (k1.chain k2)
  have HB0 := hid b3
  have HZ0 : Hid (NoH ((w.alloc (.cells #[.int .i64 k, .int .i64 a, .int .i64 b, .int .i64 c, .int .i64 r, .int .i64 d, .int .i64 s] 35)).alloc (.cells #[.slice none 0 0, .slice none 0 0, .pointer none, .pointer none, .map none, .map none, .int .i64 0] 46)) (.pointer (some ⟨w.heap.size + 1, 0, none⟩))) := .inr ⟨_, rfl, b2.cell 0⟩
  have HPN : Hid (∀ W v, NoH W v → Calls Tryz.prog 11 #[v, .pointer none, .agg #[.int .i64 k, .int .i64 a, .int .i64 b, .int .i64 c, .int .i64 r, .int .i64 d, .int .i64 s]] W fun e w' => e = .returned (.bool true) ∧ Kp [] W w') := fun W v h => play_none h k a b c r d s
  clear HAL b1 k1 b2 k2 b3
  go_enter Tryz.func4, Tryz.ntmps4
  go_wp2_with (fail)
  generalize ((w.alloc (.cells #[.int .i64 k, .int .i64 a, .int .i64 b, .int .i64 c, .int .i64 r, .int .i64 d, .int .i64 s] 35)).alloc (.cells #[.slice none 0 0, .slice none 0 0, .pointer none, .pointer none, .map none, .map none, .int .i64 0] 46)) = w0 at *
  generalize w.heap.size + 1 = gz at *
  refine (HPN.out _ _ (.inl rfl)).mono ?_
  rintro e x0 ⟨rfl, K0⟩
  have HK1 := hid (HK0.out.chain K0)
  have HZ1 := hid (HZ0.out.kp0 K0)
  have bb := HB0.out.kp K0 (by simp)
  clear c0 c1 c2 c3 c4 c5 c6
  have c0 := bb.cell 0
  have c1 := bb.cell 1
  have c2 := bb.cell 2
  have c3 := bb.cell 3
  have c4 := bb.cell 4
  have c5 := bb.cell 5
  have c6 := bb.cell 6
  have HB1 := hid bb
  clear K0 bb
  go_wp2_with (fail)
  refine (HPN.out _ _ HZ1.out).mono ?_
  rintro e x1 ⟨rfl, K1⟩
  have HK2 := hid (HK1.out.chain K1)
  have HZ2 := hid (HZ1.out.kp0 K1)
  have bb := HB1.out.kp K1 (by simp)
  clear c0 c1 c2 c3 c4 c5 c6
  have c1 := bb.cell 1
  have HB2 := hid bb
  clear K1 bb
  go_wp2_with (fail)
  refine (looks_none (w := _) (.inl rfl) a).mono ?_
  rintro e x2 ⟨rfl, K2⟩
  have HK3 := hid (HK2.out.chain K2)
  have HZ3 := hid (HZ2.out.kp0 K2)
  have bb := HB2.out.kp K2 (by simp)
  clear c1
  have c1 := bb.cell 1
  have HB3 := hid bb
  clear K2 bb
  go_wp2_with (fail)
  refine (looks_none (w := _) HZ3.out a).mono ?_
  rintro e x3 ⟨rfl, K3⟩
  have HK4 := hid (HK3.out.chain K3)
  have HZ4 := hid (HZ3.out.kp0 K3)
  have bb := HB3.out.kp K3 (by simp)
  clear c1
  have c1 := bb.cell 1
  have HB4 := hid bb
  clear K3 bb
  go_wp2_with (fail)
  refine (n_state (w := _) (.inl rfl) a).mono ?_
  rintro e x4 ⟨rfl, K4⟩
  have HK5 := hid (HK4.out.chain K4)
  have HZ5 := hid (HZ4.out.kp0 K4)
  have bb := HB4.out.kp K4 (by simp)
  clear c1
  have c1 := bb.cell 1
  have HB5 := hid bb
  clear K4 bb
  go_wp2_with (fail)
  refine (n_state (w := _) HZ5.out a).mono ?_
  rintro e x5 ⟨rfl, K5⟩
  have HK6 := hid (HK5.out.chain K5)
  have HZ6 := hid (HZ5.out.kp0 K5)
  have bb := HB5.out.kp K5 (by simp)
  clear c1
  have c1 := bb.cell 1
  have HB6 := hid bb
  clear K5 bb
  go_wp2_with (fail)
  refine (n_space (w := _) (.inl rfl) a).mono ?_
  rintro e x6 ⟨rfl, K6⟩
  have HK7 := hid (HK6.out.chain K6)
  have HZ7 := hid (HZ6.out.kp0 K6)
  have bb := HB6.out.kp K6 (by simp)
  clear c1
  have c1 := bb.cell 1
  have HB7 := hid bb
  clear K6 bb
  go_wp2_with (fail)
  refine (n_space (w := _) HZ7.out a).mono ?_
  rintro e x7 ⟨rfl, K7⟩
  have HK8 := hid (HK7.out.chain K7)
  have HZ8 := hid (HZ7.out.kp0 K7)
  have bb := HB7.out.kp K7 (by simp)
  clear c1
  have c1 := bb.cell 1
  have HB8 := hid bb
  clear K7 bb
  go_wp2_with (fail)
  refine (n_all (w := _) (.inl rfl)).mono ?_
  rintro e x8 ⟨rfl, K8⟩
  have HK9 := hid (HK8.out.chain K8)
  have HZ9 := hid (HZ8.out.kp0 K8)
  have bb := HB8.out.kp K8 (by simp)
  clear c1
  have c1 := bb.cell 1
  have HB9 := hid bb
  clear K8 bb
  go_wp2_with (fail)
  refine (n_all (w := _) HZ9.out).mono ?_
  rintro e x9 ⟨rfl, K9⟩
  have HK10 := hid (HK9.out.chain K9)
  have HZ10 := hid (HZ9.out.kp0 K9)
  have bb := HB9.out.kp K9 (by simp)
  clear c1
  have c1 := bb.cell 1
  have HB10 := hid bb
  clear K9 bb
  go_wp2_with (fail)
  refine (n_gaps (w := _) (.inl rfl) a).mono ?_
  rintro e x10 ⟨rfl, K10⟩
  have HK11 := hid (HK10.out.chain K10)
  have HZ11 := hid (HZ10.out.kp0 K10)
  have bb := HB10.out.kp K10 (by simp)
  clear c1
  have c1 := bb.cell 1
  have HB11 := hid bb
  clear K10 bb
  go_wp2_with (fail)
  refine (n_lines (w := _) HZ11.out a).mono ?_
  rintro e x11 ⟨rfl, K11⟩
  have HK12 := hid (HK11.out.chain K11)
  have HZ12 := hid (HZ11.out.kp0 K11)
  have bb := HB11.out.kp K11 (by simp)
  clear c1
  have c1 := bb.cell 1
  have HB12 := hid bb
  clear K11 bb
  go_wp2_with (fail)
  refine (n_blocks (w := _) (.inl rfl)).mono ?_
  rintro e x12 ⟨rfl, K12⟩
  have HK13 := hid (HK12.out.chain K12)
  have HZ13 := hid (HZ12.out.kp0 K12)
  have bb := HB12.out.kp K12 (by simp)
  clear c1
  have c1 := bb.cell 1
  have HB13 := hid bb
  clear K12 bb
  go_wp2_with (fail)
  refine (n_births (w := _) HZ13.out).mono ?_
  rintro e x13 ⟨rfl, K13⟩
  have HK14 := hid (HK13.out.chain K13)
  have HZ14 := hid (HZ13.out.kp0 K13)
  have bb := HB13.out.kp K13 (by simp)
  clear c1
  have c1 := bb.cell 1
  have HB14 := hid bb
  clear K13 bb
  go_wp2_with (fail)
  refine (n_used (w := _) HZ14.out).mono ?_
  rintro e x14 ⟨rfl, K14⟩
  have HK15 := hid (HK14.out.chain K14)
  have HZ15 := hid (HZ14.out.kp0 K14)
  have bb := HB14.out.kp K14 (by simp)
  clear c1
  have c1 := bb.cell 1
  have HB15 := hid bb
  clear K14 bb
  go_wp2_with (fail)
  refine (n_clone (w := _) (.inl rfl)).mono ?_
  rintro e x15 ⟨rfl, K15⟩
  have HK16 := hid (HK15.out.chain K15)
  have HZ16 := hid (HZ15.out.kp0 K15)
  have bb := HB15.out.kp K15 (by simp)
  clear c1
  have c1 := bb.cell 1
  have HB16 := hid bb
  clear K15 bb
  go_wp2_with (fail)
  refine (n_clone (w := _) HZ16.out).mono ?_
  rintro e x16 ⟨rfl, K16⟩
  have HK17 := hid (HK16.out.chain K16)
  have HZ17 := hid (HZ16.out.kp0 K16)
  have bb := HB16.out.kp K16 (by simp)
  clear c1
  have c1 := bb.cell 1
  have HB17 := hid bb
  clear K16 bb
  go_wp2_with (fail)
  refine (HA.out _).mono ?_
  rintro e x20 ⟨rfl, k20⟩
  have HKF := hid (HK17.out.chain k20)
  clear k20
  go_wp2
  go_ret
  exact ⟨rfl, HKF.out⟩
end
end Go.Proofs.YtkhemendnoeciaaGreat
