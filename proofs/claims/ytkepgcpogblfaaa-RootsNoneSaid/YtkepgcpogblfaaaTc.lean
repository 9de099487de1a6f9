/-
  RootsNone's walk. Conditions: those that stand in each theorem.
-/
import Derived.Test.YtkepgcpogblfaaaTb
namespace Go.Proofs.Ytkepgcpogblfaaa
set_option linter.unusedVariables false
set_option linter.unusedSimpArgs false
open Go.RowKit Go.Deep Go.Maps

section
variable {w w' : World} {v : Value}
set_option maxRecDepth 100000 in
set_option maxHeartbeats 1500000 in
theorem none_ok (x : ActR) (hx : x.Ok w) :
    Calls Try.prog 4 #[.agg x.cells] w (TrueP w) := by
  have KN := Kp.new w (.cells #[.int .i64 x.k, .int .i64 x.pk, .int .i64 x.pm, .int .i64 x.pi, .int .i64 x.a, x.vf, x.vt] 36)
  have HKN := hid KN
  have HX := hid (hx.kp0 KN)
  have HB := hid (Blk.new w 36 #[.int .i64 x.k, .int .i64 x.pk, .int .i64 x.pm, .int .i64 x.pi, .int .i64 x.a, x.vf, x.vt])
  have hz := zeroRoots
  have ha1 := ActsR.one HX.out
  rw [World.size_alloc] at ha1
  have HA1 := hid ha1
  clear ha1
  have HPN : Hid (∀ W v, NoR W v → x.Ok W → Calls Try.prog 17 #[v, .pointer none, .agg #[.int .i64 x.k, .int .i64 x.pk, .int .i64 x.pm, .int .i64 x.pi, .int .i64 x.a, x.vf, x.vt]] W fun e w' => e = .returned (.bool true) ∧ Kp [] W w') := fun W v h o => play_none h x o
  have c0 := HB.out.cell 0
  have c1 := HB.out.cell 1
  have c2 := HB.out.cell 2
  have c3 := HB.out.cell 3
  have c4 := HB.out.cell 4
  have c5 := HB.out.cell 5
  have c6 := HB.out.cell 6
  clear hx KN
  unfold ActR.cells
  go_enter Try.func4, Try.ntmps4
  go_wp2_with (fail)
  generalize (w.alloc (.cells #[.int .i64 x.k, .int .i64 x.pk, .int .i64 x.pm, .int .i64 x.pi, .int .i64 x.a, x.vf, x.vt] 36)) = w0 at *
  refine (great_ok HA1.out).mono ?_
  rintro e w2 ⟨g, rfl, hg, m2, rfl⟩
  have KA := (Kp.new w0 (.cells #[.int .i64 x.k, .int .i64 x.pk, .int .i64 x.pm, .int .i64 x.pi, .int .i64 x.a, x.vf, x.vt] 36)).drewN m2
  have HKA := hid KA
  clear hg c0 c1 c2 c3 c4 c5 c6 KA HA1
  generalize (w0.alloc (.cells #[.int .i64 x.k, .int .i64 x.pk, .int .i64 x.pm, .int .i64 x.pi, .int .i64 x.a, x.vf, x.vt] 36)).drewN m2 = w2 at *
  rcases g
  · have bb := HB.out.kp HKA.out (by simp)
    have c0 := bb.cell 0
    have c1 := bb.cell 1
    have c2 := bb.cell 2
    have c3 := bb.cell 3
    have c4 := bb.cell 4
    have c5 := bb.cell 5
    have c6 := bb.cell 6
    have KZ := Kp.new w2 (.cells #[.slice none 0 0, .int .i64 0, .int .i64 0, .int .i64 0, .int .i64 0, .int .i64 0, .int .i64 0, .int .i64 0, .int .i64 0, .int .i64 0, .int .i64 0, .int .i64 0, .int .i64 0, .int .i64 0, .int .i64 0, .int .i64 0, .int .i64 0, .slice none 0 0] 45)
    have bz := Blk.new w2 45 #[.slice none 0 0, .int .i64 0, .int .i64 0, .int .i64 0, .int .i64 0, .int .i64 0, .int .i64 0, .int .i64 0, .int .i64 0, .int .i64 0, .int .i64 0, .int .i64 0, .int .i64 0, .int .i64 0, .int .i64 0, .int .i64 0, .int .i64 0, .slice none 0 0]
    have bb2 := bb.kp KZ (by simp)
    have f0 := bb2.cell 0
    have f1 := bb2.cell 1
    have f2 := bb2.cell 2
    have f3 := bb2.cell 3
    have f4 := bb2.cell 4
    have f5 := bb2.cell 5
    have f6 := bb2.cell 6
    have HZ0 : Hid (NoR (w2.alloc (.cells #[.slice none 0 0, .int .i64 0, .int .i64 0, .int .i64 0, .int .i64 0, .int .i64 0, .int .i64 0, .int .i64 0, .int .i64 0, .int .i64 0, .int .i64 0, .int .i64 0, .int .i64 0, .int .i64 0, .int .i64 0, .int .i64 0, .int .i64 0, .slice none 0 0] 45)) (.pointer (some ⟨w2.heap.size, 0, none⟩))) := .inr ⟨_, rfl, bz.cell 0⟩
    have HKZ := hid KZ
    have HB2 := hid bb2
    have HXZ := hid ((HX.out.kp0 HKA.out).kp0 KZ)
    clear bb KZ bz bb2
    have HK0 := hid ((HKN.out.chain HKA.out).chain HKZ.out)
    go_wp2_with (fail)
    refine (HPN.out _ _ (.inl rfl) HXZ.out).mono ?_
    rintro e w3 ⟨rfl, k3⟩
    have HZ1 := hid (HZ0.out.kp0 k3)
    have HK1 := hid (HK0.out.chain k3)
    have HX1 := hid (HXZ.out.kp0 k3)
    have bb3 := HB2.out.kp k3 (by simp)
    have h0 := bb3.cell 0
    have h1 := bb3.cell 1
    have h2 := bb3.cell 2
    have h3 := bb3.cell 3
    have h4 := bb3.cell 4
    have h5 := bb3.cell 5
    have h6 := bb3.cell 6
    clear k3 bb3 c0 c1 c2 c3 c4 c5 c6 f0 f1 f2 f3 f4 f5 f6
    go_wp2_with (fail)
    refine (HPN.out _ _ HZ1.out HX1.out).mono ?_
    rintro e w4 ⟨rfl, k4⟩
    have HZ2 := hid (HZ1.out.kp0 k4)
    have HK2 := hid (HK1.out.chain k4)
    clear k4 h0 h1 h2 h3 h4 h5 h6
    go_wp2_with (fail)
    refine (n_places (w := _) (.inl rfl)).mono ?_
    rintro e w5 ⟨rfl, k5⟩
    have HZ3 := hid (HZ2.out.kp0 k5)
    have HK3 := hid (HK2.out.chain k5)
    clear k5
    go_wp2_with (fail)
    refine (n_places (w := _) HZ3.out).mono ?_
    rintro e w6 ⟨rfl, k6⟩
    have HZ4 := hid (HZ3.out.kp0 k6)
    have HK4 := hid (HK3.out.chain k6)
    clear k6
    go_wp2_with (fail)
    refine (n_leads (w := _) (.inl rfl)).mono ?_
    rintro e w7 ⟨rfl, k7⟩
    have HZ5 := hid (HZ4.out.kp0 k7)
    have HK5 := hid (HK4.out.chain k7)
    clear k7
    go_wp2_with (fail)
    refine (n_leads (w := _) HZ5.out).mono ?_
    rintro e w8 ⟨rfl, k8⟩
    have HZ6 := hid (HZ5.out.kp0 k8)
    have HK6 := hid (HK5.out.chain k8)
    clear k8
    go_wp2_with (fail)
    refine (n_queue (w := _) (.inl rfl)).mono ?_
    rintro e w9 ⟨rfl, k9⟩
    have HZ7 := hid (HZ6.out.kp0 k9)
    have HK7 := hid (HK6.out.chain k9)
    clear k9
    go_wp2_with (fail)
    refine (n_queue (w := _) HZ7.out).mono ?_
    rintro e w10 ⟨rfl, k10⟩
    have HZ8 := hid (HZ7.out.kp0 k10)
    have HK8 := hid (HK7.out.chain k10)
    clear k10
    go_wp2_with (fail)
    refine (n_mutators (w := _) (.inl rfl)).mono ?_
    rintro e w11 ⟨rfl, k11⟩
    have HZ9 := hid (HZ8.out.kp0 k11)
    have HK9 := hid (HK8.out.chain k11)
    clear k11
    go_wp2_with (fail)
    refine (n_mutators (w := _) HZ9.out).mono ?_
    rintro e w12 ⟨rfl, k12⟩
    have HZ10 := hid (HZ9.out.kp0 k12)
    have HK10 := hid (HK9.out.chain k12)
    clear k12
    go_wp2_with (fail)
    refine (n_clone (w := _) (.inl rfl)).mono ?_
    rintro e w13 ⟨rfl, k13⟩
    have HZ11 := hid (HZ10.out.kp0 k13)
    have HK11 := hid (HK10.out.chain k13)
    clear k13
    go_wp2_with (fail)
    refine (n_clone (w := _) HZ11.out).mono ?_
    rintro e w14 ⟨rfl, k14⟩
    have HZ12 := hid (HZ11.out.kp0 k14)
    have HK12 := hid (HK11.out.chain k14)
    clear k14
    go_wp2_with (fail)
    refine (alive_ok _).mono ?_
    rintro e w20 ⟨rfl, k20⟩
    have HKF := hid (HK12.out.chain k20)
    clear k20
    go_wp2
    go_ret
    exact ⟨rfl, HKF.out⟩
  · go_wp2_with (fail)
    refine (alive_ok _).mono ?_
    rintro e w3 ⟨rfl, k3⟩
    have HK3 := hid ((HKN.out.chain HKA.out).chain k3)
    clear k3
    go_wp2
    go_ret
    exact ⟨rfl, HK3.out⟩
end
end Go.Proofs.Ytkepgcpogblfaaa
