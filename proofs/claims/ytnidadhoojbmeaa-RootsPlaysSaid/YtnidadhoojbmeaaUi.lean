/-
  The laws' Same, at no roots. Conditions: those that stand in each theorem.
-/
import Derived.Test.YtnidadhoojbmeaaTa
import Derived.Test.YtnidadhoojbmeaaSa
namespace Go.Proofs.Ytnidadhoojbmeaa
set_option linter.unusedVariables false
set_option linter.unusedSimpArgs false
open Go.RowKit Go.Deep Go.Maps

section
variable {w w' : World} {v : Value}
set_option maxRecDepth 100000 in
theorem u_mutators (w : World) : Calls Try.prog 33 #[.pointer none] w fun e w' => e = .returned (.int .i64 0) ∧ Kp [] w w' := by
  go_enter Try.func33, Try.ntmps33
  go_wp2_with (go_at_call 26; refine (u_made _).mono ?_; rintro e w' ⟨rfl, n1, rfl⟩)
  go_ret
  exact ⟨rfl, Kp.draw w _⟩
set_option maxRecDepth 100000 in
theorem u_every (w : World) : Calls Try.prog 38 #[.pointer none] w fun e w' => e = .returned (.slice none 0 0) ∧ Kp [] w w' := by
  go_enter Try.func38, Try.ntmps38
  go_wp2_with (go_at_call 26; refine (u_made _).mono ?_; rintro e w' ⟨rfl, n1, rfl⟩)
  go_ret
  exact ⟨rfl, Kp.draw w _⟩
set_option maxRecDepth 100000 in
theorem u_queue (w : World) : Calls Try.prog 37 #[.pointer none] w fun e w' => e = .returned (.slice none 0 0) ∧ Kp [] w w' := by
  go_enter Try.func37, Try.ntmps37
  go_wp2_with (go_at_call 26; refine (u_made _).mono ?_; rintro e w' ⟨rfl, n1, rfl⟩)
  go_ret
  exact ⟨rfl, Kp.draw w _⟩
set_option maxRecDepth 100000 in
theorem u_places (w : World) : Calls Try.prog 34 #[.pointer none] w fun e w' => e = .returned (.slice none 0 0) ∧ Kp [] w w' := by
  go_enter Try.func34, Try.ntmps34
  go_wp2_with (fail)
  refine (u_every w).mono ?_
  rintro e w1 ⟨rfl, k1⟩
  have HK := hid k1
  clear k1
  go_wp2
  go_loopw [3, 5] (fun out c wr => out = .slice none 0 0 ∧ c = .int .i64 0 ∧ wr = w1) (fun _ _ _ => 0)
  case atStart => exact ⟨rfl, rfl, rfl⟩
  case round =>
    obtain ⟨rfl, rfl, rfl⟩ := hrel
    go_wp2
    go_ret
    exact ⟨rfl, HK.out⟩
set_option maxRecDepth 100000 in
theorem u_leads (w : World) : Calls Try.prog 35 #[.pointer none] w fun e w' => e = .returned (.slice none 0 0) ∧ Kp [] w w' := by
  go_enter Try.func35, Try.ntmps35
  go_wp2_with (fail)
  refine (u_places w).mono ?_
  rintro e w1 ⟨rfl, k1⟩
  have HK := hid k1
  clear k1
  go_wp2
  go_loopw [3, 5] (fun out c wr => out = .slice none 0 0 ∧ c = .int .i64 0 ∧ wr = w1) (fun _ _ _ => 0)
  case atStart => exact ⟨rfl, rfl, rfl⟩
  case round =>
    obtain ⟨rfl, rfl, rfl⟩ := hrel
    go_wp2
    go_ret
    exact ⟨rfl, HK.out⟩
theorem IsPl.nil_ (w : World) : IsPl w (.slice none 0 0) [] := ⟨none, 0, rfl, Nat.zero_le _, fun i hi => absurd hi (by simp)⟩
theorem IsI.nil_ (w : World) : IsI w (.slice none 0 0) [] := ⟨none, 0, rfl, Nat.zero_le _, fun i hi => absurd hi (by simp)⟩
set_option maxRecDepth 100000 in
set_option maxHeartbeats 4000000 in
theorem same_none (w : World) : Calls Try.prog 12 #[.pointer none, .pointer none] w (TrueP w) := by
  have hno : ∀ W, NoR W (.pointer none) := fun W => .inl rfl
  have HNO := hid hno
  clear hno
  go_enter Try.func12, Try.ntmps12
  go_wp2_with (fail)
  refine (n_mutators (HNO.out _)).mono ?_
  rintro e w1 ⟨rfl, k1⟩
  have H1 := hid k1
  clear k1
  go_wp2_with (fail)
  refine (u_mutators _).mono ?_
  rintro e w2 ⟨rfl, k2⟩
  have H2 := hid (H1.out.chain k2)
  clear k2
  go_wp2_with (fail)
  refine (n_places (HNO.out _)).mono ?_
  rintro e w3 ⟨rfl, k3⟩
  have H3 := hid (H2.out.chain k3)
  clear k3
  go_wp2_with (fail)
  refine (u_places _).mono ?_
  rintro e w4 ⟨rfl, k4⟩
  have H4 := hid (H3.out.chain k4)
  clear k4
  go_wp2_with (fail)
  refine (places_same (IsPl.nil_ _) (IsPl.nil_ _) (by simp)).mono ?_
  rintro e w5 ⟨rfl, n5, rfl⟩
  have H5 := hid (H4.out.drewN n5)
  go_wp2_with (fail)
  refine (n_leads (HNO.out _)).mono ?_
  rintro e w6 ⟨rfl, k6⟩
  have H6 := hid (H5.out.chain k6)
  clear k6
  go_wp2_with (fail)
  refine (u_leads _).mono ?_
  rintro e w7 ⟨rfl, k7⟩
  have H7 := hid (H6.out.chain k7)
  clear k7
  go_wp2_with (fail)
  refine (ints_same (IsI.nil_ _) (IsI.nil_ _)).mono ?_
  rintro e w8 ⟨rfl, n8, rfl⟩
  have H8 := hid (H7.out.drewN n8)
  go_wp2_with (fail)
  refine (n_queue (HNO.out _)).mono ?_
  rintro e w9 ⟨rfl, k9⟩
  have H9 := hid (H8.out.chain k9)
  clear k9
  go_wp2_with (fail)
  refine (u_queue _).mono ?_
  rintro e w10 ⟨rfl, k10⟩
  have H10 := hid (H9.out.chain k10)
  clear k10
  go_wp2_with (fail)
  refine (ints_same (IsI.nil_ _) (IsI.nil_ _)).mono ?_
  rintro e w11 ⟨rfl, n11, rfl⟩
  have H11 := hid (H10.out.drewN n11)
  go_wp2_with (fail)
  refine (u_every _).mono ?_
  rintro e w12 ⟨rfl, k12⟩
  have H12 := hid (H11.out.chain k12)
  clear k12
  go_wp2
  go_loopw [6] (fun c wr => c = .int .i64 0 ∧ wr = w12) (fun _ _ => 0)
  case atStart => exact ⟨rfl, rfl⟩
  case round =>
    obtain ⟨rfl, rfl⟩ := hrel
    go_wp2
    go_ret
    exact ⟨rfl, H12.out⟩
end
end Go.Proofs.Ytnidadhoojbmeaa
