/-
  The contract of the document's roots' Replace: its walk. Conditions: those that stand in each theorem.
-/
import Derived.Test.YtnidadhoojbmeaaSk
namespace Go.Proofs.Ytnidadhoojbmeaa
set_option linter.unusedVariables false
set_option linter.unusedSimpArgs false
open Go.RowKit Go.Deep Go.Maps

section
variable {w w' W : World} {b : TB} {t : RT}
set_option maxRecDepth 100000 in
set_option maxHeartbeats 2000000 in
theorem t_replace_bad (T : TR w b t) {f tt : List Int} {vf vt : Value} (hf : IsI w vf f) (ht : IsI w vt tt) (hbad : repB f tt = false) :
    Calls Try.prog 30 #[.pointer (some ⟨b.g, 0, none⟩), vf, vt] w fun e w' => e = .returned (.tuple #[.int .i64 0, .int .i64 1]) ∧ Kp [] w w' := by
  have HT := hid T
  have HB := hid hbad
  obtain ⟨Af, cf, rfl, hf1, hfa⟩ := hf
  obtain ⟨At, ct, rfl, ht1, hta⟩ := ht
  have HF := hid hfa
  have HTT := hid hta
  unfold maxLen at hf1 ht1
  clear T hbad hfa hta
  by_cases hl : f.length = tt.length
  · have HL := hid hl
    have hne : (f.length != tt.length) = false := bne_eq_false_iff_eq.2 hl
    have hne2 : ((f.length : Int) != (tt.length : Int)) = false := bne_eq_false_iff_eq.2 (by omega)
    have hne3 : ((f.length : Int) == (tt.length : Int)) = true := beq_iff_eq.2 (by omega)
    clear hl
    go_enter Try.func30, Try.ntmps30
    go_wp2_with (go_at_call 26; refine (t_made HT.out).mono ?_; rintro e w' ⟨rfl, n1, rfl⟩)
    go_loopw [8] (fun c wr => ∃ k n : Nat, k ≤ f.length ∧ c = .int .i64 (k : Int) ∧ wr = w.drewN n ∧ ∀ i, i < k → repAt f tt i) (fun c _ => f.length - (intOf c).toNat)
    case atStart => exact ⟨0, n1, by omega, rfl, rfl, fun i hi => absurd hi (by omega)⟩
    case round =>
      obtain ⟨k, n, hk, rfl, rfl, hall⟩ := hrel
      have HALL := hid hall
      clear hall
      by_cases hlt : k < f.length
      · obtain ⟨g, o, rfl, c0⟩ := HF.out k hlt
        obtain ⟨g', o', rfl, d0⟩ := HTT.out k (by have := HL.out; omega)
        have hlt2 : k < tt.length := by have := HL.out; omega
        obtain ⟨x, hx⟩ : ∃ x, x = f.getD k 0 := ⟨_, rfl⟩
        obtain ⟨y, hy⟩ : ∃ x, x = tt.getD k 0 := ⟨_, rfl⟩
        rw [← hx] at c0
        rw [← hy] at d0
        have HX := hid hx
        have HY := hid hy
        clear hx hy
        by_cases hx0 : x ≤ 0
        · have dx : decide (x ≤ 0) = true := decide_eq_true hx0
          go_wp2
          go_quiet (fail)
          go_wp2
          go_ret2
          exact ⟨rfl, by first | exact Kp.draw _ _ | exact (Kp.draw _ _).drewN _⟩
        · have dx : decide (x ≤ 0) = false := decide_eq_false hx0
          by_cases hy0 : y ≤ 0
          · have dy : decide (y ≤ 0) = true := decide_eq_true hy0
            go_wp2
            go_quiet (fail)
            go_wp2
            go_ret2
            exact ⟨rfl, by first | exact Kp.draw _ _ | exact (Kp.draw _ _).drewN _⟩
          · have dy : decide (y ≤ 0) = false := decide_eq_false hy0
            rcases k with _ | k
            · have hz : decide ((0 : Int) < ((0 : Nat) : Int)) = false := by decide
              rw [Nat.add_zero] at c0 d0
              go_wp2
              go_quiet (fail)
              go_wp2
              go_roundw
              case rel => exact ⟨1, _, by omega, by go_num, rfl, fun i hi => by
                obtain rfl : i = 0 := by omega
                exact ⟨by rw [← HX.out]; omega, by rw [← HY.out]; omega, .inl rfl⟩⟩
              case measure => simp [intOf]; omega
            · obtain ⟨g2, o2, e2, c2⟩ := HF.out k (by omega)
              obtain ⟨z, hz⟩ : ∃ x, x = f.getD k 0 := ⟨_, rfl⟩
              rw [← hz] at c2
              have HZ := hid hz
              cases e2
              have q1 : (((k + 1 : Nat) : Int)) - 1 = (k : Int) := by omega
              have q3 : IntKind.i64.wrap (((k + 1 : Nat) : Int) - 1) = (k : Int) := by rw [IntKind.wrap_i64]; omega
              have q4 : IntKind.i64.wrap ((k : Int) + 1 - 1) = (k : Int) := by rw [IntKind.wrap_i64]; omega
              have q5 : (k : Int) + 1 - 1 = (k : Int) := by omega
              have q6 : (k : Int) < (f.length : Int) := by omega
              have q7 : (0 : Int) < (k : Int) + 1 := by omega
              have q8 : decide ((0 : Int) < (k : Int) + 1) = true := decide_eq_true (by omega)
              clear hz
              by_cases hzx : x ≤ z
              · have dz : decide (x ≤ z) = true := decide_eq_true hzx
                go_wp2
                go_quiet (fail)
                go_wp2
                go_ret2
                exact ⟨rfl, by first | exact Kp.draw _ _ | exact (Kp.draw _ _).drewN _⟩
              · have dz : decide (x ≤ z) = false := decide_eq_false hzx
                go_wp2
                go_quiet (fail)
                go_wp2
                go_roundw
                case rel => exact ⟨k + 2, _, by omega, by go_num, rfl, fun i hi => by
                  by_cases hik : i = k + 1
                  · subst hik
                    exact ⟨by rw [← HX.out]; omega, by rw [← HY.out]; omega, .inr (by rw [Nat.add_sub_cancel, ← HX.out, ← HZ.out]; omega)⟩
                  · exact HALL.out i (by omega)⟩
                case measure => simp [intOf]; omega
      · have h1 := repB_of HL.out (fun i hi => HALL.out i (by omega))
        rw [HB.out] at h1
        cases h1
  · have hne : (f.length != tt.length) = true := bne_iff_ne.2 hl
    have hne2 : ((f.length : Int) != (tt.length : Int)) = true := bne_iff_ne.2 (by omega)
    have hne3 : ((f.length : Int) == (tt.length : Int)) = false := beq_eq_false_iff_ne.2 (by omega)
    clear hl
    go_enter Try.func30, Try.ntmps30
    go_wp2_with (go_at_call 26; refine (t_made HT.out).mono ?_; rintro e w' ⟨rfl, n1, rfl⟩)
    go_ret2
    exact ⟨rfl, by first | exact Kp.draw _ _ | exact (Kp.draw _ _).drewN _⟩
end
end Go.Proofs.Ytnidadhoojbmeaa
