/-
  The contracts of package heap's functions of shapes: Valid, Words, shapeWord, shape, size. Conditions: those that stand in each theorem.
-/
import Derived.Test.YtkhemendnoeciaaGreatHc
namespace Go.Proofs.YtkhemendnoeciaaGreat
set_option linter.unusedVariables false
set_option linter.unusedSimpArgs false
open Go.RowKit Go.Deep Go.Maps

def shV (r d k : Int) : Value := .agg #[.int .i64 r, .int .i64 d, .int .i64 k]
section
variable {w w' : World} {b : HB} {r : RM}
set_option maxHeartbeats 1000000 in
theorem h_valid (r d k : Int) (w : World) :
    Calls Tryz.prog 95 #[.agg #[.int .i64 r, .int .i64 d, .int .i64 k]] w fun e w' => e = .returned (.bool (vldB r d k)) ∧ Kp [] w w' := by
  by_cases h1 : r < 0
  · have e : vldB r d k = false := decide_eq_false (by omega)
    rw [e]; clear e
    go_enter Tryz.func95, Tryz.ntmps95
    go_wp2
    go_ret
    exact ⟨rfl, Kp.new _ _⟩
  by_cases h2 : 15 < r
  · have e : vldB r d k = false := decide_eq_false (by omega)
    rw [e]; clear e
    go_enter Tryz.func95, Tryz.ntmps95
    go_wp2
    go_ret
    exact ⟨rfl, Kp.new _ _⟩
  by_cases h3 : d < 0
  · have e : vldB r d k = false := decide_eq_false (by omega)
    rw [e]; clear e
    go_enter Tryz.func95, Tryz.ntmps95
    go_wp2
    go_ret
    exact ⟨rfl, Kp.new _ _⟩
  by_cases h4 : 200 < d
  · have e : vldB r d k = false := decide_eq_false (by omega)
    rw [e]; clear e
    go_enter Tryz.func95, Tryz.ntmps95
    go_wp2
    go_ret
    exact ⟨rfl, Kp.new _ _⟩
  by_cases k0 : k = 0
  · have e : vldB r d k = true := decide_eq_true (by omega)
    rw [e]; clear e; subst k0
    go_enter Tryz.func95, Tryz.ntmps95
    go_wp2
    go_ret
    exact ⟨rfl, Kp.new _ _⟩
  by_cases k3 : k = 3
  · have e : vldB r d k = true := decide_eq_true (by omega)
    rw [e]; clear e k0; subst k3
    go_enter Tryz.func95, Tryz.ntmps95
    go_wp2
    go_ret
    exact ⟨rfl, Kp.new _ _⟩
  by_cases k1 : k = 1
  · clear k0 k3; subst k1
    by_cases hr : 1 ≤ r
    · have e : vldB r d 1 = true := decide_eq_true (by omega)
      rw [e]; clear e
      go_enter Tryz.func95, Tryz.ntmps95
      go_wp2
      go_ret
      exact ⟨rfl, Kp.new _ _⟩
    · have e : vldB r d 1 = false := decide_eq_false (by omega)
      rw [e]; clear e
      go_enter Tryz.func95, Tryz.ntmps95
      go_wp2
      go_ret
      exact ⟨rfl, Kp.new _ _⟩
  by_cases k2 : k = 2
  · clear k0 k3 k1; subst k2
    by_cases hr : 2 ≤ r
    · have e : vldB r d 2 = true := decide_eq_true (by omega)
      rw [e]; clear e
      go_enter Tryz.func95, Tryz.ntmps95
      go_wp2
      go_ret
      exact ⟨rfl, Kp.new _ _⟩
    · have e : vldB r d 2 = false := decide_eq_false (by omega)
      rw [e]; clear e
      go_enter Tryz.func95, Tryz.ntmps95
      go_wp2
      go_ret
      exact ⟨rfl, Kp.new _ _⟩
  have e : vldB r d k = false := decide_eq_false (by omega)
  have g0 : (k == 0) = false := beq_eq_false_iff_ne.2 k0
  have g1 : (k == 1) = false := beq_eq_false_iff_ne.2 k1
  have g2 : (k == 2) = false := beq_eq_false_iff_ne.2 k2
  have g3 : (k == 3) = false := beq_eq_false_iff_ne.2 k3
  rw [e]; clear e k0 k1 k2 k3
  go_enter Tryz.func95, Tryz.ntmps95
  go_wp2
  go_ret
  exact ⟨rfl, Kp.new _ _⟩
set_option maxHeartbeats 1000000 in
theorem h_words (r d k : Int) (w : World) :
    Calls Tryz.prog 97 #[.agg #[.int .i64 r, .int .i64 d, .int .i64 k]] w fun e w' => e = .returned (.int .i64 (wordsI r d k)) ∧ Kp [] w w' := by
  have B0 := hid (Blk.new w 33 #[.int .i64 r, .int .i64 d, .int .i64 k])
  rcases hv : vldB r d k
  · have e : wordsI r d k = 0 := by simp [wordsI, hv]
    rw [e]; clear e
    have HV := hid hv
    clear hv
    go_enter Tryz.func97, Tryz.ntmps97
    go_wp2_with (go_at_call 95; refine (h_valid r d k _).mono ?_; rintro e w1 ⟨rfl, K1⟩; rw [HV.out]; have HK := hid K1; clear K1)
    go_ret
    exact ⟨rfl, (Kp.new _ _).chain HK.out⟩
  · obtain ⟨r, d, k, rfl, rfl, rfl, hr, hd, hk⟩ := vldB_nat hv
    have e : wordsI r d k = ((((2 + r + d) + 1) / 2 * 2 : Nat) : Int) := by simp only [wordsI, hv, if_true, Int.toNat_natCast, wdN]; omega
    rw [e]; clear e
    have HV := hid hv
    clear hv
    go_enter Tryz.func97, Tryz.ntmps97
    go_wp2_with (first | (go_at_call 95; refine (h_valid r d k _).mono ?_; rintro e w1 ⟨rfl, K1⟩; rw [HV.out]; have HK := hid K1; have B1 := B0.out.kp K1 (by simp); have q0 := B1.cell 0; have q1 := B1.cell 1; clear K1 B1) | (go_at_call 132; refine (h_up2 (2 + r + d) _ (by omega)).mono ?_; rintro e w2 ⟨rfl, n2, rfl⟩))
    go_ret
    exact ⟨rfl, ((Kp.new _ _).chain HK.out).drewN _⟩
theorem h_shapeWord (r d k : Nat) (w : World) (hr : r ≤ 15) (hd : d ≤ 200) (hk : k ≤ 3) :
    Calls Tryz.prog 99 #[.agg #[.int .i64 (r : Int), .int .i64 (d : Int), .int .i64 (k : Int)]] w fun e w' => e = .returned (.int .i64 ((shN r d k : Nat) : Int)) ∧ Kp [] w w' := by
  have e : ((shN r d k : Nat) : Int) = (r : Int) + 16 * (d : Int) + 4096 * (k : Int) := by unfold shN; omega
  rw [e]; clear e
  go_enter Tryz.func99, Tryz.ntmps99
  go_wp2
  go_ret
  exact ⟨rfl, Kp.new _ _⟩
set_option maxHeartbeats 1000000 in
theorem h_shape (R : Raw w b r) (a x d k : Nat) (ha : a + 1 < r.ws.length) (hr : x ≤ 15) (hd : d ≤ 200) (hk : k ≤ 3) (hw : r.ws.getD (a + 1) 0 = ((shN x d k : Nat) : Int)) :
    Calls Tryz.prog 129 #[.pointer (some ⟨b.g, 0, none⟩), .int .i64 (a : Int)] w fun e w' => e = .returned (.agg #[.int .i64 (x : Int), .int .i64 (d : Int), .int .i64 (k : Int)]) ∧ Kp [] w w' := by
  have R1 := R.kp0 (Kp.new w (.cells #[.int .i64 0, .int .i64 0, .int .i64 0] 33))
  have hc := R1.c1
  have hx := R1.word ha
  have hl : r.ws.length ≤ 4096 := by have := R.bl64; have := R.wl; omega
  have hcw := R.cw1
  have hcm := R.cw2
  unfold maxLen at hcm
  rw [hw] at hx
  have hy : shN x d k ≤ 20000 := by unfold shN; omega
  have e1 : ((shN x d k : Nat) : Int) % 16 = (x : Int) := by unfold shN; omega
  have e2 : ((shN x d k : Nat) : Int) % 4096 / 16 = (d : Int) := by unfold shN; omega
  have e3 : ((shN x d k : Nat) : Int) / 4096 = (k : Int) := by unfold shN; omega
  have HE : Hid (_ ∧ _ ∧ _) := ⟨e1, e2, e3⟩
  generalize shN x d k = y at hx hy HE
  clear R R1 hw e1 e2 e3
  go_enter Tryz.func129, Tryz.ntmps129
  go_wp2
  obtain ⟨e1, e2, e3⟩ := HE.out
  refine bodyPost_ret (v := .agg #[.int .i64 (x : Int), .int .i64 (d : Int), .int .i64 (k : Int)]) ?_ rfl ⟨rfl, ?_⟩
  · rw [e1, e2, e3]
    simp [results, Tryz.results129, go_sem]
  · exact Kp.new _ _
set_option maxHeartbeats 1000000 in
theorem h_size (R : Raw w b r) (a x d k : Nat) (ha : a + 1 < r.ws.length) (hv : vldB x d k = true) (hw : r.ws.getD (a + 1) 0 = ((shN x d k : Nat) : Int)) :
    Calls Tryz.prog 92 #[.pointer (some ⟨b.g, 0, none⟩), .int .i64 (a : Int)] w fun e w' => e = .returned (.int .i64 ((wdN x d : Nat) : Int)) ∧ Kp [] w w' := by
  have hb := vldB_bd hv
  have e : wordsI x d k = ((wdN x d : Nat) : Int) := by simp [wordsI, hv]
  have HE := hid e
  have HW := hid hw
  clear e hw hv
  go_enter Tryz.func92, Tryz.ntmps92
  go_wp2_with (first | (go_at_call 129; refine (h_shape R a x d k ha hb.1 hb.2.1 hb.2.2 HW.out).mono ?_; rintro e w1 ⟨rfl, K1⟩; have HK := hid K1; clear K1) | (go_at_call 97; refine (h_words x d k _).mono ?_; rintro e w2 ⟨rfl, K2⟩; have HK2 := hid K2; clear K2))
  go_ret
  rw [HE.out]
  exact ⟨rfl, HK.out.chain HK2.out⟩
end
end Go.Proofs.YtkhemendnoeciaaGreat
