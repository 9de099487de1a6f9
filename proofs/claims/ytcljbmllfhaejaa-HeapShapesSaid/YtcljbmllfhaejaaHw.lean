/-
  The walk of the law HeapShapes. No condition.
-/
import Derived.Test.YtcljbmllfhaejaaHv
namespace Go.Proofs.Ytcljbmllfhaejaa
set_option linter.unusedVariables false
set_option linter.unusedSimpArgs false
open Go.RowKit Go.Deep Go.Maps

structure Bx (w W : World) (cs : Array Value) (t : TypeId) : Prop where
  box : Blk W w.heap.size t cs
  kp : Kp [] w W
theorem Bx.start (w : World) (cs : Array Value) (t : TypeId) : Bx w (w.alloc (.cells cs t)) cs t := ⟨Blk.new w t cs, Kp.new _ _⟩
theorem Bx.kp0 {w W W' : World} {cs : Array Value} {t : TypeId} (h : Bx w W cs t) (k : Kp [] W W') : Bx w W' cs t := ⟨h.box.kp k (by simp), h.kp.chain k⟩
set_option maxHeartbeats 1000000 in
theorem r_valid (r d k : Int) (w : World) :
    Calls Try.prog 12 #[.agg #[.int .i64 r, .int .i64 d, .int .i64 k]] w fun e w' => e = .returned (.bool (vldB r d k)) ∧ Kp [] w w' := by
  by_cases h1 : r < 0
  · have e : vldB r d k = false := decide_eq_false (by omega)
    rw [e]; clear e
    go_enter Try.func12, Try.ntmps12
    go_wp2
    go_ret
    exact ⟨rfl, Kp.new _ _⟩
  by_cases h2 : 15 < r
  · have e : vldB r d k = false := decide_eq_false (by omega)
    rw [e]; clear e
    go_enter Try.func12, Try.ntmps12
    go_wp2
    go_ret
    exact ⟨rfl, Kp.new _ _⟩
  by_cases h3 : d < 0
  · have e : vldB r d k = false := decide_eq_false (by omega)
    rw [e]; clear e
    go_enter Try.func12, Try.ntmps12
    go_wp2
    go_ret
    exact ⟨rfl, Kp.new _ _⟩
  by_cases h4 : 200 < d
  · have e : vldB r d k = false := decide_eq_false (by omega)
    rw [e]; clear e
    go_enter Try.func12, Try.ntmps12
    go_wp2
    go_ret
    exact ⟨rfl, Kp.new _ _⟩
  by_cases k0 : k = 0
  · have e : vldB r d k = true := decide_eq_true (by omega)
    rw [e]; clear e; subst k0
    go_enter Try.func12, Try.ntmps12
    go_wp2
    go_ret
    exact ⟨rfl, Kp.new _ _⟩
  by_cases k3 : k = 3
  · have e : vldB r d k = true := decide_eq_true (by omega)
    rw [e]; clear e k0; subst k3
    go_enter Try.func12, Try.ntmps12
    go_wp2
    go_ret
    exact ⟨rfl, Kp.new _ _⟩
  by_cases k1 : k = 1
  · clear k0 k3; subst k1
    by_cases hr : 1 ≤ r
    · have e : vldB r d 1 = true := decide_eq_true (by omega)
      rw [e]; clear e
      go_enter Try.func12, Try.ntmps12
      go_wp2
      go_ret
      exact ⟨rfl, Kp.new _ _⟩
    · have e : vldB r d 1 = false := decide_eq_false (by omega)
      rw [e]; clear e
      go_enter Try.func12, Try.ntmps12
      go_wp2
      go_ret
      exact ⟨rfl, Kp.new _ _⟩
  by_cases k2 : k = 2
  · clear k0 k3 k1; subst k2
    by_cases hr : 2 ≤ r
    · have e : vldB r d 2 = true := decide_eq_true (by omega)
      rw [e]; clear e
      go_enter Try.func12, Try.ntmps12
      go_wp2
      go_ret
      exact ⟨rfl, Kp.new _ _⟩
    · have e : vldB r d 2 = false := decide_eq_false (by omega)
      rw [e]; clear e
      go_enter Try.func12, Try.ntmps12
      go_wp2
      go_ret
      exact ⟨rfl, Kp.new _ _⟩
  have e : vldB r d k = false := decide_eq_false (by omega)
  have g0 : (k == 0) = false := beq_eq_false_iff_ne.2 k0
  have g1 : (k == 1) = false := beq_eq_false_iff_ne.2 k1
  have g2 : (k == 2) = false := beq_eq_false_iff_ne.2 k2
  have g3 : (k == 3) = false := beq_eq_false_iff_ne.2 k3
  rw [e]; clear e k0 k1 k2 k3
  go_enter Try.func12, Try.ntmps12
  go_wp2
  go_ret
  exact ⟨rfl, Kp.new _ _⟩
set_option maxHeartbeats 1000000 in
theorem r_words (r d k : Int) (w : World) :
    Calls Try.prog 14 #[.agg #[.int .i64 r, .int .i64 d, .int .i64 k]] w fun e w' => e = .returned (.int .i64 (wordsI r d k)) ∧ Kp [] w w' := by
  have B0 := hid (Blk.new w 23 #[.int .i64 r, .int .i64 d, .int .i64 k])
  rcases hv : vldB r d k
  · have e : wordsI r d k = 0 := by simp [wordsI, hv]
    rw [e]; clear e
    have HV := hid hv
    clear hv
    go_enter Try.func14, Try.ntmps14
    go_wp2_with (go_at_call 12; refine (r_valid r d k _).mono ?_; rintro e w1 ⟨rfl, K1⟩; rw [HV.out]; have HK := hid K1; clear K1)
    go_ret
    exact ⟨rfl, (Kp.new _ _).chain HK.out⟩
  · obtain ⟨r, d, k, rfl, rfl, rfl, hr, hd, hk⟩ := vldB_nat hv
    have e : wordsI r d k = 2 + (r : Int) + (d : Int) + (2 + (r : Int) + (d : Int)) % 2 := by simp only [wordsI, hv, if_true, Int.toNat_natCast, wdN]; omega
    have HE := hid e
    clear e
    have HV := hid hv
    clear hv
    go_enter Try.func14, Try.ntmps14
    go_wp2_with (first | (go_at_call 12; refine (r_valid r d k _).mono ?_; rintro e w1 ⟨rfl, K1⟩; rw [HV.out]; have HK := hid K1; have B1 := B0.out.kp K1 (by simp); have q0 := B1.cell 0; have q1 := B1.cell 1; clear K1 B1))
    go_ret
    rw [HE.out]
    exact ⟨rfl, ((Kp.new _ _).chain HK.out)⟩
set_option maxRecDepth 100000 in
set_option maxHeartbeats 4000000 in
theorem shapes_ok (w : World) (x d k : Int) : Calls Try.prog 3 #[.agg #[.int .i64 x, .int .i64 d, .int .i64 k]] w (TrueP w) := by
  have e1 : (vldB x d k == vldB x d k) = true := beq_self_eq_true _
  have e2 : (wordsI x d k == wordsI x d k) = true := beq_self_eq_true _
  have P0 := (Bx.start w #[.int .i64 x, .int .i64 d, .int .i64 k] 23).kp0 (Kp.draw _ 1)
  have hP0 : Bx w (w.alloc (.cells #[.int .i64 x, .int .i64 d, .int .i64 k] 23)).drew #[.int .i64 x, .int .i64 d, .int .i64 k] 23 := P0
  clear P0
  go_enter Try.func3, Try.ntmps3
  go_wp2
  go_region_held3 (fun W => W.cell? ⟨w.heap.size, 0, none⟩ = some (.int .i64 x) ∧ W.cell? ⟨w.heap.size, 1, none⟩ = some (.int .i64 d) ∧ W.cell? ⟨w.heap.size, 2, none⟩ = some (.int .i64 k)) (go_keep)
    (first
      | (go_at_call 11; refine (h_valid x d k _).mono ?_; rintro e wA ⟨rfl, KA⟩; have PA := Bx.kp0 (by assumption) KA; have t0 := PA.box.cell 0; have t1 := PA.box.cell 1; have t2 := PA.box.cell 2)
      | (go_at_call 12; refine (r_valid x d k _).mono ?_; rintro e wB ⟨rfl, KB⟩; have PB := Bx.kp0 (by assumption) KB; have u0 := PB.box.cell 0; have u1 := PB.box.cell 1; have u2 := PB.box.cell 2)
      | (go_at_call 13; refine (h_words x d k _).mono ?_; rintro e wC ⟨rfl, KC⟩; have PC := Bx.kp0 (by assumption) KC; have v0 := PC.box.cell 0; have v1 := PC.box.cell 1; have v2 := PC.box.cell 2)
      | (go_at_call 14; refine (r_words x d k _).mono ?_; rintro e wD ⟨rfl, KD⟩; have PD := Bx.kp0 (by assumption) KD; have x0 := PD.box.cell 0; have x1 := PD.box.cell 1; have x2 := PD.box.cell 2)
      | (go_at_call 15; refine (alive_ok _).mono ?_; rintro e wE ⟨rfl, KE⟩; have PE := Bx.kp0 (by assumption) KE; have y0 := PE.box.cell 0; have y1 := PE.box.cell 1; have y2 := PE.box.cell 2))
  all_goals (
    go_wp2
    go_ret
    exact ⟨rfl, PE.kp⟩)
end Go.Proofs.Ytcljbmllfhaejaa
