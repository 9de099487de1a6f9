/-
  The contracts of the document's Valid and Words. No condition.
-/
import Derived.Test.YtmkmnlmfpddjkaaGreatPG11
namespace Go.Proofs.YtmkmnlmfpddjkaaGreat
set_option linter.unusedVariables false
set_option linter.unusedSimpArgs false
open Go.RowKit Go.Deep Go.Maps

structure Bx (w W : World) (cs : Array Value) (t : TypeId) : Prop where
  box : Blk W w.heap.size t cs
  kp : Kp [] w W
theorem Bx.start (w : World) (cs : Array Value) (t : TypeId) : Bx w (w.alloc (.cells cs t)) cs t := ⟨Blk.new w t cs, Kp.new _ _⟩
theorem Bx.kp0 {w W W' : World} {cs : Array Value} {t : TypeId} (h : Bx w W cs t) (k : Kp [] W W') : Bx w W' cs t := ⟨h.box.kp k (by simp), h.kp.chain k⟩
set_option maxHeartbeats 1000000 in
theorem r_valid (r d k : Int) (w : World) :
    Calls Tryz.prog 136 #[.agg #[.int .i64 r, .int .i64 d, .int .i64 k]] w fun e w' => e = .returned (.bool (vldB r d k)) ∧ Kp [] w w' := by
  by_cases h1 : r < 0
  · have e : vldB r d k = false := decide_eq_false (by omega)
    rw [e]; clear e
    go_enter Tryz.func136, Tryz.ntmps136
    go_wp2
    go_ret
    exact ⟨rfl, Kp.new _ _⟩
  by_cases h2 : 15 < r
  · have e : vldB r d k = false := decide_eq_false (by omega)
    rw [e]; clear e
    go_enter Tryz.func136, Tryz.ntmps136
    go_wp2
    go_ret
    exact ⟨rfl, Kp.new _ _⟩
  by_cases h3 : d < 0
  · have e : vldB r d k = false := decide_eq_false (by omega)
    rw [e]; clear e
    go_enter Tryz.func136, Tryz.ntmps136
    go_wp2
    go_ret
    exact ⟨rfl, Kp.new _ _⟩
  by_cases h4 : 200 < d
  · have e : vldB r d k = false := decide_eq_false (by omega)
    rw [e]; clear e
    go_enter Tryz.func136, Tryz.ntmps136
    go_wp2
    go_ret
    exact ⟨rfl, Kp.new _ _⟩
  by_cases k0 : k = 0
  · have e : vldB r d k = true := decide_eq_true (by omega)
    rw [e]; clear e; subst k0
    go_enter Tryz.func136, Tryz.ntmps136
    go_wp2
    go_ret
    exact ⟨rfl, Kp.new _ _⟩
  by_cases k3 : k = 3
  · have e : vldB r d k = true := decide_eq_true (by omega)
    rw [e]; clear e k0; subst k3
    go_enter Tryz.func136, Tryz.ntmps136
    go_wp2
    go_ret
    exact ⟨rfl, Kp.new _ _⟩
  by_cases k1 : k = 1
  · clear k0 k3; subst k1
    by_cases hr : 1 ≤ r
    · have e : vldB r d 1 = true := decide_eq_true (by omega)
      rw [e]; clear e
      go_enter Tryz.func136, Tryz.ntmps136
      go_wp2
      go_ret
      exact ⟨rfl, Kp.new _ _⟩
    · have e : vldB r d 1 = false := decide_eq_false (by omega)
      rw [e]; clear e
      go_enter Tryz.func136, Tryz.ntmps136
      go_wp2
      go_ret
      exact ⟨rfl, Kp.new _ _⟩
  by_cases k2 : k = 2
  · clear k0 k3 k1; subst k2
    by_cases hr : 2 ≤ r
    · have e : vldB r d 2 = true := decide_eq_true (by omega)
      rw [e]; clear e
      go_enter Tryz.func136, Tryz.ntmps136
      go_wp2
      go_ret
      exact ⟨rfl, Kp.new _ _⟩
    · have e : vldB r d 2 = false := decide_eq_false (by omega)
      rw [e]; clear e
      go_enter Tryz.func136, Tryz.ntmps136
      go_wp2
      go_ret
      exact ⟨rfl, Kp.new _ _⟩
  have e : vldB r d k = false := decide_eq_false (by omega)
  have g0 : (k == 0) = false := beq_eq_false_iff_ne.2 k0
  have g1 : (k == 1) = false := beq_eq_false_iff_ne.2 k1
  have g2 : (k == 2) = false := beq_eq_false_iff_ne.2 k2
  have g3 : (k == 3) = false := beq_eq_false_iff_ne.2 k3
  rw [e]; clear e k0 k1 k2 k3
  go_enter Tryz.func136, Tryz.ntmps136
  go_wp2
  go_ret
  exact ⟨rfl, Kp.new _ _⟩
set_option maxHeartbeats 1000000 in
theorem r_words (r d k : Int) (w : World) :
    Calls Tryz.prog 153 #[.agg #[.int .i64 r, .int .i64 d, .int .i64 k]] w fun e w' => e = .returned (.int .i64 (wordsI r d k)) ∧ Kp [] w w' := by
  have B0 := hid (Blk.new w 33 #[.int .i64 r, .int .i64 d, .int .i64 k])
  rcases hv : vldB r d k
  · have e : wordsI r d k = 0 := by simp [wordsI, hv]
    rw [e]; clear e
    have HV := hid hv
    clear hv
    go_enter Tryz.func153, Tryz.ntmps153
    go_wp2_with (go_at_call 136; refine (r_valid r d k _).mono ?_; rintro e w1 ⟨rfl, K1⟩; rw [HV.out]; have HK := hid K1; clear K1)
    go_ret
    exact ⟨rfl, (Kp.new _ _).chain HK.out⟩
  · obtain ⟨r, d, k, rfl, rfl, rfl, hr, hd, hk⟩ := vldB_nat hv
    have e : wordsI r d k = 2 + (r : Int) + (d : Int) + (2 + (r : Int) + (d : Int)) % 2 := by simp only [wordsI, hv, if_true, Int.toNat_natCast, wdN]; omega
    have HE := hid e
    clear e
    have HV := hid hv
    clear hv
    go_enter Tryz.func153, Tryz.ntmps153
    go_wp2_with (first | (go_at_call 136; refine (r_valid r d k _).mono ?_; rintro e w1 ⟨rfl, K1⟩; rw [HV.out]; have HK := hid K1; have B1 := B0.out.kp K1 (by simp); have q0 := B1.cell 0; have q1 := B1.cell 1; clear K1 B1))
    go_ret
    rw [HE.out]
    exact ⟨rfl, ((Kp.new _ _).chain HK.out)⟩
end Go.Proofs.YtmkmnlmfpddjkaaGreat
/-
  The contracts of package heap's refWord, dataWord, SetRef, SetData, Ref, Data. Conditions: those that stand in each theorem.
-/
namespace Go.Proofs.YtmkmnlmfpddjkaaGreat
set_option linter.unusedVariables false
set_option linter.unusedSimpArgs false
open Go.RowKit Go.Deep Go.Maps

section
variable {w w' : World} {b : HB} {r : RM} {m : HM} {q : Nat}
theorem SH.shape_at (h : SH w b q m) {a : Nat} {o : Ob} (ho : m.ob a = some o) :
    Calls Tryz.prog 113 #[.pointer (some ⟨b.g, 0, none⟩), .int .i64 (a : Int)] w fun e w' => e = .returned (.agg #[.int .i64 (o.refs : Int), .int .i64 (o.data : Int), .int .i64 (o.kind : Int)]) ∧ Kp [] w w' := by
  obtain ⟨r, R, A, _⟩ := h
  have hok := A.inv.ok _ _ ho
  have hhi := A.inv.hi ho
  have hw := hok.wd_bd
  exact h_shape R a o.refs o.data o.kind (by rw [A.wl R]; omega) hok.bd.1 hok.bd.2.1 hok.bd.2.2 (A.w1 ho)
end
end Go.Proofs.YtmkmnlmfpddjkaaGreat
/-
  The contracts of package heap's SetRef, SetData, Ref, Data, isField, Poke, Ident, Shape, Find. Conditions: those that stand in each theorem.
-/
namespace Go.Proofs.YtmkmnlmfpddjkaaGreat
set_option linter.unusedVariables false
set_option linter.unusedSimpArgs false
open Go.RowKit Go.Deep Go.Maps

section
variable {w w' : World} {b : HB} {r : RM} {m : HM} {q : Nat}
end
end Go.Proofs.YtmkmnlmfpddjkaaGreat
/-
  The contracts of package heap's isField, Poke, Ident, Shape, Find, Births, Blocks. Conditions: those that stand in each theorem.
-/
namespace Go.Proofs.YtmkmnlmfpddjkaaGreat
set_option linter.unusedVariables false
set_option linter.unusedSimpArgs false
open Go.RowKit Go.Deep Go.Maps

section
variable {w w' : World} {b : HB} {r : RM} {m : HM} {q : Nat}
def HM.findE (m : HM) (a : Int) : Int := if m.ownI a = 0 then 4 else 0
theorem h_births (h : SH w b q m) :
    Calls Tryz.prog 30 #[.pointer (some ⟨b.g, 0, none⟩)] w fun e w' => e = .returned (.int .i64 (m.born : Int)) ∧ ∃ n, w' = w.drewN n := by
  have h0 := h
  obtain ⟨r, R, A, _⟩ := h
  have hc := R.c6
  rw [A.born] at hc
  go_enter Tryz.func30, Tryz.ntmps30
  go_wp2_with (first | (go_at_call 55; refine h0.made.mono ?_; rintro e w' ⟨rfl, n1, rfl⟩))
  go_ret
  exact ⟨rfl, _, rfl⟩
end
end Go.Proofs.YtmkmnlmfpddjkaaGreat
