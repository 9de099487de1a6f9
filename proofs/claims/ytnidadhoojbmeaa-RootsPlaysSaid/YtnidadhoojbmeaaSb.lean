/-
  The contract of the law's alive: it returns true. No condition.
-/
import Derived.Test.YtnidadhoojbmeaaSa
namespace Go.Proofs.Ytnidadhoojbmeaa
set_option linter.unusedVariables false
set_option linter.unusedSimpArgs false
open Go.RowKit Go.Deep Go.Maps

def av0 : RT := RT.new 2
def av1 : RT := av0.setM 0 0 3 64
def av2 : RT := av1.setM 0 1 0 70
def av3 : RT := av2.pushM 64
def av4 : RT := (av3.reps [64, 70] [70, 64] av3.xs).1
theorem ave1 : av0.setE 0 0 3 64 = 0 := by decide +kernel
theorem ave2 : av1.setE 0 1 0 70 = 0 := by decide +kernel
theorem ave3 : av2.pushE 64 = 0 := by decide +kernel
theorem avx : av3.xs = [⟨0, 0, 3⟩, ⟨0, 1, 0⟩, ⟨2, 0, 0⟩] := by decide +kernel
theorem avl : av3.leads av3.xs = [64, 70] := by decide +kernel
theorem avw : ∀ p ∈ av3.xs, W64 (av3.get (p.k : Int) (p.m : Int) (p.i : Int)) := by
  have h : ∀ p ∈ av3.xs, -9223372036854775808 ≤ av3.get (p.k : Int) (p.m : Int) (p.i : Int) ∧ av3.get (p.k : Int) (p.m : Int) (p.i : Int) ≤ 9223372036854775807 := by decide +kernel
  exact h
theorem avr : (av3.reps [64, 70] [70, 64] av3.xs).2 = 3 := by decide +kernel
theorem avg : av4.getV 0 0 3 = 70 ∧ av4.getE 0 0 3 = 0 := by decide +kernel
theorem avp : av4.popV = 70 ∧ av4.popE = 0 := by decide +kernel
/-- The roots of alive. -/
structure Al (w W : World) (b : RB) (t : RT) : Prop where
  rr : RR W b t
  kp : Kp [] w W
  new : ∀ x ∈ b.all, w.heap.size ≤ x
section
variable {w W W' : World} {b : RB} {t t' : RT}
theorem Al.step (a : Al w W b t) (R : RR W' b t') (K : Kp b.all W W') : Al w W' b t' := ⟨R, a.kp.trans K (by simp) (fun x hx => .inr (a.new x hx)), a.new⟩
theorem Al.chg (a : Al w W b t) (h : ChgP W b t' W') : ∃ b', b'.g = b.g ∧ Al w W' b' t' := by
  obtain ⟨b', e, R, K, hb⟩ := h
  exact ⟨b', e, R, a.kp.trans K (by simp) (fun x hx => .inr (a.new x hx)), fun x hx => by rcases hb x hx with h | h; exact a.new x h; have := a.kp.size; omega⟩
theorem Al.kp0 (a : Al w W b t) (k : Kp [] W W') : Al w W' b t := ⟨a.rr.kp0 k, a.kp.chain k, a.new⟩
theorem three_places (W : World) : IsPl (W.alloc (.cells #[.int .i64 0, .int .i64 0, .int .i64 3, .int .i64 0, .int .i64 1, .int .i64 0, .int .i64 2, .int .i64 0, .int .i64 0] 33)) (.slice (some ⟨W.heap.size, 0, none⟩) 3 3) [⟨0, 0, 3⟩, ⟨0, 1, 0⟩, ⟨2, 0, 0⟩] := by
  have b := Blk.new W 33 #[.int .i64 0, .int .i64 0, .int .i64 3, .int .i64 0, .int .i64 1, .int .i64 0, .int .i64 2, .int .i64 0, .int .i64 0]
  refine ⟨_, 3, rfl, by unfold maxLen; decide, fun i hi => ⟨W.heap.size, rfl, ?_⟩⟩
  have hi : i = 0 ∨ i = 1 ∨ i = 2 := by simp at hi; omega
  rcases hi with rfl | rfl | rfl
  · exact ⟨b.cell 0, b.cell 1, b.cell 2⟩
  · exact ⟨b.cell 3, b.cell 4, b.cell 5⟩
  · exact ⟨b.cell 6, b.cell 7, b.cell 8⟩
theorem two_ints (W : World) (x y : Int) : IsI (W.alloc (.cells #[.int .i64 x, .int .i64 y] 3)) (.slice (some ⟨W.heap.size, 0, none⟩) 2 2) [x, y] :=
  IsI.lit [x, y] (Blk.new W 3 _) (show 2 ≤ maxLen by unfold maxLen; decide)
theorem al_1 {w : World} (h : RR w b av0) : Calls Try.prog 14 #[.pointer (some ⟨b.g, 0, none⟩), .agg #[.int .i64 0, .int .i64 0, .int .i64 3], .int .i64 64] w fun e w' => e = .returned (.int .i64 0) ∧ RR w' b av1 ∧ Kp b.all w w' := by
  have H := r_set h 0 0 3 64
  rw [ave1] at H
  exact H
theorem al_2 {w : World} (h : RR w b av1) : Calls Try.prog 14 #[.pointer (some ⟨b.g, 0, none⟩), .agg #[.int .i64 0, .int .i64 1, .int .i64 0], .int .i64 70] w fun e w' => e = .returned (.int .i64 0) ∧ RR w' b av2 ∧ Kp b.all w w' := by
  have H := r_set h 0 1 0 70
  rw [ave2] at H
  exact H
theorem al_3 {w : World} (h : RR w b av2) : Calls Try.prog 15 #[.pointer (some ⟨b.g, 0, none⟩), .int .i64 64] w fun e w' => e = .returned (.int .i64 0) ∧ ChgP w b av3 w' := by
  have H := r_push h 64
  rw [ave3] at H
  exact H
theorem al_places {w : World} (h : RR w b av3) : Calls Try.prog 16 #[.pointer (some ⟨b.g, 0, none⟩)] w (RowPl w.heap.size w [⟨0, 0, 3⟩, ⟨0, 1, 0⟩, ⟨2, 0, 0⟩]) := by
  have H := r_places h
  rw [avx] at H
  exact H
theorem al_leads {w : World} (h : RR w b av3) : Calls Try.prog 19 #[.pointer (some ⟨b.g, 0, none⟩)] w (RowP w.heap.size w [64, 70]) := by
  have H := r_leads h avw
  rw [avl] at H
  exact H
theorem al_repl {w : World} (h : RR w b av3) {vf vt : Value} (hf : IsO b.all w vf [64, 70]) (ht : IsO b.all w vt [70, 64]) : Calls Try.prog 20 #[.pointer (some ⟨b.g, 0, none⟩), vf, vt] w fun e w' => e = .returned (.tuple #[.int .i64 3, .int .i64 0]) ∧ RR w' b av4 ∧ Kp b.all w w' := by
  have H := r_replace h hf ht rfl (by decide) (by decide) (by decide) (by decide)
  rw [avr] at H
  exact H
theorem al_get {w : World} (h : RR w b av4) : Calls Try.prog 21 #[.pointer (some ⟨b.g, 0, none⟩), .agg #[.int .i64 0, .int .i64 0, .int .i64 3]] w fun e w' => e = .returned (.tuple #[.int .i64 70, .int .i64 0]) ∧ Kp [] w w' := by
  have H := r_get h 0 0 3
  rw [avg.1, avg.2] at H
  exact H
theorem al_pop {w : World} (h : RR w b av4) : Calls Try.prog 22 #[.pointer (some ⟨b.g, 0, none⟩)] w fun e w' => e = .returned (.tuple #[.int .i64 70, .int .i64 0]) ∧ ChgP w b av4.popM w' := by
  have H := r_pop h
  rw [avp.1, avp.2] at H
  exact H
theorem IsI.apart {T : List Nat} {v : Value} {zs : List Int} (h : IsI w v zs) (hv : ∀ A n c g o, v = .slice (some ⟨g, o, A⟩) n c → g ∉ T) : IsO T w v zs := by
  obtain ⟨A, cap, rfl, h1, hA⟩ := h
  exact ⟨A, cap, rfl, h1, fun i hi => by obtain ⟨g, o, rfl, c⟩ := hA i hi; exact ⟨g, o, rfl, hv _ _ _ _ _ rfl, c⟩⟩
set_option maxRecDepth 100000 in
set_option maxHeartbeats 8000000 in
theorem alive_ok (w : World) : Calls Try.prog 6 #[] w (TrueP w) := by
  go_enter Try.func6, Try.ntmps6
  go_wp2_with (fail)
  refine (r_new_ok (w := w) 2 (by omega) (by omega)).mono ?_
  rintro e w1 ⟨b, rfl, S0, K0, N0⟩
  have A0 := hid (show Al w w1 b av0 from ⟨S0, K0, N0⟩)
  clear S0 K0 N0
  go_wp2_with (fail)
  refine (al_1 A0.out.rr).mono ?_
  rintro e w2 ⟨rfl, S1, K1⟩
  have A1 := hid (A0.out.step S1 K1)
  clear S1 K1
  go_wp2_with (fail)
  refine (al_2 A1.out.rr).mono ?_
  rintro e w3 ⟨rfl, S1, K1⟩
  have A2 := hid (A1.out.step S1 K1)
  clear S1 K1
  go_wp2_with (fail)
  refine (al_3 A2.out.rr).mono ?_
  rintro e w4 ⟨rfl, C1⟩
  obtain ⟨b', hb, A3⟩ := A2.out.chg C1
  rw [← hb]
  have A3 := hid A3
  clear C1 hb
  go_wp2_with (fail)
  refine (al_places A3.out.rr).mono ?_
  rintro e w5 ⟨v5, rfl, own, bel⟩
  have A5 := hid (A3.out.kp0 (Kp.of_below bel))
  have P5 := hid (IsPl.of_own own)
  clear own bel
  go_wp2_with (fail)
  refine (places_same (P5.out.kp0 (Kp.new _ _)) (three_places _) (by decide)).mono ?_
  rintro e w' ⟨rfl, n6, rfl⟩
  have A6 := hid ((A5.out.kp0 (Kp.new _ (.cells #[.int .i64 0, .int .i64 0, .int .i64 3, .int .i64 0, .int .i64 1, .int .i64 0, .int .i64 2, .int .i64 0, .int .i64 0] 33))).kp0 (Kp.draw _ n6))
  go_wp2_with (fail)
  refine (al_leads A6.out.rr).mono ?_
  rintro e w7 ⟨v7, rfl, own, bel⟩
  have A7 := hid (A6.out.kp0 (Kp.of_below bel))
  have P7 := hid (IsI.of_own own)
  clear own bel
  go_wp2_with (fail)
  refine (ints_same (P7.out.kp0 (Kp.new _ _)) (two_ints _ _ _)).mono ?_
  rintro e w' ⟨rfl, n8, rfl⟩
  have A8 := hid ((A7.out.kp0 (Kp.new _ (.cells #[.int .i64 64, .int .i64 70] 3))).kp0 (Kp.draw _ n8))
  generalize hw8 : (w7.alloc (.cells #[.int .i64 64, .int .i64 70] 3)).drewN n8 = w8 at *
  go_wp2_with (fail)
  have LT := hid A8.out.rr.lt
  have F1 : IsO b'.all ((w8.alloc (.cells #[.int .i64 64, .int .i64 70] 3)).alloc (.cells #[.int .i64 70, .int .i64 64] 3)) (.slice (some ⟨w8.heap.size, 0, none⟩) 2 2) [64, 70] := ((two_ints w8 64 70).kp0 (Kp.new _ _)).apart (fun A n c g o e hm => by injection e with e; injection e with e; injection e with e; have := LT.out g hm; omega)
  have F2 : IsO b'.all ((w8.alloc (.cells #[.int .i64 64, .int .i64 70] 3)).alloc (.cells #[.int .i64 70, .int .i64 64] 3)) (.slice (some ⟨w8.heap.size + 1, 0, none⟩) 2 2) [70, 64] := by
    have := two_ints (w8.alloc (.cells #[.int .i64 64, .int .i64 70] 3)) 70 64
    rw [World.size_alloc] at this
    exact this.apart (fun A n c g o e hm => by injection e with e; injection e with e; injection e with e; have := LT.out g hm; omega)
  have F1 := hid F1
  have F2 := hid F2
  have A9 := hid ((A8.out.kp0 (Kp.new _ (.cells #[.int .i64 64, .int .i64 70] 3))).kp0 (Kp.new _ (.cells #[.int .i64 70, .int .i64 64] 3)))
  refine (al_repl A9.out.rr F1.out F2.out).mono ?_
  rintro e w10 ⟨rfl, S1, K1⟩
  have A10 := hid (A9.out.step S1 K1)
  clear S1 K1 F1 F2
  go_wp2_with (fail)
  refine (al_get A10.out.rr).mono ?_
  rintro e w11 ⟨rfl, K1⟩
  have A11 := hid (A10.out.kp0 K1)
  clear K1
  go_wp2_with (fail)
  refine (al_pop A11.out.rr).mono ?_
  rintro e w12 ⟨rfl, C1⟩
  obtain ⟨b2, hb, A12⟩ := A11.out.chg C1
  have A12 := hid A12
  clear C1 hb
  go_wp2
  go_ret
  exact ⟨rfl, A12.out.kp⟩
end
end Go.Proofs.Ytnidadhoojbmeaa
