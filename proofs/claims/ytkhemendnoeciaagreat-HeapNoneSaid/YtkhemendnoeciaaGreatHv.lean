/-
  The contract of the law's alive: it returns true. No condition.
-/
import Derived.Test.YtkhemendnoeciaaGreatHu
namespace Go.Proofs.YtkhemendnoeciaaGreat
set_option linter.unusedVariables false
set_option linter.unusedSimpArgs false
open Go.RowKit Go.Deep Go.Maps

def al0 : HM := HM.new 4
def al1 : HM := al0.claimM 1 1 0 1
def al2 : HM := al1.placeM 64 1 2 0
def al3 : HM := al2.placeM 70 0 0 0
def al4 : HM := al3.moveM 70 100
def al5 : HM := al4.moveM 64 66
def al6 : HM := al5.claimM 2 2 1 2
def al7 : HM := al6.placeM 128 0 100 0
def al8 : HM := al7.killM 128
def al9 : HM := al8.releaseM 2
theorem av1 : al0.claimE 1 1 0 = 0 := by decide +kernel
theorem av2 : al1.placeE 64 1 2 0 = 0 ∧ al1.placeV 64 1 2 0 = 1 := by decide +kernel
theorem av2g : al2.gapL 1 = [(70, 58)] := by decide +kernel
theorem av2w : al2.wordV 65 = 33 ∧ inB al2.n 65 = true := by decide +kernel
theorem av3 : al2.placeE 70 0 0 0 = 0 ∧ al2.placeV 70 0 0 0 = 2 := by decide +kernel
theorem av4 : al3.moveE 70 100 = 0 := by decide +kernel
theorem av4f : optV (al4.fwI 70) = 100 ∧ optE (al4.fwI 70) = 0 := by decide +kernel
theorem av4a : optV (al4.atI 2) = 100 ∧ optE (al4.atI 2) = 0 := by decide +kernel
theorem av5 : al4.moveE 64 66 = 0 := by decide +kernel
theorem av6 : al5.claimE 2 2 1 = 0 := by decide +kernel
theorem av7 : al6.placeE 128 0 100 0 = 0 ∧ al6.placeV 128 0 100 0 = 3 := by decide +kernel
theorem av8 : al7.lackE 128 = 0 := by decide +kernel
theorem av9 : al8.releaseE 3 = 5 ∧ al8.releaseE 2 = 0 := by decide +kernel
theorem av10 : al9.gapL 1 = [(64, 2), (72, 28), (102, 26)] := by decide +kernel

/-- The heap of alive. -/
structure Al (w W : World) (b : HB) (q : Nat) (m : HM) : Prop where
  sh : SH W b q m
  kp : Kp [] w W
  new : ∀ x ∈ b.all, w.heap.size ≤ x
/-- A slice of runs in blocks from B on. -/
def RunsFar (w : World) (B : Nat) (v : Value) (rs : List (Nat × Nat)) : Prop :=
  ∃ A cap, v = .slice A rs.length cap ∧ ∀ i, i < rs.length → ∃ g, A = some ⟨g, 0, none⟩ ∧ B ≤ g ∧ w.cell? ⟨g, i * 2, none⟩ = some (.int .i64 ((rs.getD i (0, 0)).1 : Int)) ∧ w.cell? ⟨g, i * 2 + 1, none⟩ = some (.int .i64 ((rs.getD i (0, 0)).2 : Int))
theorem RunsFar.at_ {w : World} {B : Nat} {v : Value} {rs : List (Nat × Nat)} (h : RunsFar w B v rs) : RunsAt w v rs := by
  obtain ⟨A, cap, rfl, hA⟩ := h
  exact ⟨A, cap, rfl, fun i hi => by obtain ⟨g, h1, _, h2⟩ := hA i hi; exact ⟨g, h1, h2⟩⟩
theorem RunsFar.of_own {w : World} {B : Nat} {v : Value} {rs : List (Nat × Nat)} (own : w.ownsRow B 64 2 v rs.length (rcells rs)) : RunsFar w B v rs := by
  obtain ⟨A, cap, h1, h2⟩ := RunsAt.of_own own
  refine ⟨A, cap, h1, fun i hi => ?_⟩
  obtain ⟨g, h3, h4⟩ := h2 i hi
  refine ⟨g, h3, ?_, h4⟩
  rcases own.2 with ⟨rfl, h0⟩ | ⟨g', cap', cur, rfl, hg, _⟩
  · omega
  · injection h1 with h1
    rw [h3] at h1
    injection h1 with h1
    injection h1 with h1
    omega
theorem RunsFar.kp {w W : World} {B : Nat} {S : List Nat} {v : Value} {rs : List (Nat × Nat)} (h : RunsFar w B v rs) (k : Kp S w W) (hS : ∀ x ∈ S, x < B) : RunsFar W B v rs := by
  obtain ⟨A, cap, rfl, hA⟩ := h
  refine ⟨A, cap, rfl, fun i hi => ?_⟩
  obtain ⟨g, h1, hB, h2, h3⟩ := hA i hi
  have hn : g ∉ S := fun hm => by have := hS g hm; omega
  have hb := k.block g (cell_lt h2) hn
  exact ⟨g, h1, hB, by rw [World.cell?_of_block hb]; exact h2, by rw [World.cell?_of_block hb]; exact h3⟩
section
variable {w W W' : World} {b : HB} {q q' : Nat} {m m' : HM}
theorem Al.step (a : Al w W b q m) (S : SH W' b q' m') (K : Kp b.all W W') : Al w W' b q' m' := ⟨S, a.kp.trans K (by simp) (fun x hx => .inr (a.new x hx)), a.new⟩
theorem Al.drewN (a : Al w W b q m) (n : Nat) : Al w (W.drewN n) b q m := ⟨a.sh.drewN n, a.kp.drewN n, a.new⟩
theorem Al.below (a : Al w W b q m) (k : Below W.heap.size W W') : Al w W' b q m := ⟨a.sh.below k a.sh.lt, a.kp.trans (Kp.of_below k) (by simp) (by simp), a.new⟩
theorem Al.alloc (a : Al w W b q m) (o : Obj) : Al w (W.alloc o) b q m := a.below ((Below.refl _ _).alloc (Nat.le_refl _) o)
theorem one_run (W : World) (s z : Nat) : RunsAt (W.alloc (.cells #[.int .i64 (s : Int), .int .i64 (z : Int)] 64)) (.slice (some ⟨W.heap.size, 0, none⟩) 1 1) [(s, z)] := by
  have b := Blk.new W 64 #[.int .i64 (s : Int), .int .i64 (z : Int)]
  refine ⟨_, 1, rfl, fun i hi => ⟨W.heap.size, rfl, ?_⟩⟩
  obtain rfl : i = 0 := by simpa using hi
  exact ⟨b.cell 0, b.cell 1⟩
theorem three_runs (W : World) (s z s1 z1 s2 z2 : Nat) : RunsAt (W.alloc (.cells #[.int .i64 (s : Int), .int .i64 (z : Int), .int .i64 (s1 : Int), .int .i64 (z1 : Int), .int .i64 (s2 : Int), .int .i64 (z2 : Int)] 64)) (.slice (some ⟨W.heap.size, 0, none⟩) 3 3) [(s, z), (s1, z1), (s2, z2)] := by
  have b := Blk.new W 64 #[.int .i64 (s : Int), .int .i64 (z : Int), .int .i64 (s1 : Int), .int .i64 (z1 : Int), .int .i64 (s2 : Int), .int .i64 (z2 : Int)]
  refine ⟨_, 3, rfl, fun i hi => ⟨W.heap.size, rfl, ?_⟩⟩
  have hi : i = 0 ∨ i = 1 ∨ i = 2 := by simp at hi; omega
  rcases hi with rfl | rfl | rfl
  · exact ⟨b.cell 0, b.cell 1⟩
  · exact ⟨b.cell 2, b.cell 3⟩
  · exact ⟨b.cell 4, b.cell 5⟩
theorem al_1 {w : World} (h : SH w b q al0) (hq : q ≤ 1000) : Calls Tryz.prog 22 #[.pointer (some ⟨b.g, 0, none⟩), .int .i64 1, .int .i64 0] w fun e w' => e = .returned (.int .i64 0) ∧ SH w' b q al1 ∧ Kp b.all w w' := by
  have H := h_Claim h 1 0
  rw [av1] at H
  exact H
theorem al_2 {w : World} (h : SH w b q al1) (hq : q ≤ 1000) : Calls Tryz.prog 23 #[.pointer (some ⟨b.g, 0, none⟩), .int .i64 64, .agg #[.int .i64 1, .int .i64 2, .int .i64 0]] w fun e w' => e = .returned (.tuple #[.int .i64 1, .int .i64 0]) ∧ SH w' b (q + 1) al2 ∧ Kp b.all w w' := by
  have H := h_place h 64 1 2 0 ⟨by omega, by omega⟩ (by omega)
  rw [av2.1, av2.2] at H
  exact H
theorem al_3 {w : World} (h : SH w b q al2) (hq : q ≤ 1000) : Calls Tryz.prog 23 #[.pointer (some ⟨b.g, 0, none⟩), .int .i64 70, .agg #[.int .i64 0, .int .i64 0, .int .i64 0]] w fun e w' => e = .returned (.tuple #[.int .i64 2, .int .i64 0]) ∧ SH w' b (q + 1) al3 ∧ Kp b.all w w' := by
  have H := h_place h 70 0 0 0 ⟨by omega, by omega⟩ (by omega)
  rw [av3.1, av3.2] at H
  exact H
theorem al_4 {w : World} (h : SH w b q al3) (hq : q ≤ 1000) : Calls Tryz.prog 25 #[.pointer (some ⟨b.g, 0, none⟩), .int .i64 70, .int .i64 100] w fun e w' => e = .returned (.int .i64 0) ∧ SH w' b (q + 2) al4 ∧ Kp b.all w w' := by
  have H := h_move h 70 100 ⟨by omega, by omega⟩ ⟨by omega, by omega⟩ (by omega)
  rw [av4] at H
  exact H
theorem al_5 {w : World} (h : SH w b q al4) (hq : q ≤ 1000) : Calls Tryz.prog 25 #[.pointer (some ⟨b.g, 0, none⟩), .int .i64 64, .int .i64 66] w fun e w' => e = .returned (.int .i64 0) ∧ SH w' b (q + 2) al5 ∧ Kp b.all w w' := by
  have H := h_move h 64 66 ⟨by omega, by omega⟩ ⟨by omega, by omega⟩ (by omega)
  rw [av5] at H
  exact H
theorem al_6 {w : World} (h : SH w b q al5) (hq : q ≤ 1000) : Calls Tryz.prog 28 #[.pointer (some ⟨b.g, 0, none⟩), .int .i64 2, .int .i64 2, .int .i64 1] w fun e w' => e = .returned (.int .i64 0) ∧ SH w' b q al6 ∧ Kp b.all w w' := by
  have H := h_ClaimLarge h 2 2 1
  rw [av6] at H
  exact H
theorem al_7 {w : World} (h : SH w b q al6) (hq : q ≤ 1000) : Calls Tryz.prog 23 #[.pointer (some ⟨b.g, 0, none⟩), .int .i64 128, .agg #[.int .i64 0, .int .i64 100, .int .i64 0]] w fun e w' => e = .returned (.tuple #[.int .i64 3, .int .i64 0]) ∧ SH w' b (q + 1) al7 ∧ Kp b.all w w' := by
  have H := h_place h 128 0 100 0 ⟨by omega, by omega⟩ (by omega)
  rw [av7.1, av7.2] at H
  exact H
theorem al_8 {w : World} (h : SH w b q al7) (hq : q ≤ 1000) : Calls Tryz.prog 29 #[.pointer (some ⟨b.g, 0, none⟩), .int .i64 128] w fun e w' => e = .returned (.int .i64 0) ∧ SH w' b q al8 ∧ Kp b.all w w' := by
  have H := h_kill h 128 ⟨by omega, by omega⟩ (by omega)
  rw [av8] at H
  exact H
theorem al_9 {w : World} (h : SH w b q al8) (hq : q ≤ 1000) : Calls Tryz.prog 30 #[.pointer (some ⟨b.g, 0, none⟩), .int .i64 3] w fun e w' => e = .returned (.int .i64 5) ∧ SH w' b q al8 ∧ Kp b.all w w' := by
  have H := h_release h 3
  rw [av9.1, show al8.releaseM 3 = al8 by unfold HM.releaseM; rw [av9.1]; rfl] at H
  exact H
theorem al_10 {w : World} (h : SH w b q al8) (hq : q ≤ 1000) : Calls Tryz.prog 30 #[.pointer (some ⟨b.g, 0, none⟩), .int .i64 2] w fun e w' => e = .returned (.int .i64 0) ∧ SH w' b q al9 ∧ Kp b.all w w' := by
  have H := h_release h 2
  rw [av9.2] at H
  exact H
theorem al_gaps {w : World} (h : SH w b q al2) : Calls Tryz.prog 17 #[.pointer (some ⟨b.g, 0, none⟩), .int .i64 1] w (Grows w.heap.size w [(70, 58)]) := by
  have H := h_gaps h 1
  rw [av2g] at H
  exact H
theorem al_gaps2 {w : World} (h : SH w b q al9) : Calls Tryz.prog 17 #[.pointer (some ⟨b.g, 0, none⟩), .int .i64 1] w (Grows w.heap.size w [(64, 2), (72, 28), (102, 26)]) := by
  have H := h_gaps h 1
  rw [av10] at H
  exact H
theorem al_word {w : World} (h : SH w b q al2) : Calls Tryz.prog 24 #[.pointer (some ⟨b.g, 0, none⟩), .int .i64 65] w fun e w' => e = .returned (.tuple #[.int .i64 33, .int .i64 0]) ∧ ∃ n, w' = w.drewN n := by
  have H := h_word h 65
  rw [av2w.1, av2w.2, if_pos rfl] at H
  exact H
theorem al_fwd {w : World} (h : SH w b q al4) : Calls Tryz.prog 26 #[.pointer (some ⟨b.g, 0, none⟩), .int .i64 70] w fun e w' => e = .returned (.tuple #[.int .i64 100, .int .i64 0]) ∧ ∃ n, w' = w.drewN n := by
  have H := h_forward h 70 ⟨by omega, by omega⟩
  rw [av4f.1, av4f.2] at H
  exact H
theorem al_at {w : World} (h : SH w b q al4) : Calls Tryz.prog 27 #[.pointer (some ⟨b.g, 0, none⟩), .int .i64 2] w fun e w' => e = .returned (.tuple #[.int .i64 100, .int .i64 0]) ∧ ∃ n, w' = w.drewN n := by
  have H := h_at h 2 ⟨by omega, by omega⟩
  rw [av4a.1, av4a.2] at H
  exact H
set_option maxRecDepth 100000 in
set_option maxHeartbeats 8000000 in
theorem alive_ok (w : World) : Calls Tryz.prog 6 #[] w (TrueP w) := by
  go_enter Tryz.func6, Tryz.ntmps6
  go_wp2_with (fail)
  refine (h_new_ok 4 w (by omega) (by omega)).mono ?_
  rintro e w1 ⟨b, rfl, S0, K0, N0⟩
  have A0 := hid (show Al w w1 b 0 al0 from ⟨S0, K0, N0⟩)
  clear S0 K0 N0
  go_wp2_with (fail)
  refine (al_1 A0.out.sh (by omega)).mono ?_
  rintro e w1 ⟨rfl, S1, K1⟩
  have A1 := hid (A0.out.step S1 K1)
  clear S1 K1
  go_wp2_with (fail)
  refine (al_2 A1.out.sh (by omega)).mono ?_
  rintro e w2 ⟨rfl, S1, K1⟩
  have A2 := hid (A1.out.step S1 K1)
  clear S1 K1
  go_wp2_with (fail)
  refine (al_gaps A2.out.sh).mono ?_
  rintro e wg ⟨v4, rfl, own, bel⟩
  have A3 := hid (A2.out.below bel)
  have R3 := hid (RunsFar.of_own own)
  have LT := hid A2.out.sh.lt
  clear own bel
  go_wp2_with (fail)
  refine (al_word A3.out.sh).mono ?_
  rintro e w' ⟨rfl, n5, rfl⟩
  have A4 := hid (A3.out.drewN n5)
  go_wp2_with (fail)
  refine (al_3 A4.out.sh (by omega)).mono ?_
  rintro e w5 ⟨rfl, S1, K1⟩
  have A5 := hid (A4.out.step S1 K1)
  have R5 := hid (R3.out.kp K1.from_drewN LT.out)
  clear S1 K1
  go_wp2_with (fail)
  refine (al_4 A5.out.sh (by omega)).mono ?_
  rintro e w6 ⟨rfl, S1, K1⟩
  have A6 := hid (A5.out.step S1 K1)
  have R6 := hid (R5.out.kp K1 LT.out)
  clear S1 K1
  go_wp2_with (fail)
  refine (al_fwd A6.out.sh).mono ?_
  rintro e w' ⟨rfl, n7, rfl⟩
  go_wp2_with (fail)
  refine (al_at (A6.out.drewN n7).sh).mono ?_
  rintro e w' ⟨rfl, n8, rfl⟩
  have A7 := hid (A6.out.drewN (n7 + n8))
  go_wp2_with (fail)
  refine (al_5 A7.out.sh (by omega)).mono ?_
  rintro e w8 ⟨rfl, S1, K1⟩
  have A8 := hid (A7.out.step S1 K1)
  have R8 := hid (R6.out.kp K1.from_drewN LT.out)
  clear S1 K1
  go_wp2_with (fail)
  refine (al_6 A8.out.sh (by omega)).mono ?_
  rintro e w9 ⟨rfl, S1, K1⟩
  have A9 := hid (A8.out.step S1 K1)
  have R9 := hid (R8.out.kp K1 LT.out)
  clear S1 K1
  go_wp2_with (fail)
  refine (al_7 A9.out.sh (by omega)).mono ?_
  rintro e w10 ⟨rfl, S1, K1⟩
  have A10 := hid (A9.out.step S1 K1)
  have R10 := hid (R9.out.kp K1 LT.out)
  clear S1 K1
  go_wp2_with (fail)
  refine (al_8 A10.out.sh (by omega)).mono ?_
  rintro e w11 ⟨rfl, S1, K1⟩
  have A11 := hid (A10.out.step S1 K1)
  have R11 := hid (R10.out.kp K1 LT.out)
  clear S1 K1
  go_wp2_with (fail)
  refine (al_9 A11.out.sh (by omega)).mono ?_
  rintro e w12 ⟨rfl, S1, K1⟩
  have A12 := hid (A11.out.step S1 K1)
  have R12 := hid (R11.out.kp K1 LT.out)
  clear S1 K1
  go_wp2_with (fail)
  refine (al_10 A12.out.sh (by omega)).mono ?_
  rintro e w13 ⟨rfl, S1, K1⟩
  have A13 := hid (A12.out.step S1 K1)
  have R13 := hid (R12.out.kp K1 LT.out)
  clear S1 K1
  go_wp2_with (fail)
  refine (sameRuns_yes (rs := [(70, 58)]) (R13.out.kp (Kp.new _ _) (by simp)).at_ (one_run _ 70 58) (by decide)).mono ?_
  rintro e w' ⟨rfl, n14, rfl⟩
  go_wp2_with (fail)
  refine (al_gaps2 ((A13.out.alloc _).drewN n14).sh).mono ?_
  rintro e w15 ⟨v15, rfl, own, bel⟩
  have A15 := hid (((A13.out.alloc _).drewN n14).below bel)
  have R15 := hid (RunsFar.of_own own)
  clear own bel
  go_wp2_with (fail)
  refine (sameRuns_yes (rs := [(64, 2), (72, 28), (102, 26)]) (R15.out.kp (Kp.new _ _) (by simp)).at_ (three_runs _ 64 2 72 28 102 26) (by decide)).mono ?_
  rintro e w' ⟨rfl, n16, rfl⟩
  go_wp2
  go_ret
  exact ⟨rfl, ((A15.out.alloc _).drewN n16).kp⟩
end
end Go.Proofs.YtkhemendnoeciaaGreat
