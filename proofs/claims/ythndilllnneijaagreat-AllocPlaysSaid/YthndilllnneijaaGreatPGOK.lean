/-
  The law's play, act by act. Conditions: those that stand in each theorem.
-/
import Derived.Test.YthndilllnneijaaGreatPGOJ
import Derived.Test.YthndilllnneijaaGreatPG21
set_option linter.unusedSimpArgs false
set_option linter.unusedVariables false
set_option maxRecDepth 100000
set_option maxHeartbeats 1000000
namespace Go.Proofs.YthndilllnneijaaGreat
open Go.RowKit Go.Deep Go.Maps
section
variable {w W V : World} {b : HB} {d d2 : DB} {m m' m2 : HM} {q p q2 p2 g g' gb : Nat} {A A' A2 : AS} {cs : Array Value}
theorem PQ.mono (P : PQ w W b q m g A d p m' g' A') (hq : q ≤ q2) (hp : p ≤ p2) : PQ w W b q2 m g A d p2 m' g' A' :=
 ⟨⟨P.v.sh.mono hq, P.v.kp, P.v.hb, P.v.al, P.v.hg, P.v.gb, P.v.ok⟩, P.t.mono hp, P.r, P.ok, P.tl, P.nd, P.ng⟩
def PlQ (w : World) (b : HB) (q g : Nat) (d : DB) (p g' : Nat) (m2 : HM) (A2 : AS) (m2' : HM) (A2' : AS) (vv : Bool) (e : Ending) (w' : World) : Prop :=
 e = .returned (.bool vv) ∧ ∃ d2, d2.g = d.g ∧ PQ w w' b (q + 1) m2 g A2 d2 (p + 1) m2' g' A2'
theorem playq0 (P : PQ w W b q m g A d p m' g' A') (a s x y z : Int) (ha : W64 a) (hq : q ≤ 700000000) (hp : p ≤ 700000000) :
   Calls Tryz.prog 25 #[.pointer (some ⟨b.g, 0, none⟩), .pointer (some ⟨g, 0, none⟩), .pointer (some ⟨d.g, 0, none⟩), .pointer (some ⟨g', 0, none⟩), .agg #[.int .i64 0, .int .i64 a, .int .i64 s, .int .i64 x, .int .i64 y, .int .i64 z]] W (PlQ w b q g d p g' (m.alM A x y z) (m.alA A x y z) (m'.ra A' x y z).2.1 (m'.ra A' x y z).2.2 ((m.alV A x y z : Int) == (m'.ra A' x y z).1.1 && m.alE A x y z == (m'.ra A' x y z).1.2)) := by
 have HA := hid ha
 have HU := hid (PX.start P #[.int .i64 0, .int .i64 a, .int .i64 s, .int .i64 x, .int .i64 y, .int .i64 z])
 have u0 := PX.start P #[.int .i64 0, .int .i64 a, .int .i64 s, .int .i64 x, .int .i64 y, .int .i64 z]
 have z0 := u0.bx.cell 0
 have z1 := u0.bx.cell 1
 have z2 := u0.bx.cell 2
 have z3 := u0.bx.cell 3
 have z4 := u0.bx.cell 4
 have z5 := u0.bx.cell 5
 obtain ⟨v1, hv1⟩ : ∃ v, (m.alV A x y z : Int) = v := ⟨_, rfl⟩
 obtain ⟨e1, he1⟩ : ∃ v, m.alE A x y z = v := ⟨_, rfl⟩
 obtain ⟨v2, hv2⟩ : ∃ v, (m'.ra A' x y z).1.1 = v := ⟨_, rfl⟩
 obtain ⟨e2, he2⟩ : ∃ v, (m'.ra A' x y z).1.2 = v := ⟨_, rfl⟩
 rw [hv1, he1, hv2, he2]
 have HV1 := hid hv1
 have HE1 := hid he1
 have HV2 := hid hv2
 have HE2 := hid he2
 clear P ha u0 hv1 he1 hv2 he2
 by_cases hv : v1 = v2
 · have tv : (v1 == v2) = true := beq_iff_eq.2 hv
   clear hv
   go_enter Tryz.func25, Tryz.ntmps25
   go_wp2_with (first
     | (go_at_call 32; refine (HU.out.allocP x y z (by omega)).mono ?_; rintro e w1 ⟨rfl, U1⟩; rw [HV1.out, HE1.out]; have HU1 := hid U1; have i1 := U1.bx.cell 1; have i2 := U1.bx.cell 2; have i3 := U1.bx.cell 3; have i4 := U1.bx.cell 4; have i5 := U1.bx.cell 5; clear U1)
     | (go_at_call 101; refine (HU1.out.allocD x y z (by omega)).mono ?_; rintro e w2 ⟨rfl, d2, hg2, U2⟩; rw [HV2.out, HE2.out]; have HU2 := hid U2; have HG2 := hid hg2; clear U2 hg2))
   go_ret
   exact ⟨by rw [tv]; rfl, d2, HG2.out, HU2.out.pq.mono (by omega) (by omega)⟩
 · have tv : (v1 == v2) = false := beq_eq_false_iff_ne.2 hv
   clear hv
   go_enter Tryz.func25, Tryz.ntmps25
   go_wp2_with (first
     | (go_at_call 32; refine (HU.out.allocP x y z (by omega)).mono ?_; rintro e w1 ⟨rfl, U1⟩; rw [HV1.out, HE1.out]; have HU1 := hid U1; have i1 := U1.bx.cell 1; have i2 := U1.bx.cell 2; have i3 := U1.bx.cell 3; have i4 := U1.bx.cell 4; have i5 := U1.bx.cell 5; clear U1)
     | (go_at_call 101; refine (HU1.out.allocD x y z (by omega)).mono ?_; rintro e w2 ⟨rfl, d2, hg2, U2⟩; rw [HV2.out, HE2.out]; have HU2 := hid U2; have HG2 := hid hg2; clear U2 hg2))
   go_ret
   exact ⟨by rw [tv]; rfl, d2, HG2.out, HU2.out.pq.mono (by omega) (by omega)⟩
theorem playq6 (P : PQ w W b q m g A d p m' g' A') (a s x y z : Int) (ha : W64 a) (hq : q ≤ 700000000) (hp : p ≤ 700000000) :
   Calls Tryz.prog 25 #[.pointer (some ⟨b.g, 0, none⟩), .pointer (some ⟨g, 0, none⟩), .pointer (some ⟨d.g, 0, none⟩), .pointer (some ⟨g', 0, none⟩), .agg #[.int .i64 6, .int .i64 a, .int .i64 s, .int .i64 x, .int .i64 y, .int .i64 z]] W (PlQ w b q g d p g' (m.placeM a x y z) A (m'.placeM a x y z) A' (m.placeV a x y z == m'.placeV a x y z && m.placeE a x y z == m'.placeE a x y z)) := by
 have HA := hid ha
 have HU := hid (PX.start P #[.int .i64 6, .int .i64 a, .int .i64 s, .int .i64 x, .int .i64 y, .int .i64 z])
 have u0 := PX.start P #[.int .i64 6, .int .i64 a, .int .i64 s, .int .i64 x, .int .i64 y, .int .i64 z]
 have z0 := u0.bx.cell 0
 have z1 := u0.bx.cell 1
 have z2 := u0.bx.cell 2
 have z3 := u0.bx.cell 3
 have z4 := u0.bx.cell 4
 have z5 := u0.bx.cell 5
 obtain ⟨v1, hv1⟩ : ∃ v, m.placeV a x y z = v := ⟨_, rfl⟩
 obtain ⟨e1, he1⟩ : ∃ v, m.placeE a x y z = v := ⟨_, rfl⟩
 obtain ⟨v2, hv2⟩ : ∃ v, m'.placeV a x y z = v := ⟨_, rfl⟩
 obtain ⟨e2, he2⟩ : ∃ v, m'.placeE a x y z = v := ⟨_, rfl⟩
 rw [hv1, he1, hv2, he2]
 have HV1 := hid hv1
 have HE1 := hid he1
 have HV2 := hid hv2
 have HE2 := hid he2
 clear P ha u0 hv1 he1 hv2 he2
 by_cases hv : v1 = v2
 · have tv : (v1 == v2) = true := beq_iff_eq.2 hv
   clear hv
   go_enter Tryz.func25, Tryz.ntmps25
   go_wp2_with (first
     | (go_at_call 44; refine (HU.out.placeP a x y z HA.out (by omega)).mono ?_; rintro e w1 ⟨rfl, U1⟩; rw [HV1.out, HE1.out]; have HU1 := hid U1; have i1 := U1.bx.cell 1; have i2 := U1.bx.cell 2; have i3 := U1.bx.cell 3; have i4 := U1.bx.cell 4; have i5 := U1.bx.cell 5; clear U1)
     | (go_at_call 66; refine (HU1.out.placeD a x y z HA.out (by omega)).mono ?_; rintro e w2 ⟨rfl, d2, hg2, U2⟩; rw [HV2.out, HE2.out]; have HU2 := hid U2; have HG2 := hid hg2; clear U2 hg2))
   go_ret
   exact ⟨by rw [tv]; rfl, d2, HG2.out, HU2.out.pq.mono (by omega) (by omega)⟩
 · have tv : (v1 == v2) = false := beq_eq_false_iff_ne.2 hv
   clear hv
   go_enter Tryz.func25, Tryz.ntmps25
   go_wp2_with (first
     | (go_at_call 44; refine (HU.out.placeP a x y z HA.out (by omega)).mono ?_; rintro e w1 ⟨rfl, U1⟩; rw [HV1.out, HE1.out]; have HU1 := hid U1; have i1 := U1.bx.cell 1; have i2 := U1.bx.cell 2; have i3 := U1.bx.cell 3; have i4 := U1.bx.cell 4; have i5 := U1.bx.cell 5; clear U1)
     | (go_at_call 66; refine (HU1.out.placeD a x y z HA.out (by omega)).mono ?_; rintro e w2 ⟨rfl, d2, hg2, U2⟩; rw [HV2.out, HE2.out]; have HU2 := hid U2; have HG2 := hid hg2; clear U2 hg2))
   go_ret
   exact ⟨by rw [tv]; rfl, d2, HG2.out, HU2.out.pq.mono (by omega) (by omega)⟩
theorem playq1 (P : PQ w W b q m g A d p m' g' A') (a s x y z : Int) (ha : W64 a) (hq : q ≤ 700000000) (hp : p ≤ 700000000) :
   Calls Tryz.prog 25 #[.pointer (some ⟨b.g, 0, none⟩), .pointer (some ⟨g, 0, none⟩), .pointer (some ⟨d.g, 0, none⟩), .pointer (some ⟨g', 0, none⟩), .agg #[.int .i64 1, .int .i64 a, .int .i64 s, .int .i64 x, .int .i64 y, .int .i64 z]] W (PlQ w b q g d p g' (m.killM (m'.oneV a)) A (m'.killM (m'.oneV a)) A' (m.lackE (m'.oneV a) == m'.lackE (m'.oneV a))) := by
 have HA := hid ha
 have HU := hid (PX.start P #[.int .i64 1, .int .i64 a, .int .i64 s, .int .i64 x, .int .i64 y, .int .i64 z])
 have u0 := PX.start P #[.int .i64 1, .int .i64 a, .int .i64 s, .int .i64 x, .int .i64 y, .int .i64 z]
 have z0 := u0.bx.cell 0
 have z1 := u0.bx.cell 1
 have z2 := u0.bx.cell 2
 have z3 := u0.bx.cell 3
 have z4 := u0.bx.cell 4
 have z5 := u0.bx.cell 5
 have hob := oneV_bd P.t.inv a
 obtain ⟨n1, hn1⟩ : ∃ n, m'.oneV a = n := ⟨_, rfl⟩
 have HN1 := hid hn1
 rw [hn1] at hob ⊢
 have HW1 : Hid (W64 n1) := ⟨by omega, by omega⟩
 clear P ha u0 hn1 hob
 go_enter Tryz.func25, Tryz.ntmps25
 go_wp2_with (first
   | (go_at_call 102; refine (l_one HU.out.pq.t a HA.out).mono ?_; rintro e w1 ⟨rfl, K1⟩; rw [HN1.out]; have HU1 := hid (HU.out.step K1); clear K1)
   | (go_at_call 51; refine (HU1.out.killP n1 HW1.out (by omega)).mono ?_; rintro e w2 ⟨rfl, U2⟩; have HU2 := hid U2; clear U2)
   | (go_at_call 67; refine (HU2.out.killD n1).mono ?_; rintro e w3 ⟨rfl, d3, hg3, U3⟩; have HU3 := hid U3; have HG3 := hid hg3; clear U3 hg3))
 go_ret
 exact ⟨rfl, d3, HG3.out, HU3.out.pq.mono (by omega) (by omega)⟩
theorem playq2 (P : PQ w W b q m g A d p m' g' A') (a s x y z : Int) (ha : W64 a) (hq : q ≤ 700000000) (hp : p ≤ 700000000) :
   Calls Tryz.prog 25 #[.pointer (some ⟨b.g, 0, none⟩), .pointer (some ⟨g, 0, none⟩), .pointer (some ⟨d.g, 0, none⟩), .pointer (some ⟨g', 0, none⟩), .agg #[.int .i64 2, .int .i64 a, .int .i64 s, .int .i64 x, .int .i64 y, .int .i64 z]] W (PlQ w b q g d p g' m A.reset m' A'.reset true) := by
 have HA := hid ha
 have HU := hid (PX.start P #[.int .i64 2, .int .i64 a, .int .i64 s, .int .i64 x, .int .i64 y, .int .i64 z])
 have u0 := PX.start P #[.int .i64 2, .int .i64 a, .int .i64 s, .int .i64 x, .int .i64 y, .int .i64 z]
 have z0 := u0.bx.cell 0
 have z1 := u0.bx.cell 1
 have z2 := u0.bx.cell 2
 have z3 := u0.bx.cell 3
 have z4 := u0.bx.cell 4
 have z5 := u0.bx.cell 5
 clear P ha u0
 go_enter Tryz.func25, Tryz.ntmps25
 go_wp2_with (first
   | (go_at_call 103; refine HU.out.resetP.mono ?_; rintro e w1 ⟨rfl, U1⟩; have HU1 := hid U1; clear U1)
   | (go_at_call 104; refine HU1.out.resetD.mono ?_; rintro e w2 ⟨rfl, U2⟩; have HU2 := hid U2; clear U2))
 go_ret
 exact ⟨rfl, d, rfl, HU2.out.pq.mono (by omega) (by omega)⟩
theorem playq4 (P : PQ w W b q m g A d p m' g' A') (a s x y z : Int) (ha : W64 a) (hq : q ≤ 700000000) (hp : p ≤ 700000000) :
   Calls Tryz.prog 25 #[.pointer (some ⟨b.g, 0, none⟩), .pointer (some ⟨g, 0, none⟩), .pointer (some ⟨d.g, 0, none⟩), .pointer (some ⟨g', 0, none⟩), .agg #[.int .i64 4, .int .i64 a, .int .i64 s, .int .i64 x, .int .i64 y, .int .i64 z]] W (PlQ w b q g d p g' (m.claimM a 1 s 1) A (m'.claimM a 1 s 1) A' (m.claimE a 1 s == m'.claimE a 1 s)) := by
 have HA := hid ha
 have HU := hid (PX.start P #[.int .i64 4, .int .i64 a, .int .i64 s, .int .i64 x, .int .i64 y, .int .i64 z])
 have u0 := PX.start P #[.int .i64 4, .int .i64 a, .int .i64 s, .int .i64 x, .int .i64 y, .int .i64 z]
 have z0 := u0.bx.cell 0
 have z1 := u0.bx.cell 1
 have z2 := u0.bx.cell 2
 have z3 := u0.bx.cell 3
 have z4 := u0.bx.cell 4
 have z5 := u0.bx.cell 5
 clear P ha
 go_enter Tryz.func25, Tryz.ntmps25
 go_wp2_with (fail)
 generalize hw0 : W.alloc (.cells #[.int .i64 4, .int .i64 a, .int .i64 s, .int .i64 x, .int .i64 y, .int .i64 z] 51) = w0 at HU u0 z0 z1 z2 z3 z4 z5 ⊢
 generalize hgb : W.heap.size = gb at HU u0 z0 z1 z2 z3 z4 z5 ⊢
 clear hw0 hgb u0 z0 z3 z4 z5
 have v1 := kp_cellD (Kp.draw w0 1) z1
 have v2 := kp_cellD (Kp.draw w0 1) z2
 go_region_held3 (fun W => W.cell? ⟨gb, 1, none⟩ = some (.int .i64 a) ∧ W.cell? ⟨gb, 2, none⟩ = some (.int .i64 s)) (go_keep)
   (first
     | (go_at_call 43; refine ((HU.out.step (Kp.draw w0 1)).claimP a s).mono ?_; rintro e w1 ⟨rfl, U1⟩; have u1 := U1.bx.cell 1; have u2 := U1.bx.cell 2; have HU1 := hid U1; clear U1)
     | (go_at_call 61; refine (HU1.out.claimD a s).mono ?_; rintro e w2 ⟨rfl, d2, hg2, U2⟩; have x1 := U2.bx.cell 1; have x2 := U2.bx.cell 2; have HU2 := hid U2; have HG2 := hid hg2; clear U2 hg2))
 all_goals (
   go_wp2
   go_ret
   exact ⟨rfl, d2, HG2.out, HU2.out.pq.mono (by omega) (by omega)⟩)
theorem playq5 (P : PQ w W b q m g A d p m' g' A') (a s x y z : Int) (ha : W64 a) (hq : q ≤ 700000000) (hp : p ≤ 700000000) :
   Calls Tryz.prog 25 #[.pointer (some ⟨b.g, 0, none⟩), .pointer (some ⟨g, 0, none⟩), .pointer (some ⟨d.g, 0, none⟩), .pointer (some ⟨g', 0, none⟩), .agg #[.int .i64 5, .int .i64 a, .int .i64 s, .int .i64 x, .int .i64 y, .int .i64 z]] W (PlQ w b q g d p g' (m.releaseM a) A (m'.releaseM a) A' (m.releaseE a == m'.releaseE a)) := by
 have HA := hid ha
 have HU := hid (PX.start P #[.int .i64 5, .int .i64 a, .int .i64 s, .int .i64 x, .int .i64 y, .int .i64 z])
 have u0 := PX.start P #[.int .i64 5, .int .i64 a, .int .i64 s, .int .i64 x, .int .i64 y, .int .i64 z]
 have z0 := u0.bx.cell 0
 have z1 := u0.bx.cell 1
 have z2 := u0.bx.cell 2
 have z3 := u0.bx.cell 3
 have z4 := u0.bx.cell 4
 have z5 := u0.bx.cell 5
 clear P ha
 go_enter Tryz.func25, Tryz.ntmps25
 go_wp2_with (fail)
 generalize hw0 : W.alloc (.cells #[.int .i64 5, .int .i64 a, .int .i64 s, .int .i64 x, .int .i64 y, .int .i64 z] 51) = w0 at HU u0 z0 z1 z2 z3 z4 z5 ⊢
 generalize hgb : W.heap.size = gb at HU u0 z0 z1 z2 z3 z4 z5 ⊢
 clear hw0 hgb u0 z0 z3 z4 z5
 have v1 := kp_cellD (Kp.draw w0 1) z1
 have v2 := kp_cellD (Kp.draw w0 1) z2
 go_region_held3 (fun W => W.cell? ⟨gb, 1, none⟩ = some (.int .i64 a) ∧ W.cell? ⟨gb, 2, none⟩ = some (.int .i64 s)) (go_keep)
   (first
     | (go_at_call 52; refine ((HU.out.step (Kp.draw w0 1)).releaseP a).mono ?_; rintro e w1 ⟨rfl, U1⟩; have u1 := U1.bx.cell 1; have u2 := U1.bx.cell 2; have HU1 := hid U1; clear U1)
     | (go_at_call 63; refine (HU1.out.releaseD a).mono ?_; rintro e w2 ⟨rfl, d2, hg2, U2⟩; have x1 := U2.bx.cell 1; have x2 := U2.bx.cell 2; have HU2 := hid U2; have HG2 := hid hg2; clear U2 hg2))
 all_goals (
   go_wp2
   go_ret
   exact ⟨rfl, d2, HG2.out, HU2.out.pq.mono (by omega) (by omega)⟩)
theorem playq7 (P : PQ w W b q m g A d p m' g' A') (a s x y z : Int) (ha : W64 a) (hq : q ≤ 700000000) (hp : p ≤ 700000000) :
   Calls Tryz.prog 25 #[.pointer (some ⟨b.g, 0, none⟩), .pointer (some ⟨g, 0, none⟩), .pointer (some ⟨d.g, 0, none⟩), .pointer (some ⟨g', 0, none⟩), .agg #[.int .i64 7, .int .i64 a, .int .i64 s, .int .i64 x, .int .i64 y, .int .i64 z]] W (PlQ w b q g d p g' (m.retagM a s) A (m'.retagM a s) A' (m.retagE a s == m'.retagE a s)) := by
 have HA := hid ha
 have HU := hid (PX.start P #[.int .i64 7, .int .i64 a, .int .i64 s, .int .i64 x, .int .i64 y, .int .i64 z])
 have u0 := PX.start P #[.int .i64 7, .int .i64 a, .int .i64 s, .int .i64 x, .int .i64 y, .int .i64 z]
 have z0 := u0.bx.cell 0
 have z1 := u0.bx.cell 1
 have z2 := u0.bx.cell 2
 have z3 := u0.bx.cell 3
 have z4 := u0.bx.cell 4
 have z5 := u0.bx.cell 5
 clear P ha
 go_enter Tryz.func25, Tryz.ntmps25
 go_wp2_with (fail)
 generalize hw0 : W.alloc (.cells #[.int .i64 7, .int .i64 a, .int .i64 s, .int .i64 x, .int .i64 y, .int .i64 z] 51) = w0 at HU u0 z0 z1 z2 z3 z4 z5 ⊢
 generalize hgb : W.heap.size = gb at HU u0 z0 z1 z2 z3 z4 z5 ⊢
 clear hw0 hgb u0 z0 z3 z4 z5
 have v1 := kp_cellD (Kp.draw w0 1) z1
 have v2 := kp_cellD (Kp.draw w0 1) z2
 go_region_held3 (fun W => W.cell? ⟨gb, 1, none⟩ = some (.int .i64 a) ∧ W.cell? ⟨gb, 2, none⟩ = some (.int .i64 s)) (go_keep)
   (first
     | (go_at_call 64; refine ((HU.out.step (Kp.draw w0 1)).retagP a s).mono ?_; rintro e w1 ⟨rfl, U1⟩; have u1 := U1.bx.cell 1; have u2 := U1.bx.cell 2; have HU1 := hid U1; clear U1)
     | (go_at_call 65; refine (HU1.out.retagD a s).mono ?_; rintro e w2 ⟨rfl, d2, hg2, U2⟩; have x1 := U2.bx.cell 1; have x2 := U2.bx.cell 2; have HU2 := hid U2; have HG2 := hid hg2; clear U2 hg2))
 all_goals (
   go_wp2
   go_ret
   exact ⟨rfl, d2, HG2.out, HU2.out.pq.mono (by omega) (by omega)⟩)
theorem playqn (P : PQ w W b q m g A d p m' g' A') (k a s x y z : Int) (ha : W64 a) (hq : q ≤ 700000000) (hp : p ≤ 700000000) (hk : k ≠ 0 ∧ k ≠ 1 ∧ k ≠ 2 ∧ k ≠ 4 ∧ k ≠ 5 ∧ k ≠ 6 ∧ k ≠ 7) :
   Calls Tryz.prog 25 #[.pointer (some ⟨b.g, 0, none⟩), .pointer (some ⟨g, 0, none⟩), .pointer (some ⟨d.g, 0, none⟩), .pointer (some ⟨g', 0, none⟩), .agg #[.int .i64 k, .int .i64 a, .int .i64 s, .int .i64 x, .int .i64 y, .int .i64 z]] W (PlQ w b q g d p g' m A m' A' true) := by
 have HA := hid ha
 have HU := hid (PX.start P #[.int .i64 k, .int .i64 a, .int .i64 s, .int .i64 x, .int .i64 y, .int .i64 z])
 have u0 := PX.start P #[.int .i64 k, .int .i64 a, .int .i64 s, .int .i64 x, .int .i64 y, .int .i64 z]
 have z0 := u0.bx.cell 0
 have z1 := u0.bx.cell 1
 have z2 := u0.bx.cell 2
 have z3 := u0.bx.cell 3
 have z4 := u0.bx.cell 4
 have z5 := u0.bx.cell 5
 obtain ⟨h0, h1, h2, h4, h5, h6, h7⟩ := hk
 have t0 : (k == 0) = false := beq_eq_false_iff_ne.2 h0
 have t1 : (k == 1) = false := beq_eq_false_iff_ne.2 h1
 have t2 : (k == 2) = false := beq_eq_false_iff_ne.2 h2
 have t4 : (k == 4) = false := beq_eq_false_iff_ne.2 h4
 have t5 : (k == 5) = false := beq_eq_false_iff_ne.2 h5
 have t6 : (k == 6) = false := beq_eq_false_iff_ne.2 h6
 have t7 : (k == 7) = false := beq_eq_false_iff_ne.2 h7
 clear P ha u0 h0 h1 h2 h4 h5 h6 h7
 go_enter Tryz.func25, Tryz.ntmps25
 go_wp2
 go_ret
 exact ⟨rfl, d, rfl, HU.out.pq.mono (by omega) (by omega)⟩
def pqP (m : HM) (A : AS) (n1 k a s x y z : Int) : HM × AS :=
 if k = 0 then (m.alM A x y z, m.alA A x y z) else if k = 1 then (m.killM n1, A) else if k = 2 then (m, A.reset) else if k = 4 then (m.claimM a 1 s 1, A) else if k = 5 then (m.releaseM a, A) else if k = 6 then (m.placeM a x y z, A) else if k = 7 then (m.retagM a s, A) else (m, A)
def pqD (m : HM) (A : AS) (n1 k a s x y z : Int) : HM × AS :=
 if k = 0 then (m.ra A x y z).2 else if k = 1 then (m.killM n1, A) else if k = 2 then (m, A.reset) else if k = 4 then (m.claimM a 1 s 1, A) else if k = 5 then (m.releaseM a, A) else if k = 6 then (m.placeM a x y z, A) else if k = 7 then (m.retagM a s, A) else (m, A)
def pqB (m : HM) (A : AS) (m' : HM) (A' : AS) (n1 k a s x y z : Int) : Bool :=
 if k = 0 then ((m.alV A x y z : Int) == (m'.ra A' x y z).1.1 && m.alE A x y z == (m'.ra A' x y z).1.2) else if k = 1 then m.lackE n1 == m'.lackE n1 else if k = 2 then true else if k = 4 then m.claimE a 1 s == m'.claimE a 1 s else if k = 5 then m.releaseE a == m'.releaseE a else if k = 6 then (m.placeV a x y z == m'.placeV a x y z && m.placeE a x y z == m'.placeE a x y z) else if k = 7 then m.retagE a s == m'.retagE a s else true
theorem play_q (P : PQ w W b q m g A d p m' g' A') (k a s x y z : Int) (ha : W64 a) (hq : q ≤ 700000000) (hp : p ≤ 700000000) :
   Calls Tryz.prog 25 #[.pointer (some ⟨b.g, 0, none⟩), .pointer (some ⟨g, 0, none⟩), .pointer (some ⟨d.g, 0, none⟩), .pointer (some ⟨g', 0, none⟩), .agg #[.int .i64 k, .int .i64 a, .int .i64 s, .int .i64 x, .int .i64 y, .int .i64 z]] W (PlQ w b q g d p g' (pqP m A (m'.oneV a) k a s x y z).1 (pqP m A (m'.oneV a) k a s x y z).2 (pqD m' A' (m'.oneV a) k a s x y z).1 (pqD m' A' (m'.oneV a) k a s x y z).2 (pqB m A m' A' (m'.oneV a) k a s x y z)) := by
 by_cases h0 : k = 0
 · subst h0; exact playq0 P a s x y z ha hq hp
 by_cases h1 : k = 1
 · subst h1; exact playq1 P a s x y z ha hq hp
 by_cases h2 : k = 2
 · subst h2; exact playq2 P a s x y z ha hq hp
 by_cases h4 : k = 4
 · subst h4; exact playq4 P a s x y z ha hq hp
 by_cases h5 : k = 5
 · subst h5; exact playq5 P a s x y z ha hq hp
 by_cases h6 : k = 6
 · subst h6; exact playq6 P a s x y z ha hq hp
 by_cases h7 : k = 7
 · subst h7; exact playq7 P a s x y z ha hq hp
 have e1 : pqP m A (m'.oneV a) k a s x y z = (m, A) := by unfold pqP; rw [if_neg h0, if_neg h1, if_neg h2, if_neg h4, if_neg h5, if_neg h6, if_neg h7]
 have e2 : pqD m' A' (m'.oneV a) k a s x y z = (m', A') := by unfold pqD; rw [if_neg h0, if_neg h1, if_neg h2, if_neg h4, if_neg h5, if_neg h6, if_neg h7]
 have e3 : pqB m A m' A' (m'.oneV a) k a s x y z = true := by unfold pqB; rw [if_neg h0, if_neg h1, if_neg h2, if_neg h4, if_neg h5, if_neg h6, if_neg h7]
 rw [e1, e2, e3]
 exact playqn P k a s x y z ha hq hp ⟨h0, h1, h2, h4, h5, h6, h7⟩
end
structure QAct where
 k : Int
 a : Int
 s : Int
 x : Int
 y : Int
 z : Int
def QActs (w : World) (Ad : Option Addr) (len : Nat) : Prop := ∀ i, i < len → ∃ (g o : Nat) (y : QAct), W64 y.a ∧ Ad = some ⟨g, o, none⟩ ∧ w.cell? ⟨g, o + i * 6, none⟩ = some (.int .i64 y.k) ∧ w.cell? ⟨g, o + i * 6 + 1, none⟩ = some (.int .i64 y.a) ∧ w.cell? ⟨g, o + i * 6 + 2, none⟩ = some (.int .i64 y.s) ∧ w.cell? ⟨g, o + i * 6 + 3, none⟩ = some (.int .i64 y.x) ∧ w.cell? ⟨g, o + i * 6 + 4, none⟩ = some (.int .i64 y.y) ∧ w.cell? ⟨g, o + i * 6 + 5, none⟩ = some (.int .i64 y.z)
theorem QActs.kp0 {w W : World} {Ad : Option Addr} {len : Nat} (h : QActs w Ad len) (k : Kp [] w W) : QActs W Ad len := fun i hi => by
 obtain ⟨g, o, y, h1, h2, c0, c1, c2, c3, c4, c5⟩ := h i hi
 exact ⟨g, o, y, h1, h2, cell_kp k c0, cell_kp k c1, cell_kp k c2, cell_kp k c3, cell_kp k c4, cell_kp k c5⟩
section
variable {w W V : World} {b : HB} {d d2 : DB} {m m' m2 : HM} {q p q2 p2 g g' gb : Nat} {A A' A2 : AS} {cs : Array Value}
theorem few_k (n : Int) (W : World) {p : Bool} (hp : Hid ((decide (n ≤ 12) || decide (64 < n)) = p)) :
   Calls Tryz.prog 19 #[.int .i64 n] W fun e w' => e = .returned (.bool p) ∧ Kp [] W w' := by
 rw [← hp.out]
 by_cases h1 : n ≤ 12
 · have t1 : decide (n ≤ 12) = true := decide_eq_true h1
   clear hp
   go_enter Tryz.func19, Tryz.ntmps19
   go_wp2
   go_ret
   exact ⟨by simp [h1], Kp.refl _ _⟩
 · have t1 : decide (n ≤ 12) = false := decide_eq_false h1
   by_cases h2 : 64 < n
   · have t2 : decide (64 < n) = true := decide_eq_true h2
     clear hp
     go_enter Tryz.func19, Tryz.ntmps19
     go_wp2
     go_ret
     exact ⟨by simp [h1, h2], Kp.refl _ _⟩
   · have t2 : decide (64 < n) = false := decide_eq_false h2
     clear hp
     go_enter Tryz.func19, Tryz.ntmps19
     go_wp2
     go_ret
     exact ⟨by simp [h1, h2], Kp.refl _ _⟩
theorem al_alive_q (K : Kp [] w W) : Calls Tryz.prog 20 #[] W fun e w' => e = .returned (.bool true) ∧ Kp [] w w' := by
 refine (al_alive W).mono ?_
 rintro e w' ⟨rfl, K2⟩
 exact ⟨rfl, K.chain K2⟩
theorem q_great (Ad : Option Addr) (len cap : Nat) (w : World) {v : Bool} (hv : decide (80 < len) = v) :
   Calls Tryz.prog 18 #[.slice Ad len cap] w fun e w' => e = .returned (.bool v) ∧ Kp [] w w' := by
 subst hv
 by_cases h : 80 < len
 · rw [decide_eq_true h]
   have h1 : decide ((80 : Int) < (len : Int)) = true := decide_eq_true (by omega)
   clear h
   go_enter Tryz.func18, Tryz.ntmps18
   go_wp2
   go_ret
   exact ⟨by first | rfl | (simp at h1 ⊢; exact h1), Kp.refl _ _⟩
 · rw [decide_eq_false h]
   have h1 : decide ((80 : Int) < (len : Int)) = false := decide_eq_false (by omega)
   have h2 : decide (80 < len) = false := decide_eq_false h
   clear h
   go_enter Tryz.func18, Tryz.ntmps18
   go_wp2
   go_ret
   exact ⟨by first | rfl | (simp at h1 ⊢; exact h1), Kp.refl _ _⟩
theorem LH.step' (u : LH w W b q m) (K : Kp [] W V) : LH w V b q m := ⟨u.sh.k0 K, u.kp.chain K, u.hb⟩
end
end Go.Proofs.YthndilllnneijaaGreat
