/-
  The contracts of package alloc's New, Reset, Cursor, Space, Policy, Clone. Conditions: those that stand in each theorem.
-/
import Derived.Test.YthndilllnneijaaGreatPGJH
import Derived.Test.YthndilllnneijaaGreatPG11
set_option linter.unusedSimpArgs false
set_option linter.unusedVariables false
set_option maxRecDepth 100000
set_option maxHeartbeats 4000000
namespace Go.Proofs.YthndilllnneijaaGreat
open Go.RowKit Go.Deep Go.Maps
def AS.new (s p : Nat) : AS := ⟨s, p, 0, 0, 0, 0⟩
theorem AS.new_ok {s p : Nat} (hs : s < 8) (hp : p < 5) : (AS.new s p).Ok := ⟨hs, hp, Nat.zero_le _, Nat.zero_le _, Nat.zero_le _, Nat.zero_le _⟩
section
variable {w W V : World} {b : HB} {m : HM} {q g : Nat} {A : AS}
theorem a_isHeap (h : SH w b q m) :
   Calls Tryz.prog 97 #[.pointer (some ⟨b.g, 0, none⟩)] w fun e w' => e = .returned (.bool true) ∧ ∃ n, w' = w.drewN n := by
 have hx : (if inB m.bl.length 0 then (m.st (0 : Int).toNat : Int) else -1) = 0 := by
   have := stV_eq m 0
   simp only [Int.natCast_zero] at this
   rw [this, if_pos (by have := h.inv.len2; omega)]
   have := h.inv.b0
   omega
 have HX := hid hx
 clear hx
 go_enter Tryz.func97, Tryz.ntmps97
 go_wp2_with (go_at_call 41; refine (h_state h _).mono ?_; rintro e w' ⟨rfl, n1, rfl⟩; rw [HX.out])
 go_ret
 exact ⟨rfl, _, rfl⟩
theorem isHeap_k (h : SH w b q m) :
   Calls Tryz.prog 97 #[.pointer (some ⟨b.g, 0, none⟩)] w fun e w' => e = .returned (.bool true) ∧ Kp [] w w' := by
 refine (a_isHeap h).mono ?_
 rintro e w' ⟨rfl, n, rfl⟩
 exact ⟨rfl, Kp.draw _ _⟩
theorem a_new_bad (h : SH w b q m) (s p : Int) (hsp : ¬ (0 ≤ s ∧ s < 8 ∧ 0 ≤ p ∧ p < 5)) :
   Calls Tryz.prog 21 #[.pointer (some ⟨b.g, 0, none⟩), .int .i64 s, .int .i64 p] w fun e w' => e = .returned (.tuple #[.pointer none, .int .i64 1]) ∧ Kp [] w w' := by
 have HIS := hid (isHeap_k h)
 clear h
 by_cases h1 : s < 0
 · have t1 : decide (s < 0) = true := decide_eq_true h1
   clear hsp
   go_enter Tryz.func21, Tryz.ntmps21
   go_wp2_with (go_at_call 97; refine HIS.out.mono ?_; rintro e w1 ⟨rfl, K1⟩; have HK1 := hid K1; clear K1)
   go_ret2
   exact ⟨rfl, HK1.out⟩
 by_cases h2 : 8 ≤ s
 · have t1 : decide (s < 0) = false := decide_eq_false h1
   have t2 : decide (8 ≤ s) = true := decide_eq_true h2
   clear hsp
   go_enter Tryz.func21, Tryz.ntmps21
   go_wp2_with (go_at_call 97; refine HIS.out.mono ?_; rintro e w1 ⟨rfl, K1⟩; have HK1 := hid K1; clear K1)
   go_ret2
   exact ⟨rfl, HK1.out⟩
 by_cases h3 : p < 0
 · have t1 : decide (s < 0) = false := decide_eq_false h1
   have t2 : decide (8 ≤ s) = false := decide_eq_false h2
   have t3 : decide (p < 0) = true := decide_eq_true h3
   clear hsp
   go_enter Tryz.func21, Tryz.ntmps21
   go_wp2_with (go_at_call 97; refine HIS.out.mono ?_; rintro e w1 ⟨rfl, K1⟩; have HK1 := hid K1; clear K1)
   go_ret2
   exact ⟨rfl, HK1.out⟩
 have h4 : 5 ≤ p := by omega
 have t1 : decide (s < 0) = false := decide_eq_false h1
 have t2 : decide (8 ≤ s) = false := decide_eq_false h2
 have t3 : decide (p < 0) = false := decide_eq_false h3
 have t4 : decide (5 ≤ p) = true := decide_eq_true h4
 clear hsp
 go_enter Tryz.func21, Tryz.ntmps21
 go_wp2_with (first
   | (go_at_call 97; refine HIS.out.mono ?_; rintro e w1 ⟨rfl, K1⟩; have HK1 := hid K1; clear K1)
   | (go_at_call 98; refine (a_policies _).mono ?_; rintro e w2 ⟨rfl, rfl⟩))
 go_ret2
 exact ⟨rfl, HK1.out.chain (Kp.new _ _)⟩
theorem a_new (h : SH w b q m) (s p : Nat) (hs : s < 8) (hp : p < 5) :
   Calls Tryz.prog 21 #[.pointer (some ⟨b.g, 0, none⟩), .int .i64 (s : Int), .int .i64 (p : Int)] w fun e w' => ∃ g, e = .returned (.tuple #[.pointer (some ⟨g, 0, none⟩), .int .i64 0]) ∧ AL w' g b (AS.new s p) ∧ w.heap.size ≤ g ∧ Kp [] w w' := by
 have HIS := hid (isHeap_k h)
 clear h
 have t1 : decide ((s : Int) < 0) = false := decide_eq_false (by omega)
 have t2 : decide (8 ≤ (s : Int)) = false := decide_eq_false (by omega)
 have t3 : decide ((p : Int) < 0) = false := decide_eq_false (by omega)
 have t4 : decide (5 ≤ (p : Int)) = false := decide_eq_false (by omega)
 clear hs hp
 go_enter Tryz.func21, Tryz.ntmps21
 go_wp2_with (first
   | (go_at_call 97; refine HIS.out.mono ?_; rintro e w1 ⟨rfl, K1⟩; have HK1 := hid K1; clear K1)
   | (go_at_call 98; refine (a_policies _).mono ?_; rintro e w2 ⟨rfl, hw2⟩; have HK2 := hid (by rw [hw2]; exact HK1.out.chain (Kp.new _ _) : Kp [] w w2); clear hw2))
 go_ret2
 exact ⟨_, rfl, Blk.new w2 124 (alCells b (AS.new s p)), HK2.out.size, HK2.out.chain (Kp.new _ _)⟩
theorem a_cursor (h : AL w g b A) :
   Calls Tryz.prog 31 #[.pointer (some ⟨g, 0, none⟩)] w fun e w' => e = .returned (.tuple #[.int .i64 (A.c : Int), .int .i64 (A.l : Int), .int .i64 (A.oc : Int), .int .i64 (A.ol : Int)]) ∧ Kp [] w w' := by
 have HA := hid h
 clear h
 go_enter Tryz.func31, Tryz.ntmps31
 go_wp2_with (fail)
 refine (made_k HA.out).mono ?_
 rintro e w1 ⟨rfl, K1⟩
 have A1 : AL w1.drew g b A := HA.out.kp (K1.chain (Kp.draw _ 1)) (by simp)
 have c3 : w1.drew.cell? ⟨g, 3, none⟩ = some (.int .i64 (A.c : Int)) := A1.cell 3
 have c4 : w1.drew.cell? ⟨g, 4, none⟩ = some (.int .i64 (A.l : Int)) := A1.cell 4
 have c5 : w1.drew.cell? ⟨g, 5, none⟩ = some (.int .i64 (A.oc : Int)) := A1.cell 5
 have c6 : w1.drew.cell? ⟨g, 6, none⟩ = some (.int .i64 (A.ol : Int)) := A1.cell 6
 have B1 : AL w1 g b A := HA.out.kp K1 (by simp)
 have d3 : w1.cell? ⟨g, 3, none⟩ = some (.int .i64 (A.c : Int)) := B1.cell 3
 have d4 : w1.cell? ⟨g, 4, none⟩ = some (.int .i64 (A.l : Int)) := B1.cell 4
 have d5 : w1.cell? ⟨g, 5, none⟩ = some (.int .i64 (A.oc : Int)) := B1.cell 5
 have d6 : w1.cell? ⟨g, 6, none⟩ = some (.int .i64 (A.ol : Int)) := B1.cell 6
 have n3 := World.new_ne _ _ d3
 have n4 := World.new_ne _ _ c3
 have hgl : g < w1.heap.size := Blk.lt B1
 have n5 : w1.heap.size + 1 ≠ g := by omega
 have HK1 := hid K1
 clear K1 A1 B1
 go_wp2
 go_region_held3 (fun W => W.cell? ⟨g, 3, none⟩ = some (.int .i64 (A.c : Int)) ∧ W.cell? ⟨g, 4, none⟩ = some (.int .i64 (A.l : Int)) ∧ W.cell? ⟨g, 5, none⟩ = some (.int .i64 (A.oc : Int)) ∧ W.cell? ⟨g, 6, none⟩ = some (.int .i64 (A.ol : Int))) (go_keep) (fail)
 all_goals (
   go_wp2
   go_quiet (fail)
   go_wp2
   refine bodyPost_ret (v := .tuple #[.int .i64 (A.c : Int), .int .i64 (A.l : Int), .int .i64 (A.oc : Int), .int .i64 (A.ol : Int)]) ?_ rfl ⟨rfl, ?_⟩
   · simp [results, Tryz.results31, go_sem]
   · exact (((HK1.out.chain (Kp.new _ _)).chain (Kp.new _ _)).drewN 1).drewN _)
theorem a_space (h : AL w g b A) :
   Calls Tryz.prog 106 #[.pointer (some ⟨g, 0, none⟩)] w fun e w' => e = .returned (.int .i64 (A.sp : Int)) ∧ Kp [] w w' := by
 have HA := hid h
 clear h
 go_enter Tryz.func106, Tryz.ntmps106
 go_wp2_with (go_at_call 99; refine (made_k HA.out).mono ?_; rintro e w1 ⟨rfl, K1⟩; have c1 := (HA.out.kp K1 (by simp)).cell 1; have HK1 := hid K1; clear K1)
 go_ret
 exact ⟨rfl, HK1.out⟩
theorem a_policy (h : AL w g b A) :
   Calls Tryz.prog 108 #[.pointer (some ⟨g, 0, none⟩)] w fun e w' => e = .returned (.int .i64 (A.po : Int)) ∧ Kp [] w w' := by
 have HA := hid h
 clear h
 go_enter Tryz.func108, Tryz.ntmps108
 go_wp2_with (go_at_call 99; refine (made_k HA.out).mono ?_; rintro e w1 ⟨rfl, K1⟩; have c2 := (HA.out.kp K1 (by simp)).cell 2; have HK1 := hid K1; clear K1)
 go_ret
 exact ⟨rfl, HK1.out⟩
def AS.reset (A : AS) : AS := ⟨A.sp, A.po, 0, 0, 0, 0⟩
theorem a_reset (h : AL w g b A) :
   Calls Tryz.prog 103 #[.pointer (some ⟨g, 0, none⟩)] w fun e w' => e = .returned (.tuple #[]) ∧ AL w' g b A.reset ∧ Kp [g] w w' := by
 have HA := hid h
 clear h
 go_enter Tryz.func103, Tryz.ntmps103
 go_wp2_with (go_at_call 99; refine (made_k HA.out).mono ?_; rintro e w1 ⟨rfl, K1⟩; have A1 := HA.out.kp K1 (by simp); have HA1 := hid A1; have c3 := A1.cell 3; have c4 := A1.cell 4; have c5 := A1.cell 5; have c6 := A1.cell 6; have f3 := A1.frozen 3; have f4 := A1.frozen 4; have f5 := A1.frozen 5; have f6 := A1.frozen 6; have HK1 := hid K1; clear K1 A1)
 go_end0
 exact ⟨rfl, HA1.out.cur (A2 := A.reset) rfl rfl, HK1.out.chain0 (cur_kp _ _ _ _ _ _)⟩
theorem a_clone {b2 : HB} {q2 : Nat} {m2 : HM} (h : AL w g b A) (h2 : SH w b2 q2 m2) :
   Calls Tryz.prog 23 #[.pointer (some ⟨g, 0, none⟩), .pointer (some ⟨b2.g, 0, none⟩)] w fun e w' => ∃ g2, e = .returned (.pointer (some ⟨g2, 0, none⟩)) ∧ AL w' g2 b2 A ∧ w.heap.size ≤ g2 ∧ Kp [] w w' := by
 have HA := hid h
 have H2 := hid h2
 clear h h2
 go_enter Tryz.func23, Tryz.ntmps23
 go_wp2_with (first
   | (go_at_call 99; refine (made_k HA.out).mono ?_; rintro e w1 ⟨rfl, K1⟩; have HK1 := hid K1; clear K1)
   | (go_at_call 97; refine (isHeap_k (H2.out.k0 HK1.out)).mono ?_; rintro e w2 ⟨rfl, K2⟩; have HK2 := hid (HK1.out.chain K2); have A2 := HA.out.kp HK2.out (by simp); have c0 := A2.cell 0; have c1 := A2.cell 1; have c2 := A2.cell 2; have c3 := A2.cell 3; have c4 := A2.cell 4; have c5 := A2.cell 5; have c6 := A2.cell 6; clear K2 A2))
 go_ret
 exact ⟨_, rfl, Blk.new w2 124 (alCells b2 A), HK2.out.size, HK2.out.chain (Kp.new _ _)⟩
end
structure LH (w W : World) (b : HB) (q : Nat) (m : HM) : Prop where
 sh : SH W b q m
 kp : Kp [] w W
 hb : ∀ x ∈ b.all, w.heap.size ≤ x
structure LV (w W : World) (b : HB) (q : Nat) (m : HM) (g : Nat) (A : AS) : Prop where
 sh : SH W b q m
 kp : Kp [] w W
 hb : ∀ x ∈ b.all, w.heap.size ≤ x
 al : AL W g b A
 hg : w.heap.size ≤ g
 gb : g ∉ b.all
 ok : A.Ok
section
variable {w W V : World} {b : HB} {m : HM} {q g : Nat} {A : AS}
theorem alA_ok (I : m.Inv) (hA : A.Ok) (x d k : Int) : (m.alA A x d k).Ok := by
 unfold HM.alA
 split
 · exact (choose_ok I hA _).2.1
 · exact hA
theorem LV.alloc (u : LV w W b q m g A) (x d k : Int) (hq : q ≤ 900000000) :
   Calls Tryz.prog 32 #[.pointer (some ⟨g, 0, none⟩), .agg #[.int .i64 x, .int .i64 d, .int .i64 k]] W fun e w' => e = .returned (.tuple #[.int .i64 (m.alV A x d k : Int), .int .i64 (m.alE A x d k)]) ∧ LV w w' b (q + 1) (m.alM A x d k) g (m.alA A x d k) := by
 refine (a_alloc u.sh u.al u.ok u.gb x d k hq).mono ?_
 rintro e w' ⟨rfl, h1, h2, h3⟩
 refine ⟨rfl, h1, u.kp.trans h3 (U := []) (by simp) (fun z hz => .inr ?_), u.hb, h2, u.hg, u.gb, alA_ok u.sh.inv u.ok x d k⟩
 rcases List.mem_cons.1 hz with rfl | h
 · exact u.hg
 · exact u.hb z h
theorem LV.kill (u : LV w W b q m g A) (a : Int) (ha : W64 a) (hq : q ≤ 1000000000) :
   Calls Tryz.prog 51 #[.pointer (some ⟨b.g, 0, none⟩), .int .i64 a] W fun e w' => e = .returned (.int .i64 (m.lackE a)) ∧ LV w w' b q (m.killM a) g A := by
 refine (h_kill u.sh a ha hq).mono ?_
 rintro e w' ⟨rfl, h1, h3⟩
 exact ⟨rfl, h1, u.kp.trans h3 (U := []) (by simp) (fun z hz => .inr (u.hb z hz)), u.hb, u.al.kp h3 u.gb, u.hg, u.gb, u.ok⟩
theorem LH.claim (u : LH w W b q m) (x s : Int) :
   Calls Tryz.prog 43 #[.pointer (some ⟨b.g, 0, none⟩), .int .i64 x, .int .i64 s] W fun e w' => e = .returned (.int .i64 (m.claimE x 1 s)) ∧ LH w w' b q (m.claimM x 1 s 1) := by
 refine (h_Claim u.sh x s).mono ?_
 rintro e w' ⟨rfl, h1, h3⟩
 exact ⟨rfl, h1, u.kp.trans h3 (U := []) (by simp) (fun z hz => .inr (u.hb z hz)), u.hb⟩
theorem LH.place (u : LH w W b q m) (a x d k : Int) (ha : W64 a) (hq : q ≤ 900000000) :
   Calls Tryz.prog 44 #[.pointer (some ⟨b.g, 0, none⟩), .int .i64 a, .agg #[.int .i64 x, .int .i64 d, .int .i64 k]] W fun e w' => e = .returned (.tuple #[.int .i64 (m.placeV a x d k), .int .i64 (m.placeE a x d k)]) ∧ LH w w' b (q + 1) (m.placeM a x d k) := by
 refine (h_place u.sh a x d k ha hq).mono ?_
 rintro e w' ⟨rfl, h1, h3⟩
 exact ⟨rfl, h1, u.kp.trans h3 (U := []) (by simp) (fun z hz => .inr (u.hb z hz)), u.hb⟩
theorem LH.new (u : LH w W b q m) (s p : Nat) (hs : s < 8) (hp : p < 5) :
   Calls Tryz.prog 21 #[.pointer (some ⟨b.g, 0, none⟩), .int .i64 (s : Int), .int .i64 (p : Int)] W fun e w' => ∃ g, e = .returned (.tuple #[.pointer (some ⟨g, 0, none⟩), .int .i64 0]) ∧ LV w w' b q m g (AS.new s p) := by
 refine (a_new u.sh s p hs hp).mono ?_
 rintro e w' ⟨g, rfl, h1, h2, h3⟩
 exact ⟨g, rfl, u.sh.k0 h3, u.kp.chain h3, u.hb, h1, Nat.le_trans u.kp.size h2, fun hm => by have := u.sh.lt g hm; omega, AS.new_ok hs hp⟩
theorem LH.start (n : Nat) (W : World) (h1 : 2 ≤ n) (h2 : n ≤ 64) (K : Kp [] w W) :
   Calls Tryz.prog 12 #[.int .i64 (n : Int)] W fun e w' => ∃ b : HB, e = .returned (.tuple #[.pointer (some ⟨b.g, 0, none⟩), .int .i64 0]) ∧ LH w w' b 0 (HM.new n) := by
 refine (h_new_ok n W h1 h2).mono ?_
 rintro e w' ⟨b, rfl, h1, h2, h3⟩
 exact ⟨b, rfl, h1, K.chain h2, fun x hx => Nat.le_trans K.size (h3 x hx)⟩
end
def z0 : HM := HM.new 4
def Z0 : AS := AS.new 0 0
def z1 : HM := z0.alM Z0 0 4 0
def Z1 : AS := z0.alA Z0 0 4 0
theorem zv1 : z0.alV Z0 0 4 0 = 64 ∧ z0.alE Z0 0 4 0 = 0 := by decide +kernel
def z2 : HM := z1.alM Z1 0 0 0
def Z2 : AS := z1.alA Z1 0 0 0
theorem zv2 : z1.alV Z1 0 0 0 = 70 ∧ z1.alE Z1 0 0 0 = 0 := by decide +kernel
def z3 : HM := z2.alM Z2 0 4 0
def Z3 : AS := z2.alA Z2 0 4 0
theorem zv3 : z2.alV Z2 0 4 0 = 72 ∧ z2.alE Z2 0 4 0 = 0 := by decide +kernel
def z4 : HM := z3.killM 64
def z5 : HM := z4.alM Z3 0 2 0
def Z5 : AS := z4.alA Z3 0 2 0
theorem zv5 : z4.alV Z3 0 2 0 = 64 ∧ z4.alE Z3 0 2 0 = 0 := by decide +kernel
def z6 : HM := z5.alM Z5 0 2 0
def Z6 : AS := z5.alA Z5 0 2 0
theorem zv6 : z5.alV Z5 0 2 0 = 78 ∧ z5.alE Z5 0 2 0 = 0 := by decide +kernel
def y1 : HM := z0.claimM 1 1 0 1
def y2 : HM := y1.placeM 72 0 6 0
def Y2 : AS := AS.new 0 4
def y3 : HM := y2.alM Y2 0 6 0
def Y3 : AS := y2.alA Y2 0 6 0
theorem yv3 : y2.alV Y2 0 6 0 = 64 ∧ y2.alE Y2 0 6 0 = 0 := by decide +kernel
def y4 : HM := y3.alM Y3 0 6 0
def Y4 : AS := y3.alA Y3 0 6 0
theorem yv4 : y3.alV Y3 0 6 0 = 80 ∧ y3.alE Y3 0 6 0 = 0 := by decide +kernel
def y5 : HM := y4.alM Y4 0 30 0
def Y5 : AS := y4.alA Y4 0 30 0
def y6 : HM := y5.alM Y5 0 8 0
def Y6 : AS := y5.alA Y5 0 8 0
theorem yv6 : y5.alV Y5 0 8 0 = 128 ∧ y5.alE Y5 0 8 0 = 0 := by decide +kernel
theorem al_alive (w : World) :
   Calls Tryz.prog 20 #[] w fun e w' => e = .returned (.bool true) ∧ Kp [] w w' := by
 go_enter Tryz.func20, Tryz.ntmps20
 go_wp2_with (first
   | (go_at_call 12; refine (LH.start (w := w) 4 _ (by omega) (by omega) U8.kp).mono ?_; rintro e w9 ⟨b2, rfl, U9a⟩; have U9 : LH w w9 b2 _ z0 := U9a; clear U9a)
   | (go_at_call 12; refine (LH.start (w := w) 4 _ (by omega) (by omega) (Kp.refl [] w)).mono ?_; rintro e w1 ⟨b1, rfl, U1⟩)
   | (go_at_call 21; refine (U11.new 0 4 (by omega) (by omega)).mono ?_; rintro e w12 ⟨g2, rfl, U12a⟩; have U12 : LV w w12 b2 _ y2 g2 Y2 := U12a; clear U12a)
   | (go_at_call 21; refine (U1.new 0 0 (by omega) (by omega)).mono ?_; rintro e w2 ⟨g1, rfl, U2a⟩; have U2 : LV w w2 b1 _ z0 g1 Z0 := U2a; clear U2a)
   | (go_at_call 32; refine (U15.alloc (0) (8) (0) (by omega)).mono ?_; rintro e w16 ⟨rfl, U16a⟩; have U16 : LV w w16 b2 _ y6 g2 Y6 := U16a; clear U16a; rw [yv6.1, yv6.2])
   | (go_at_call 32; refine (U14.alloc (0) (30) (0) (by omega)).mono ?_; rintro e w15 ⟨rfl, U15a⟩; have U15 : LV w w15 b2 _ y5 g2 Y5 := U15a; clear U15a)
   | (go_at_call 32; refine (U13.alloc (0) (6) (0) (by omega)).mono ?_; rintro e w14 ⟨rfl, U14a⟩; have U14 : LV w w14 b2 _ y4 g2 Y4 := U14a; clear U14a; rw [yv4.1, yv4.2])
   | (go_at_call 32; refine (U12.alloc (0) (6) (0) (by omega)).mono ?_; rintro e w13 ⟨rfl, U13a⟩; have U13 : LV w w13 b2 _ y3 g2 Y3 := U13a; clear U13a; rw [yv3.1, yv3.2])
   | (go_at_call 32; refine (U7.alloc (0) (2) (0) (by omega)).mono ?_; rintro e w8 ⟨rfl, U8a⟩; have U8 : LV w w8 b1 _ z6 g1 Z6 := U8a; clear U8a; rw [zv6.1, zv6.2])
   | (go_at_call 32; refine (U6.alloc (0) (2) (0) (by omega)).mono ?_; rintro e w7 ⟨rfl, U7a⟩; have U7 : LV w w7 b1 _ z5 g1 Z5 := U7a; clear U7a; rw [zv5.1, zv5.2])
   | (go_at_call 32; refine (U4.alloc (0) (4) (0) (by omega)).mono ?_; rintro e w5 ⟨rfl, U5a⟩; have U5 : LV w w5 b1 _ z3 g1 Z3 := U5a; clear U5a; rw [zv3.1, zv3.2])
   | (go_at_call 32; refine (U3.alloc (0) (0) (0) (by omega)).mono ?_; rintro e w4 ⟨rfl, U4a⟩; have U4 : LV w w4 b1 _ z2 g1 Z2 := U4a; clear U4a; rw [zv2.1, zv2.2])
   | (go_at_call 32; refine (U2.alloc (0) (4) (0) (by omega)).mono ?_; rintro e w3 ⟨rfl, U3a⟩; have U3 : LV w w3 b1 _ z1 g1 Z1 := U3a; clear U3a; rw [zv1.1, zv1.2])
   | (go_at_call 51; refine (U5.kill 64 ⟨by omega, by omega⟩ (by omega)).mono ?_; rintro e w6 ⟨rfl, U6a⟩; have U6 : LV w w6 b1 _ z4 g1 Z3 := U6a; clear U6a)
   | (go_at_call 43; refine (U9.claim 1 0).mono ?_; rintro e w10 ⟨rfl, U10a⟩; have U10 : LH w w10 b2 _ y1 := U10a; clear U10a)
   | (go_at_call 44; refine (U10.place 72 0 6 0 ⟨by omega, by omega⟩ (by omega)).mono ?_; rintro e w11 ⟨rfl, U11a⟩; have U11 : LH w w11 b2 _ y2 := U11a; clear U11a))
 go_ret
 exact ⟨rfl, U16.kp⟩
section
variable {m : HM} {A : AS}
theorem freeB_mod {c : Nat} (hc : 1 ≤ c) : m.freeB c % 64 = 0 := by
 unfold HM.freeB
 split
 · omega
 · rfl
theorem al_valid {x d k : Int} (h : m.alE A x d k = 0) : vldB x d k = true ∧ (m.choose A (wdN x.toNat d.toNat)).1 ≠ 0 ∧ m.alV A x d k = (m.choose A (wdN x.toNat d.toNat)).1 ∧ m.alA A x d k = (m.choose A (wdN x.toNat d.toNat)).2 := by
 have h0 := h
 unfold HM.alE at h
 rcases hv : vldB x d k
 · rw [hv] at h; simp at h
 · rw [hv] at h
   simp only [if_true] at h
   by_cases hz : (m.choose A (wdN x.toNat d.toNat)).1 = 0
   · rw [if_pos hz] at h; exact absurd h (by decide)
   · refine ⟨rfl, hz, ?_, ?_⟩
     · unfold HM.alV; rw [hv]; rfl
     · unfold HM.alA; rw [if_pos h0]
end
end Go.Proofs.YthndilllnneijaaGreat
