/-
  The contract of the document's allocator's place, case by case. Conditions: those that stand in each theorem.
-/
import Derived.Test.YthndilllnneijaaGreatPGOA
import Derived.Test.YthndilllnneijaaGreatPDr
import Derived.Test.YthndilllnneijaaGreatPGOC
import Derived.Test.YthndilllnneijaaGreatPGOD
import Derived.Test.YthndilllnneijaaGreatPGOE
set_option linter.unusedSimpArgs false
set_option linter.unusedVariables false
set_option maxRecDepth 100000
set_option maxHeartbeats 4000000
namespace Go.Proofs.YthndilllnneijaaGreat
open Go.RowKit Go.Deep Go.Maps
section
variable {w W V : World} {d0 d : DB} {m m' : HM} {q q' g g3 : Nat} {A A2 : AS}
theorem r_place_1S0 (u : RS w W d0 d q m g A) (a blk : Nat) (ha : a ≤ 10000) {x y z : Nat} (hv : vldB x y z = true) (hq : q ≤ 800000000) (hblk : 0 < blk) (hn32 : ¬ 32 < wdN x y) (hvs : spV (m.rp1 A.sp blk) ((a / 64 : Nat) : Int) = (A.sp : Int)) (hpe : (m.rp1 A.sp blk).placeE (a : Int) x y z = 0) :
   Calls Tryz.prog 168 #[.pointer (some ⟨g, 0, none⟩), .int .i64 (a : Int), .int .i64 (blk : Int), .agg #[.int .i64 (x : Int), .int .i64 (y : Int), .int .i64 (z : Int)]] W fun e w' => e = .returned (.tuple #[.int .i64 (m.rpV A.sp a blk x y z), .int .i64 (m.rpE A.sp a blk x y z)]) ∧ ∃ d', RS w w' d0 d' (q + 1) (m.rpM A.sp a blk x y z) g A := by
 have HV := hid hv
 have HU := hid (RB.start u (x : Int) (y : Int) (z : Int))
 have ub := RB.start u (x : Int) (y : Int) (z : Int)
 have c0 := ub.rs.c0
 have b0 := ub.b3.cell 0
 have b1 := ub.b3.cell 1
 have b2 := ub.b3.cell 2
 have HWA : Hid (W64 (a : Int)) := ⟨by omega, by omega⟩
 obtain ⟨p, hp64⟩ : ∃ p, a / 64 = p := ⟨_, rfl⟩
 obtain ⟨s, hs⟩ : ∃ s, A.sp = s := ⟨_, rfl⟩
 have c1 := ub.rs.al.sp_ hs
 rw [hs]
 have HS := hid hs
 obtain ⟨n, hn⟩ : ∃ n, wdN x y = n := ⟨_, rfl⟩
 have HN := hid hn
 obtain ⟨m1, hm1⟩ : ∃ k, m.rp1 s blk = k := ⟨_, rfl⟩
 have HM1 := hid hm1
 have HE : Hid (m.rpE s a blk x y z = if m1.rpOff s a n = true then 6 else if m1.placeE (a : Int) x y z = 0 then 0 else 6) := by show _ = _; unfold HM.rpE; rw [Int.toNat_natCast, Int.toNat_natCast, HN.out, HM1.out]
 have HMM : Hid (m.rpM s a blk x y z = if m1.rpOff s a n = true then m1 else m1.placeM (a : Int) x y z) := by show _ = _; unfold HM.rpM; rw [Int.toNat_natCast, Int.toNat_natCast, HN.out, HM1.out]
 have HVV : Hid (m.rpV s a blk x y z = if m.rpE s a blk x y z = 0 then (a : Int) else 0) := rfl
 rw [hs, hm1] at hvs
 rw [hs, hm1] at hpe
 rw [hn] at hn32
 have tl : decide (32 < n) = false := decide_eq_false hn32
 rw [hp64] at hvs
 obtain ⟨v, hsp⟩ : ∃ v, spV m1 (p : Int) = v := ⟨_, rfl⟩
 rw [hsp] at hvs
 have HSP := hid hsp
 have tv : (v != (s : Int)) = false := by simp [hvs]
 have hof : m1.rpOff s a n = false := by unfold HM.rpOff; rw [hp64, hsp, tv]; simp [hn32]
 obtain ⟨pe, hpe2⟩ : ∃ v, m1.placeE (a : Int) x y z = v := ⟨_, rfl⟩
 rw [hpe2] at hpe
 have HPE := hid hpe2
 have tpe : (pe != 0) = false := by simp [hpe]
 have HFIN : Hid (∀ (w4 : World) (d4 : DB), RS w w4 d0 d4 (q + 1) (m1.placeM (a : Int) x y z) g A → (Ending.returned (.tuple #[.int .i64 (a : Int), .int .i64 0]) = .returned (.tuple #[.int .i64 (m.rpV s a blk x y z), .int .i64 (m.rpE s a blk x y z)])) ∧ ∃ d9, RS w w4 d0 d9 (q + 1) (m.rpM s a blk x y z) g A) := fun w4 d4 u4 => by
   rw [HVV.out, HE.out, HMM.out, hof, hpe2, hpe]
   exact ⟨rfl, _, u4⟩
 have HNT : Hid (∀ w2, Calls Tryz.prog 165 #[.agg #[.int .i64 (x : Int), .int .i64 (y : Int), .int .i64 (z : Int)]] w2 fun e w' => e = .returned (.bool false) ∧ Kp [] w2 w') := by
   intro w2
   refine (r_large HV.out w2).mono ?_
   rintro e w' ⟨rfl, K⟩
   rw [HN.out, tl]
   exact ⟨rfl, K⟩
 have tb : decide ((0 : Int) < (blk : Int)) = true := decide_eq_true (by omega)
 have tbn : decide (0 < blk) = true := decide_eq_true (by omega)
 have HB : Hid (m.claimM (blk : Int) 1 (s : Int) 1 = m1) := by show _ = _; rw [← HM1.out]; unfold HM.rp1; rw [if_pos hblk]
 clear u ub hv hs hn hm1 hblk hn32 hof tl HV HN HE HMM HVV HM1 hsp hvs hpe hpe2
 have hdt : Int.tdiv (a : Int) 64 = (p : Int) := by rw [Int.tdiv_eq_ediv_of_nonneg (by omega)]; omega
 have hdw : IntKind.i64.wrap (p : Int) = (p : Int) := by rw [IntKind.wrap_i64]; omega
 clear hp64
 have ha0 : (0 : Int) ≤ (a : Int) := by omega
 have ha1 : (a : Int) ≤ 10000 := by omega
 clear ha
 go_enter Tryz.func168, Tryz.ntmps168
 have HU1 := hid (HU.out.step (Kp.draw _ 1))
 go_wp2
 go_region_held3 (fun W' => W'.cell? ⟨g, 0, none⟩ = some (.pointer (some ⟨d0.g, 0, none⟩)) ∧ W'.cell? ⟨g, 1, none⟩ = some (.int .i64 (s : Int))) (go_keep)
   (first
     | (go_at_call 61; refine (HU1.out.claim _ _ HB.out).mono ?_; rintro e w1 ⟨rfl, d1, U1⟩; have h0 := U1.rs.c0; have h1 := U1.rs.al.sp_ HS.out; have i0 := U1.b3.cell 0; have i1 := U1.b3.cell 1; have i2 := U1.b3.cell 2))
 have HU2 := hid (U1.step (Kp.draw _ 1))
 go_wp2
 clear HU HU1 c0 c1 b0 b1 b2 U1
 generalize hgs : W.heap.size = gs at HU2 i0 i1 i2 ⊢
 generalize m.claimE (blk : Int) 1 (s : Int) = ce
 clear hgs
 refine wp_region_held_drew (S := fun W' => W'.cell? ⟨g, 0, none⟩ = some (.pointer (some ⟨d0.g, 0, none⟩)) ∧ W'.cell? ⟨g, 1, none⟩ = some (.int .i64 (s : Int)) ∧ Blk W' gs 33 #[.int .i64 (x : Int), .int .i64 (y : Int), .int .i64 (z : Int)]) (by kernel_rfl) ?_ (fun hHeld => ?_)
 · exact ⟨HU2.out.rs.c0, HU2.out.rs.al.sp_ HS.out, HU2.out.b3⟩
 refine tk 0 rfl (Or.inl ⟨by rfl, by (intro wz hSw; obtain ⟨f0, f1, fb⟩ := hSw; have e0 := fb.cell 0; have e1 := fb.cell 1; have e2 := fb.cell 2; go_simp; try with_reducible rfl)⟩) ?_
 try simp only [ly, Act.put]
 refine rd 1 rfl fun K hK => ?_
 go_simp
 (refine (HNT.out _).mono ?_
  rintro e w2 ⟨rfl, K2⟩
  have U2 := HU2.out.step K2
  clear K2)
 try go_wp2_with fail
 refine hK.out _ _ ?_ (fun hHeld => ?_)
 · exact ⟨U2.rs.c0, U2.rs.al.sp_ HS.out, U2.b3⟩
 clear hK K
 refine tk0 2 rfl ?_
 try simp only [ly, Act.put]
 refine tk0 3 rfl ?_
 try simp only [ly, Act.put]
 refine tk0 4 rfl ?_
 try simp only [ly, Act.put]
 refine tk0 5 rfl ?_
 try simp only [ly, Act.put]
 refine tk0 6 rfl ?_
 try simp only [ly, Act.put]
 refine tk 7 rfl (Or.inl ⟨by rfl, by (intro wz hSw; obtain ⟨f0, f1, fb⟩ := hSw; go_simp; try with_reducible rfl)⟩) ?_
 try simp only [ly, Act.put]
 refine tk0 8 rfl ?_
 try simp only [ly, Act.put]
 refine tk0 9 rfl ?_
 try simp only [ly, Act.put]
 refine tk0 11 rfl ?_
 try simp only [ly, Act.put]
 refine tk0 12 rfl ?_
 try simp only [ly, Act.put]
 refine tk0 13 rfl ?_
 try simp only [ly, Act.put]
 refine tk 14 rfl (Or.inl ⟨by rfl, by (intro wz hSw; obtain ⟨f0, f1, fb⟩ := hSw; go_simp; try with_reducible rfl)⟩) ?_
 try simp only [ly, Act.put]
 refine rd 10 rfl fun K hK => ?_
 go_simp
 (refine (U2.space _ HSP.out).mono ?_
  rintro e w3 ⟨rfl, U3⟩)
 try go_wp2_with fail
 refine hK.out _ _ ?_ (fun hHeld => ?_)
 · exact ⟨U3.rs.c0, U3.rs.al.sp_ HS.out, U3.b3⟩
 clear hK K
 refine tk0 15 rfl ?_
 try simp only [ly, Act.put]
 refine tk0 16 rfl ?_
 try simp only [ly, Act.put]
 refine wpAnyH_done (by kernel_rfl) ?_ _
 have j0 := U3.rs.c0
 have k0 := U3.b3.cell 0
 have k1 := U3.b3.cell 1
 have k2 := U3.b3.cell 2
 have HU5 := hid (U3.step (Kp.draw _ 1))
 go_wp2
 go_region_held3 (fun W' => W'.cell? ⟨g, 0, none⟩ = some (.pointer (some ⟨d0.g, 0, none⟩)) ∧ W'.cell? ⟨gs, 0, none⟩ = some (.int .i64 (x : Int)) ∧ W'.cell? ⟨gs, 1, none⟩ = some (.int .i64 (y : Int)) ∧ W'.cell? ⟨gs, 2, none⟩ = some (.int .i64 (z : Int))) (go_keep)
   (first
     | (go_at_call 66; refine (HU5.out.place _ _ _ _ HWA.out (by omega) HPE.out).mono ?_; rintro e w4 ⟨rfl, d4, U4, B4⟩; have v0 := U4.c0; have v1 := B4.cell 0; have v2 := B4.cell 1; have v3 := B4.cell 2))
 go_wp2
 go_ret2
 exact HFIN.out _ _ U4
end
section
variable {w W V : World} {d0 d : DB} {m m' : HM} {q q' g g3 : Nat} {A A2 : AS}
theorem r_place_1S1 (u : RS w W d0 d q m g A) (a blk : Nat) (ha : a ≤ 10000) {x y z : Nat} (hv : vldB x y z = true) (hq : q ≤ 800000000) (hblk : 0 < blk) (hn32 : ¬ 32 < wdN x y) (hvs : spV (m.rp1 A.sp blk) ((a / 64 : Nat) : Int) = (A.sp : Int)) (hpe : (m.rp1 A.sp blk).placeE (a : Int) x y z ≠ 0) :
   Calls Tryz.prog 168 #[.pointer (some ⟨g, 0, none⟩), .int .i64 (a : Int), .int .i64 (blk : Int), .agg #[.int .i64 (x : Int), .int .i64 (y : Int), .int .i64 (z : Int)]] W fun e w' => e = .returned (.tuple #[.int .i64 (m.rpV A.sp a blk x y z), .int .i64 (m.rpE A.sp a blk x y z)]) ∧ ∃ d', RS w w' d0 d' (q + 1) (m.rpM A.sp a blk x y z) g A := by
 have HV := hid hv
 have HU := hid (RB.start u (x : Int) (y : Int) (z : Int))
 have ub := RB.start u (x : Int) (y : Int) (z : Int)
 have c0 := ub.rs.c0
 have b0 := ub.b3.cell 0
 have b1 := ub.b3.cell 1
 have b2 := ub.b3.cell 2
 have HWA : Hid (W64 (a : Int)) := ⟨by omega, by omega⟩
 obtain ⟨p, hp64⟩ : ∃ p, a / 64 = p := ⟨_, rfl⟩
 obtain ⟨s, hs⟩ : ∃ s, A.sp = s := ⟨_, rfl⟩
 have c1 := ub.rs.al.sp_ hs
 rw [hs]
 have HS := hid hs
 obtain ⟨n, hn⟩ : ∃ n, wdN x y = n := ⟨_, rfl⟩
 have HN := hid hn
 obtain ⟨m1, hm1⟩ : ∃ k, m.rp1 s blk = k := ⟨_, rfl⟩
 have HM1 := hid hm1
 have HE : Hid (m.rpE s a blk x y z = if m1.rpOff s a n = true then 6 else if m1.placeE (a : Int) x y z = 0 then 0 else 6) := by show _ = _; unfold HM.rpE; rw [Int.toNat_natCast, Int.toNat_natCast, HN.out, HM1.out]
 have HMM : Hid (m.rpM s a blk x y z = if m1.rpOff s a n = true then m1 else m1.placeM (a : Int) x y z) := by show _ = _; unfold HM.rpM; rw [Int.toNat_natCast, Int.toNat_natCast, HN.out, HM1.out]
 have HVV : Hid (m.rpV s a blk x y z = if m.rpE s a blk x y z = 0 then (a : Int) else 0) := rfl
 rw [hs, hm1] at hvs
 rw [hs, hm1] at hpe
 rw [hn] at hn32
 have tl : decide (32 < n) = false := decide_eq_false hn32
 rw [hp64] at hvs
 obtain ⟨v, hsp⟩ : ∃ v, spV m1 (p : Int) = v := ⟨_, rfl⟩
 rw [hsp] at hvs
 have HSP := hid hsp
 have tv : (v != (s : Int)) = false := by simp [hvs]
 have hof : m1.rpOff s a n = false := by unfold HM.rpOff; rw [hp64, hsp, tv]; simp [hn32]
 obtain ⟨pe, hpe2⟩ : ∃ v, m1.placeE (a : Int) x y z = v := ⟨_, rfl⟩
 rw [hpe2] at hpe
 have HPE := hid hpe2
 have tpe : (pe != 0) = true := bne_iff_ne.2 hpe
 have HFIN : Hid (∀ (w4 : World) (d4 : DB), RS w w4 d0 d4 (q + 1) (m1.placeM (a : Int) x y z) g A → (Ending.returned (.tuple #[.int .i64 0, .int .i64 6]) = .returned (.tuple #[.int .i64 (m.rpV s a blk x y z), .int .i64 (m.rpE s a blk x y z)])) ∧ ∃ d9, RS w w4 d0 d9 (q + 1) (m.rpM s a blk x y z) g A) := fun w4 d4 u4 => by
   rw [HVV.out, HE.out, HMM.out, hof, hpe2]
   simp only [Bool.false_eq_true, if_false]
   rw [if_neg hpe]
   exact ⟨rfl, _, u4⟩
 have HNT : Hid (∀ w2, Calls Tryz.prog 165 #[.agg #[.int .i64 (x : Int), .int .i64 (y : Int), .int .i64 (z : Int)]] w2 fun e w' => e = .returned (.bool false) ∧ Kp [] w2 w') := by
   intro w2
   refine (r_large HV.out w2).mono ?_
   rintro e w' ⟨rfl, K⟩
   rw [HN.out, tl]
   exact ⟨rfl, K⟩
 have tb : decide ((0 : Int) < (blk : Int)) = true := decide_eq_true (by omega)
 have tbn : decide (0 < blk) = true := decide_eq_true (by omega)
 have HB : Hid (m.claimM (blk : Int) 1 (s : Int) 1 = m1) := by show _ = _; rw [← HM1.out]; unfold HM.rp1; rw [if_pos hblk]
 clear u ub hv hs hn hm1 hblk hn32 hof tl HV HN HE HMM HVV HM1 hsp hvs hpe hpe2
 have hdt : Int.tdiv (a : Int) 64 = (p : Int) := by rw [Int.tdiv_eq_ediv_of_nonneg (by omega)]; omega
 have hdw : IntKind.i64.wrap (p : Int) = (p : Int) := by rw [IntKind.wrap_i64]; omega
 clear hp64
 have ha0 : (0 : Int) ≤ (a : Int) := by omega
 have ha1 : (a : Int) ≤ 10000 := by omega
 clear ha
 go_enter Tryz.func168, Tryz.ntmps168
 have HU1 := hid (HU.out.step (Kp.draw _ 1))
 go_wp2
 go_region_held3 (fun W' => W'.cell? ⟨g, 0, none⟩ = some (.pointer (some ⟨d0.g, 0, none⟩)) ∧ W'.cell? ⟨g, 1, none⟩ = some (.int .i64 (s : Int))) (go_keep)
   (first
     | (go_at_call 61; refine (HU1.out.claim _ _ HB.out).mono ?_; rintro e w1 ⟨rfl, d1, U1⟩; have h0 := U1.rs.c0; have h1 := U1.rs.al.sp_ HS.out; have i0 := U1.b3.cell 0; have i1 := U1.b3.cell 1; have i2 := U1.b3.cell 2))
 have HU2 := hid (U1.step (Kp.draw _ 1))
 go_wp2
 clear HU HU1 c0 c1 b0 b1 b2 U1
 generalize hgs : W.heap.size = gs at HU2 i0 i1 i2 ⊢
 generalize m.claimE (blk : Int) 1 (s : Int) = ce
 clear hgs
 refine wp_region_held_drew (S := fun W' => W'.cell? ⟨g, 0, none⟩ = some (.pointer (some ⟨d0.g, 0, none⟩)) ∧ W'.cell? ⟨g, 1, none⟩ = some (.int .i64 (s : Int)) ∧ Blk W' gs 33 #[.int .i64 (x : Int), .int .i64 (y : Int), .int .i64 (z : Int)]) (by kernel_rfl) ?_ (fun hHeld => ?_)
 · exact ⟨HU2.out.rs.c0, HU2.out.rs.al.sp_ HS.out, HU2.out.b3⟩
 refine tk 0 rfl (Or.inl ⟨by rfl, by (intro wz hSw; obtain ⟨f0, f1, fb⟩ := hSw; have e0 := fb.cell 0; have e1 := fb.cell 1; have e2 := fb.cell 2; go_simp; try with_reducible rfl)⟩) ?_
 try simp only [ly, Act.put]
 refine rd 1 rfl fun K hK => ?_
 go_simp
 (refine (HNT.out _).mono ?_
  rintro e w2 ⟨rfl, K2⟩
  have U2 := HU2.out.step K2
  clear K2)
 try go_wp2_with fail
 refine hK.out _ _ ?_ (fun hHeld => ?_)
 · exact ⟨U2.rs.c0, U2.rs.al.sp_ HS.out, U2.b3⟩
 clear hK K
 refine tk0 2 rfl ?_
 try simp only [ly, Act.put]
 refine tk0 3 rfl ?_
 try simp only [ly, Act.put]
 refine tk0 4 rfl ?_
 try simp only [ly, Act.put]
 refine tk0 5 rfl ?_
 try simp only [ly, Act.put]
 refine tk0 6 rfl ?_
 try simp only [ly, Act.put]
 refine tk 7 rfl (Or.inl ⟨by rfl, by (intro wz hSw; obtain ⟨f0, f1, fb⟩ := hSw; go_simp; try with_reducible rfl)⟩) ?_
 try simp only [ly, Act.put]
 refine tk0 8 rfl ?_
 try simp only [ly, Act.put]
 refine tk0 9 rfl ?_
 try simp only [ly, Act.put]
 refine tk0 11 rfl ?_
 try simp only [ly, Act.put]
 refine tk0 12 rfl ?_
 try simp only [ly, Act.put]
 refine tk0 13 rfl ?_
 try simp only [ly, Act.put]
 refine tk 14 rfl (Or.inl ⟨by rfl, by (intro wz hSw; obtain ⟨f0, f1, fb⟩ := hSw; go_simp; try with_reducible rfl)⟩) ?_
 try simp only [ly, Act.put]
 refine rd 10 rfl fun K hK => ?_
 go_simp
 (refine (U2.space _ HSP.out).mono ?_
  rintro e w3 ⟨rfl, U3⟩)
 try go_wp2_with fail
 refine hK.out _ _ ?_ (fun hHeld => ?_)
 · exact ⟨U3.rs.c0, U3.rs.al.sp_ HS.out, U3.b3⟩
 clear hK K
 refine tk0 15 rfl ?_
 try simp only [ly, Act.put]
 refine tk0 16 rfl ?_
 try simp only [ly, Act.put]
 refine wpAnyH_done (by kernel_rfl) ?_ _
 have j0 := U3.rs.c0
 have k0 := U3.b3.cell 0
 have k1 := U3.b3.cell 1
 have k2 := U3.b3.cell 2
 have HU5 := hid (U3.step (Kp.draw _ 1))
 go_wp2
 go_region_held3 (fun W' => W'.cell? ⟨g, 0, none⟩ = some (.pointer (some ⟨d0.g, 0, none⟩)) ∧ W'.cell? ⟨gs, 0, none⟩ = some (.int .i64 (x : Int)) ∧ W'.cell? ⟨gs, 1, none⟩ = some (.int .i64 (y : Int)) ∧ W'.cell? ⟨gs, 2, none⟩ = some (.int .i64 (z : Int))) (go_keep)
   (first
     | (go_at_call 66; refine (HU5.out.place _ _ _ _ HWA.out (by omega) HPE.out).mono ?_; rintro e w4 ⟨rfl, d4, U4, B4⟩; have v0 := U4.c0; have v1 := B4.cell 0; have v2 := B4.cell 1; have v3 := B4.cell 2))
 go_wp2
 go_ret2
 exact HFIN.out _ _ U4
end
section
variable {w W V : World} {d0 d : DB} {m m' : HM} {q q' g g3 : Nat} {A A2 : AS}
theorem r_place (u : RS w W d0 d q m g A) (a blk : Nat) (ha : a ≤ 10000) {x y z : Nat} (hv : vldB x y z = true) (hq : q ≤ 800000000) :
   Calls Tryz.prog 168 #[.pointer (some ⟨g, 0, none⟩), .int .i64 (a : Int), .int .i64 (blk : Int), .agg #[.int .i64 (x : Int), .int .i64 (y : Int), .int .i64 (z : Int)]] W fun e w' => e = .returned (.tuple #[.int .i64 (m.rpV A.sp a blk x y z), .int .i64 (m.rpE A.sp a blk x y z)]) ∧ ∃ d', RS w w' d0 d' (q + 1) (m.rpM A.sp a blk x y z) g A := by
 by_cases hblk : 0 < blk
 · by_cases hn32 : 32 < wdN x y
   · by_cases hpe : (m.rp1 A.sp blk).placeE (a : Int) x y z = 0
     · exact r_place_1L0 u a blk ha hv hq hblk hn32 hpe
     · exact r_place_1L1 u a blk ha hv hq hblk hn32 hpe
   · by_cases hvs : spV (m.rp1 A.sp blk) ((a / 64 : Nat) : Int) = (A.sp : Int)
     · by_cases hpe : (m.rp1 A.sp blk).placeE (a : Int) x y z = 0
       · exact r_place_1S0 u a blk ha hv hq hblk hn32 hvs hpe
       · exact r_place_1S1 u a blk ha hv hq hblk hn32 hvs hpe
     · exact r_place_1M u a blk ha hv hq hblk hn32 hvs
 · by_cases hn32 : 32 < wdN x y
   · by_cases hpe : (m.rp1 A.sp blk).placeE (a : Int) x y z = 0
     · exact r_place_0L0 u a blk ha hv hq hblk hn32 hpe
     · exact r_place_0L1 u a blk ha hv hq hblk hn32 hpe
   · by_cases hvs : spV (m.rp1 A.sp blk) ((a / 64 : Nat) : Int) = (A.sp : Int)
     · by_cases hpe : (m.rp1 A.sp blk).placeE (a : Int) x y z = 0
       · exact r_place_0S0 u a blk ha hv hq hblk hn32 hvs hpe
       · exact r_place_0S1 u a blk ha hv hq hblk hn32 hvs hpe
     · exact r_place_0M u a blk ha hv hq hblk hn32 hvs
end
end Go.Proofs.YthndilllnneijaaGreat
