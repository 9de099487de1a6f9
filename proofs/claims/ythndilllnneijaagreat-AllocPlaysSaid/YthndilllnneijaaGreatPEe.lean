/-
  The law's Same. Conditions: those that stand in each theorem.
-/
import Derived.BigQuiet
import Derived.Test.YthndilllnneijaaGreatPG18
import Derived.Test.YthndilllnneijaaGreatPG20
import Derived.Test.YthndilllnneijaaGreatPG16
import Derived.Test.YthndilllnneijaaGreatPG8
set_option linter.unusedSimpArgs false
set_option linter.unusedVariables false
set_option maxRecDepth 100000
set_option maxHeartbeats 2000000
namespace Go.Proofs.YthndilllnneijaaGreat
open Go.RowKit Go.Deep Go.Maps
theorem runsAt_kp0 {w W : World} {v : Value} {rs : List (Nat × Nat)} (h : RunsAt w v rs) (k : Kp [] w W) : RunsAt W v rs := by
 obtain ⟨A, cap, hv, hc⟩ := h
 exact ⟨A, cap, hv, fun i hi => by obtain ⟨g, h1, h2, h3⟩ := hc i hi; exact ⟨g, h1, cell_kp k h2, cell_kp k h3⟩⟩
theorem all_len {m : HM} (I : m.Inv) : m.allL.length ≤ 2048 := by
 have := fpL_le m 0 (32 * m.bl.length)
 have := I.len64
 unfold HM.allL
 omega
theorem obj_len (m : HM) (i : Int) : (m.objL i).length ≤ 32 := by
 unfold HM.objL
 split
 · exact fpL_le _ _ _
 · simp
theorem gap_len (m : HM) (i : Int) : (m.gapL i).length ≤ 33 := by
 unfold HM.gapL
 split
 · have h1 := gapAdd_le (gpN m (m.objL i) (64 * i.toNat) (m.objL i).length).1 (gpN m (m.objL i) (64 * i.toNat) (m.objL i).length).2 (64 * (i.toNat + 1))
   have h2 := gpN_le m (m.objL i) (64 * i.toNat) (m.objL i).length
   have h3 := obj_len m i
   omega
 · simp
section
variable {w w' : World} {b : HB} {d : DB} {m : HM} {q p : Nat}
theorem same (S : SH w b q m) (T : DR w d p m) (hp : p ≤ 1000000000) :
   Calls Tryz.prog 17 #[.pointer (some ⟨b.g, 0, none⟩), .pointer (some ⟨d.g, 0, none⟩)] w fun e w' => e = .returned (.bool true) ∧ Kp [] w w' := by
 have hnb := T.inv.n_bd
 have hbl : m.bl.length ≤ 64 := T.inv.len64
 have hborn := T.bq
 have HAL : Hid (m.allL.length ≤ 1000000) := Nat.le_trans (all_len T.inv) (by omega)
 have HOL : Hid (∀ i, (m.objL i).length ≤ 1000000) := fun i => Nat.le_trans (obj_len m i) (by omega)
 have HGL : Hid (∀ i, (m.gapL i).length ≤ 4096) := fun i => Nat.le_trans (gap_len m i) (by omega)
 have HS := hid S
 have HT := hid T
 have HP := hid hp
 clear S T
 go_enter Tryz.func17, Tryz.ntmps17
 go_wp2_with (first
   | (go_at_call 40; refine (h_blocks HS.out).mono ?_; rintro e w1 ⟨rfl, h1⟩; have HK1 := hid (Kp.of_drewN h1); clear h1)
       | (go_at_call 81; refine (d_blocks (HT.out.kp0 HK1.out)).mono ?_; rintro e w2 ⟨rfl, h2⟩; have HK2 := hid (HK1.out.chain (Kp.of_drewN h2)); clear h2)
       | (go_at_call 30; refine (h_births (HS.out.kp0 HK2.out)).mono ?_; rintro e w3 ⟨rfl, h3⟩; have HK3 := hid (HK2.out.chain (Kp.of_drewN h3)); clear h3)
       | (go_at_call 82; refine (d_births (HT.out.kp0 HK3.out)).mono ?_; rintro e w4 ⟨rfl, h4⟩; have HK4 := hid (HK3.out.chain (Kp.of_drewN h4)); clear h4)
       | (go_at_call 83; refine (h_used (HS.out.kp0 HK4.out)).mono ?_; rintro e w5 ⟨rfl, h5⟩; have HK5 := hid (HK4.out.chain (h5)); clear h5)
       | (go_at_call 84; refine (d_used (HT.out.kp0 HK5.out)).mono ?_; rintro e w6 ⟨rfl, h6⟩; have HK6 := hid (HK5.out.chain (h6)); clear h6)
       | (go_at_call 86; refine (h_all (HS.out.kp0 HK6.out)).mono ?_; rintro e w7 ⟨va, rfl, own7, bel7⟩; have HK7 := hid (HK6.out.chain (Kp.of_below bel7)); have HV7 := hid (FarI.of_own own7); have HB7 := hid (Kp.of_below bel7); clear own7 bel7)
       | (go_at_call 87; refine (d_all (HT.out.kp0 HK7.out)).mono ?_; rintro e w8 ⟨vb, rfl, own8, bel8⟩; have HK8 := hid (HK7.out.chain (Kp.of_below bel8)); have HV8 := hid (FarI.of_own own8); have HB8 := hid (Kp.of_below bel8); clear own8 bel8)
       | (go_at_call 85; refine (ints_yes (HV7.out.kp HB8.out (by simp)) HV8.out HAL.out).mono ?_; rintro e w9 ⟨rfl, h9⟩; have HK9 := hid (HK8.out.chain (Kp.of_drewN h9)); clear h9))
 go_loopw [5] (fun c wr => ∃ k : Nat, k ≤ m.bl.length + 2 ∧ c = .int .i64 ((k : Int) - 1) ∧ Kp [] w wr) (fun c _ => m.bl.length + 2 - (intOf c + 1).toNat)
 case atStart => exact ⟨0, by omega, by first | rfl | go_num, HK9.out⟩
 case round =>
   obtain ⟨k, hk, rfl, K⟩ := hrel
   have HKW := hid K
   clear K
   by_cases hlt : k < m.bl.length + 2
   · have e1 : decide ((k : Int) - 1 ≤ (m.bl.length : Int)) = true := decide_eq_true (by omega)
     obtain ⟨x1, hx1⟩ : ∃ x, (if inB m.bl.length ((k : Int) - 1) = true then (m.st ((k : Int) - 1).toNat : Int) else -1) = x := ⟨_, rfl⟩
     obtain ⟨x2, hx2⟩ : ∃ x, (if inB m.bl.length ((k : Int) - 1) = true then (m.sp ((k : Int) - 1).toNat : Int) else -1) = x := ⟨_, rfl⟩
     have HST := hid hx1
     have HSP := hid hx2
     clear hx1 hx2
     go_wp2_with (first
       | (go_at_call 81; refine (d_blocks (HT.out.kp0 HKW.out)).mono ?_; rintro e w11 ⟨rfl, h11⟩; have HK11 := hid (HKW.out.chain (Kp.of_drewN h11)); clear h11)
           | (go_at_call 41; refine (h_state (HS.out.kp0 HK11.out) _).mono ?_; rintro e w12 ⟨rfl, h12⟩; have HK12 := hid (HK11.out.chain (Kp.of_drewN h12)); rw [HST.out]; clear h12)
           | (go_at_call 88; refine (d_state (HT.out.kp0 HK12.out) _).mono ?_; rintro e w13 ⟨rfl, h13⟩; have HK13 := hid (HK12.out.chain (Kp.of_drewN h13)); rw [HST.out]; clear h13)
           | (go_at_call 36; refine (h_space (HS.out.kp0 HK13.out) _).mono ?_; rintro e w14 ⟨rfl, h14⟩; have HK14 := hid (HK13.out.chain (Kp.of_drewN h14)); rw [HSP.out]; clear h14)
           | (go_at_call 89; refine (d_spaceOf (HT.out.kp0 HK14.out) _).mono ?_; rintro e w15 ⟨rfl, h15⟩; have HK15 := hid (HK14.out.chain (Kp.of_drewN h15)); rw [HSP.out]; clear h15)
           | (go_at_call 90; refine (h_objects (HS.out.kp0 HK15.out) _).mono ?_; rintro e w16 ⟨va, rfl, own16, bel16⟩; have HK16 := hid (HK15.out.chain (Kp.of_below bel16)); have HV16 := hid (FarI.of_own own16); have HB16 := hid (Kp.of_below bel16); clear own16 bel16)
           | (go_at_call 91; refine (d_objects (HT.out.kp0 HK16.out) _).mono ?_; rintro e w17 ⟨vb, rfl, own17, bel17⟩; have HK17 := hid (HK16.out.chain (Kp.of_below bel17)); have HV17 := hid (FarI.of_own own17); have HB17 := hid (Kp.of_below bel17); clear own17 bel17)
           | (go_at_call 85; refine (ints_yes (HV16.out.kp HB17.out (by simp)) HV17.out (HOL.out _)).mono ?_; rintro e w18 ⟨rfl, h18⟩; have HK18 := hid (HK17.out.chain (Kp.of_drewN h18)); clear h18)
           | (go_at_call 45; refine (h_gaps (HS.out.kp0 HK18.out) _).mono ?_; rintro e w19 ⟨vc, rfl, own19, bel19⟩; have HK19 := hid (HK18.out.chain (Kp.of_below bel19)); have HV19 := hid (RunsAt.of_own own19); have HB19 := hid (Kp.of_below bel19); clear own19 bel19)
           | (go_at_call 92; refine (d_gaps (HT.out.kp0 HK19.out) _).mono ?_; rintro e w20 ⟨vd, rfl, own20, bel20⟩; have HK20 := hid (HK19.out.chain (Kp.of_below bel20)); have HV20 := hid (RunsAt.of_own own20); have HB20 := hid (Kp.of_below bel20); clear own20 bel20)
           | (go_at_call 53; refine (sameRuns_yes (runsAt_kp0 HV19.out HB20.out) HV20.out (HGL.out _)).mono ?_; rintro e w21 ⟨rfl, h21⟩; have HK21 := hid (HK20.out.chain (Kp.of_drewN h21)); clear h21)
           | (go_at_call 39; refine (h_linesP (HS.out.kp0 HK21.out) _).mono ?_; rintro e w22 ⟨ve, rfl, bl22, h22⟩; have HK22 := hid (HK21.out.chain h22); have HV22 := hid bl22; have HB22 := hid h22; clear bl22 h22)
           | (go_at_call 94; refine (d_linesP (HT.out.kp0 HK22.out) _).mono ?_; rintro e w23 ⟨vf, rfl, bl23, h23⟩; have HK23 := hid (HK22.out.chain h23); have HV23 := hid bl23; have HB23 := hid h23; clear bl23 h23)
           | (go_at_call 93; refine (bools_yes (HV22.out.kp0 HB23.out) HV23.out (Nat.le_trans (lineL_len m _) (by omega))).mono ?_; rintro e w24 ⟨rfl, h24⟩; have HK24 := hid (HK23.out.chain (Kp.of_drewN h24)); clear h24))
     go_roundw
     case rel => exact ⟨k + 1, by omega, by go_num, HK24.out⟩
     case measure => simp [intOf]; omega
   · obtain rfl : k = m.bl.length + 2 := by omega
     have e1 : decide (((m.bl.length + 2 : Nat) : Int) - 1 ≤ (m.bl.length : Int)) = false := decide_eq_false (by omega)
     go_wp2_with ((go_at_call 81; refine (d_blocks (HT.out.kp0 HKW.out)).mono ?_; rintro e w11 ⟨rfl, h11⟩; have HK11 := hid (HKW.out.chain (Kp.of_drewN h11)); clear h11))
     go_loopw [6] (fun c wr => ∃ k : Nat, k ≤ m.bl.length * 64 + 2 ∧ c = .int .i64 ((k : Int) - 1) ∧ Kp [] w wr) (fun c _ => m.bl.length * 64 + 2 - (intOf c + 1).toNat)
     case atStart => exact ⟨0, by omega, by first | rfl | go_num, HK11.out⟩
     case round =>
       obtain ⟨k, hk, rfl, K⟩ := hrel
       have HKV := hid K
       clear K
       by_cases hlt : k < m.bl.length * 64 + 2
       · have e1 : decide ((k : Int) - 1 ≤ (m.bl.length : Int) * 64) = true := decide_eq_true (by omega)
         obtain ⟨x, hx⟩ : ∃ x, (if inB m.bl.length (((k : Int) - 1).tdiv 64) = true then (m.st (((k : Int) - 1).tdiv 64).toNat : Int) else -1) = x := ⟨_, rfl⟩
         have HX := hid hx
         have HNW : Hid (W64 ((k : Int) - 1)) := ⟨by omega, by omega⟩
         clear hx
         have e4 : (17 : Int) ≠ 0 := by decide
         by_cases hx0 : x = 0
         · subst hx0
           generalize hrm : ((k : Int) - 1).tmod 17 = rm
           have HRM := hid hrm
           by_cases hr : rm = 0
           · subst hr
             go_wp2_with (first
               | (go_at_call 81; refine (d_blocks (HT.out.kp0 HKV.out)).mono ?_; rintro e w31 ⟨rfl, h31⟩; have HK31 := hid (HKV.out.chain (Kp.of_drewN h31)); clear h31)
               | (go_at_call 88; refine (d_state (HT.out.kp0 HK31.out) _).mono ?_; rintro e w32 ⟨rfl, h32⟩; have HK32 := hid (HK31.out.chain (Kp.of_drewN h32)); rw [HX.out]; (try rw [HRM.out]); clear h32)
               | (go_at_call 95; refine (looks (HS.out.kp0 HK32.out) (HT.out.kp0 HK32.out) _ HNW.out HP.out).mono ?_; rintro e w33 ⟨rfl, h33⟩; have HK33 := hid (HK32.out.chain (h33)); clear h33))
             go_roundw
             case rel => exact ⟨k + 1, by omega, by go_num, HK33.out⟩
             case measure => simp [intOf]; omega
           · have e5 : (rm != 0) = true := bne_iff_ne.2 hr
             go_wp2_with (first
               | (go_at_call 81; refine (d_blocks (HT.out.kp0 HKV.out)).mono ?_; rintro e w31 ⟨rfl, h31⟩; have HK31 := hid (HKV.out.chain (Kp.of_drewN h31)); clear h31)
               | (go_at_call 88; refine (d_state (HT.out.kp0 HK31.out) _).mono ?_; rintro e w32 ⟨rfl, h32⟩; have HK32 := hid (HK31.out.chain (Kp.of_drewN h32)); rw [HX.out]; (try rw [HRM.out]); clear h32)
               | (go_at_call 95; refine (looks (HS.out.kp0 HK32.out) (HT.out.kp0 HK32.out) _ HNW.out HP.out).mono ?_; rintro e w33 ⟨rfl, h33⟩; have HK33 := hid (HK32.out.chain (h33)); clear h33))
             go_roundw
             case rel => exact ⟨k + 1, by omega, by go_num, HK32.out⟩
             case measure => simp [intOf]; omega
         · have e5 : (x == 0) = false := beq_eq_false_iff_ne.2 hx0
           go_wp2_with (first
             | (go_at_call 81; refine (d_blocks (HT.out.kp0 HKV.out)).mono ?_; rintro e w31 ⟨rfl, h31⟩; have HK31 := hid (HKV.out.chain (Kp.of_drewN h31)); clear h31)
             | (go_at_call 88; refine (d_state (HT.out.kp0 HK31.out) _).mono ?_; rintro e w32 ⟨rfl, h32⟩; have HK32 := hid (HK31.out.chain (Kp.of_drewN h32)); rw [HX.out]; (try rw [HRM.out]); clear h32)
             | (go_at_call 95; refine (looks (HS.out.kp0 HK32.out) (HT.out.kp0 HK32.out) _ HNW.out HP.out).mono ?_; rintro e w33 ⟨rfl, h33⟩; have HK33 := hid (HK32.out.chain (h33)); clear h33))
           go_roundw
           case rel => exact ⟨k + 1, by omega, by go_num, HK33.out⟩
           case measure => simp [intOf]; omega
       · obtain rfl : k = m.bl.length * 64 + 2 := by omega
         have e1 : decide (((m.bl.length * 64 + 2 : Nat) : Int) - 1 ≤ (m.bl.length : Int) * 64) = false := decide_eq_false (by omega)
         go_wp2_with ((go_at_call 81; refine (d_blocks (HT.out.kp0 HKV.out)).mono ?_; rintro e w31 ⟨rfl, h31⟩; have HK31 := hid (HKV.out.chain (Kp.of_drewN h31)); clear h31))
         go_loopw [7, 8, 9, 10, 11] (fun c _ _ _ _ wr => ∃ k : Nat, k ≤ m.born + 3 ∧ c = .int .i64 ((k : Int) - 1) ∧ Kp [] w wr) (fun c _ _ _ _ _ => m.born + 3 - (intOf c + 1).toNat)
         case atStart => exact ⟨0, by omega, by first | rfl | go_num, HK31.out⟩
         case round =>
           obtain ⟨k, hk, rfl, K⟩ := hrel
           have HKU := hid K
           clear K
           by_cases hlt : k < m.born + 3
           · have e1 : decide ((k : Int) - 1 ≤ (m.born : Int) + 1) = true := decide_eq_true (by omega)
             have HNW : Hid (W64 ((k : Int) - 1)) := ⟨by omega, by omega⟩
             go_wp2_with (first
               | (go_at_call 82; refine (d_births (HT.out.kp0 HKU.out)).mono ?_; rintro e w41 ⟨rfl, h41⟩; have HK41 := hid (HKU.out.chain (Kp.of_drewN h41)); clear h41)
               | (go_at_call 49; refine (h_at (HS.out.kp0 HK41.out) _ HNW.out).mono ?_; rintro e w42 ⟨rfl, h42⟩; have HK42 := hid (HK41.out.chain (Kp.of_drewN h42)); clear h42)
               | (go_at_call 96; refine (d_at (HT.out.kp0 HK42.out) _).mono ?_; rintro e w43 ⟨rfl, h43⟩; have HK43 := hid (HK42.out.chain (Kp.of_drewN h43)); clear h43))
             go_roundw
             case rel => first | exact ⟨k + 1, by omega, by go_num, HK43.out⟩ | ((repeat apply Exists.intro); exact ⟨⟨k + 1, by omega, by go_num, HK43.out⟩, rfl⟩)
             case measure => simp [intOf]; omega
           · obtain rfl : k = m.born + 3 := by omega
             have e1 : decide (((m.born + 3 : Nat) : Int) - 1 ≤ (m.born : Int) + 1) = false := decide_eq_false (by omega)
             go_wp2_with ((go_at_call 82; refine (d_births (HT.out.kp0 HKU.out)).mono ?_; rintro e w41 ⟨rfl, h41⟩; have HK41 := hid (HKU.out.chain (Kp.of_drewN h41)); clear h41))
             go_ret
             exact ⟨rfl, HK41.out⟩
end
end Go.Proofs.YthndilllnneijaaGreat
