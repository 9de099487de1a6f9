/-
  The contracts of the document's heap's ClaimLarge, Retag, Forget, New. Conditions: those that stand in each theorem.
-/
import Derived.BigQuiet
import Derived.Test.YthndilllnneijaaGreatPG17
set_option linter.unusedSimpArgs false
set_option linter.unusedVariables false
set_option maxHeartbeats 2000000
namespace Go.Proofs.YthndilllnneijaaGreat
open Go.RowKit Go.Deep Go.Maps
section
variable {w w' W wr : World} {d : DB} {q : Nat} {m : HM} {bl : List (Nat × Nat)}
theorem d_retag (T : DR w d q m) (t : m.Tl) (i s : Int) :
   Calls Tryz.prog 65 #[.pointer (some ⟨d.g, 0, none⟩), .int .i64 i, .int .i64 s] w fun e w' => e = .returned (.int .i64 (m.retagE i s)) ∧ DChg w d q (m.retagM i s) w' := by
 have HT := hid T
 obtain ⟨l1, l2, l3, l4⟩ := T.n_bd
 unfold maxLen at l4
 rcases hb : blkB m.bl.length i
 · have e1 : m.retagE i s = 1 := by simp [HM.retagE, hb]
   have e2 : m.retagM i s = m := by simp [HM.retagM, e1]
   rw [e1, e2]
   have HB := hid hb
   clear T hb e1 e2
   go_enter Tryz.func65, Tryz.ntmps65
   go_wp2_with (first
     | (go_at_call 60; refine (d_made HT.out).mono ?_; rintro e w' ⟨rfl, n1, rfl⟩)
     | (go_at_call 132; refine (d_block (HT.out.drewN n1) _).mono ?_; rintro e w' ⟨rfl, n2, rfl⟩; rw [HB.out]))
   go_ret
   exact ⟨rfl, DChg.same HT.out (by first | exact Kp.draw _ _ | exact (Kp.draw _ _).drewN _ | exact ((Kp.draw _ _).drewN _).drewN _ | exact (((Kp.draw _ _).drewN _).drewN _).drewN _)⟩
 · rcases hs : spcB s
   · have e1 : m.retagE i s = 1 := by simp [HM.retagE, hs]
     have e2 : m.retagM i s = m := by simp [HM.retagM, e1]
     rw [e1, e2]
     have HB := hid hb
     have HS := hid hs
     clear T hb hs e1 e2
     go_enter Tryz.func65, Tryz.ntmps65
     go_wp2_with (first
       | (go_at_call 60; refine (d_made HT.out).mono ?_; rintro e w' ⟨rfl, n1, rfl⟩)
       | (go_at_call 132; refine (d_block (HT.out.drewN n1) _).mono ?_; rintro e w' ⟨rfl, n2, rfl⟩; rw [HB.out])
       | (go_at_call 133; refine (d_space _ s).mono ?_; rintro e w' ⟨rfl, n3, rfl⟩; rw [HS.out]))
     go_ret
     exact ⟨rfl, DChg.same HT.out (by first | exact Kp.draw _ _ | exact (Kp.draw _ _).drewN _ | exact ((Kp.draw _ _).drewN _).drewN _ | exact (((Kp.draw _ _).drewN _).drewN _).drewN _)⟩
   · obtain ⟨k, rfl, hk1, hk2⟩ := blkB_nat hb
     obtain ⟨s, rfl⟩ : ∃ z : Nat, s = (z : Int) := ⟨s.toNat, by have := of_decide_eq_true hs; omega⟩
     have HB := hid hb
     have HS := hid hs
     have HK2 := hid hk2
     by_cases hc : m.st k = 1 ∨ m.st k = 2
     · have hcb : clmB (m.st k) = true := decide_eq_true hc
       have hwn := whole_grp t hk2 hc
       obtain ⟨ge1, ge2, ge3, ge4⟩ := (grpEnd_iff m.bl k _ hk2).1 rfl
       have e1 : m.retagE (k : Int) (s : Int) = 0 := by simp only [HM.retagE, hb, hs, if_true, Int.toNat_natCast, hcb]
       have e2 : m.retagM (k : Int) (s : Int) = m.setBl (spaceL m.bl k s (grpEnd m.bl k - k)) := by unfold HM.retagM; rw [if_pos e1, Int.toNat_natCast, Int.toNat_natCast]
       have HI : Hid ((m.setBl (spaceL m.bl k s (grpEnd m.bl k - k))).Inv) := retag_inv T.inv hk1 (by omega) (fun i hi => by
         by_cases h0 : i = 0
         · subst h0; rw [Nat.add_zero]; omega
         · have := ge3 (k + i) (by omega) (by omega)
           show (m.bl.getD (k + i) (0, 0)).1 ≠ 0
           omega)
       rw [e1, e2]
       generalize hgn : grpEnd m.bl k - k = n at HI hwn ⊢
       have hnp : 1 ≤ n := by omega
       have hn0 : ((n : Int) == 0) = false := beq_eq_false_iff_ne.2 (by omega)
       have hnl : k + n ≤ m.bl.length := by omega
       have HWN := hid hwn
       clear T hb hs hc hcb hwn ge1 ge2 ge3 ge4 e1 e2 hgn
       go_enter Tryz.func65, Tryz.ntmps65
       go_wp2_with (first
         | (go_at_call 60; refine (d_made HT.out).mono ?_; rintro e w' ⟨rfl, n1, rfl⟩)
         | (go_at_call 132; refine (d_block (HT.out.drewN n1) _).mono ?_; rintro e w' ⟨rfl, n2, rfl⟩; rw [HB.out])
         | (go_at_call 133; refine (d_space _ _).mono ?_; rintro e w' ⟨rfl, n3, rfl⟩; rw [HS.out])
         | (go_at_call 134; refine (d_whole (HT.out.drewN _) k HK2.out).mono ?_; rintro e w' ⟨rfl, n4, rfl⟩; rw [HWN.out]))
       go_loopw [8] (fun c wr => ∃ j : Nat, j ≤ n ∧ c = .int .i64 ((k + j : Nat) : Int) ∧ BW w wr d (spaceL m.bl k s j)) (fun c _ => k + n - (intOf c).toNat)
       case atStart => exact ⟨0, by omega, by simp, BW.start HT.out (by first | exact Kp.draw _ _ | exact (Kp.draw _ _).drewN _ | exact ((Kp.draw _ _).drewN _).drewN _ | exact (((Kp.draw _ _).drewN _).drewN _).drewN _)⟩
       case round =>
         obtain ⟨j, hj, rfl, BB⟩ := hrel
         have HBB := hid BB
         have hc0 := BB.c0 HT.out
         by_cases hlt : j < n
         · have hl : k + j < (spaceL m.bl k s j).length := by simp; omega
           have hs := BB.s hl
           have hp := BB.p hl
           have hf1 := BB.f ((k + j) * 2 + 1)
           have HN := hid (BB.set1 hl s)
           generalize ((spaceL m.bl k s j).getD (k + j) (0, 0)).2 = y at hp
           have d1 : decide (k + j < k + n) = true := decide_eq_true (by omega)
           clear BB hl hs
           go_wp2
           go_roundw
           case rel => exact ⟨j + 1, by omega, by go_num, HN.out⟩
           case measure => simp [intOf]; omega
         · obtain rfl : j = n := by omega
           clear BB
           go_wp2
           go_ret
           exact ⟨rfl, HBB.out.done HT.out (by simp) HI.out⟩
     · have hcb : clmB (m.st k) = false := decide_eq_false hc
       have e1 : m.retagE (k : Int) (s : Int) = 5 := by simp only [HM.retagE, hb, hs, if_true, Int.toNat_natCast, hcb]; rfl
       have e2 : m.retagM (k : Int) (s : Int) = m := by unfold HM.retagM; rw [if_neg (by rw [e1]; decide)]
       have HWN : Hid (wholeN m.bl k = 0) := by
         show _ = _
         unfold wholeN
         have h1 : ¬ (m.bl.getD k (0, 0)).1 = 1 := fun h => hc (.inl h)
         have h2 : ¬ (m.bl.getD k (0, 0)).1 = 2 := fun h => hc (.inr h)
         rw [if_neg h1, if_neg h2]
       rw [e1, e2]
       clear T hb hs hc hcb e1 e2
       go_enter Tryz.func65, Tryz.ntmps65
       go_wp2_with (first
         | (go_at_call 60; refine (d_made HT.out).mono ?_; rintro e w' ⟨rfl, n1, rfl⟩)
         | (go_at_call 132; refine (d_block (HT.out.drewN n1) _).mono ?_; rintro e w' ⟨rfl, n2, rfl⟩; rw [HB.out])
         | (go_at_call 133; refine (d_space _ _).mono ?_; rintro e w' ⟨rfl, n3, rfl⟩; rw [HS.out])
         | (go_at_call 134; refine (d_whole (HT.out.drewN _) k HK2.out).mono ?_; rintro e w' ⟨rfl, n4, rfl⟩; rw [HWN.out]))
       go_ret
       exact ⟨rfl, DChg.same HT.out (by first | exact Kp.draw _ _ | exact (Kp.draw _ _).drewN _ | exact ((Kp.draw _ _).drewN _).drewN _ | exact (((Kp.draw _ _).drewN _).drewN _).drewN _)⟩
theorem d_ClaimLarge (T : DR w d q m) (x n s : Int) :
   Calls Tryz.prog 62 #[.pointer (some ⟨d.g, 0, none⟩), .int .i64 x, .int .i64 n, .int .i64 s] w fun e w' => e = .returned (.int .i64 (m.claimE x n s)) ∧ DChg w d q (m.claimM x n s 2) w' := by
 have HT := hid T
 obtain ⟨l1, l2, l3, l4⟩ := T.n_bd
 unfold maxLen at l4
 have hc0 := T.c0
 rcases hb : blkB m.bl.length x
 · have e1 : m.claimE x n s = 1 := by simp [HM.claimE, claimOk, hb]
   have e2 : m.claimM x n s 2 = m := by simp [HM.claimM, e1]
   rw [e1, e2]
   have HB := hid hb
   clear T hb e1 e2
   go_enter Tryz.func62, Tryz.ntmps62
   go_wp2_with (first
     | (go_at_call 60; refine (d_made HT.out).mono ?_; rintro e w' ⟨rfl, n1, rfl⟩)
     | (go_at_call 132; refine (d_block (HT.out.drewN n1) _).mono ?_; rintro e w' ⟨rfl, n2, rfl⟩; rw [HB.out]))
   go_ret
   exact ⟨rfl, DChg.same HT.out (by first | exact Kp.draw _ _ | exact (Kp.draw _ _).drewN _ | exact ((Kp.draw _ _).drewN _).drewN _ | exact (((Kp.draw _ _).drewN _).drewN _).drewN _)⟩
 · obtain ⟨k, rfl, hk1, hk2⟩ := blkB_nat hb
   have HB := hid hb
   have hsub : (m.bl.length : Int) - (k : Int) = ((m.bl.length - k : Nat) : Int) := by omega
   by_cases hn1 : 1 ≤ n
   · have d1 : decide (n < 1) = false := decide_eq_false (by omega)
     by_cases hn2 : n ≤ (m.bl.length : Int) - (k : Int)
     · obtain ⟨n, rfl⟩ : ∃ z : Nat, n = (z : Int) := ⟨n.toNat, by omega⟩
       have hnl : k + n ≤ m.bl.length := by omega
       generalize hrk : m.bl.length - k = rk at hsub
       have d2 : decide (rk < n) = false := decide_eq_false (by omega)
       rcases hs : spcB s
       · have e1 : m.claimE (k : Int) (n : Int) s = 1 := by simp [HM.claimE, claimOk, hs]
         have e2 : m.claimM (k : Int) (n : Int) s 2 = m := by simp [HM.claimM, e1]
         rw [e1, e2]
         have HS := hid hs
         clear T hb hs e1 e2 hn1 hn2 hrk
         go_enter Tryz.func62, Tryz.ntmps62
         go_wp2_with (first
           | (go_at_call 60; refine (d_made HT.out).mono ?_; rintro e w' ⟨rfl, n1, rfl⟩)
           | (go_at_call 132; refine (d_block (HT.out.drewN n1) _).mono ?_; rintro e w' ⟨rfl, n2, rfl⟩; rw [HB.out])
           | (go_at_call 133; refine (d_space _ s).mono ?_; rintro e w' ⟨rfl, n3, rfl⟩; rw [HS.out]))
         go_ret
         exact ⟨rfl, DChg.same HT.out (by first | exact Kp.draw _ _ | exact (Kp.draw _ _).drewN _ | exact ((Kp.draw _ _).drewN _).drewN _ | exact (((Kp.draw _ _).drewN _).drewN _).drewN _)⟩
       · obtain ⟨s, rfl⟩ : ∃ z : Nat, s = (z : Int) := ⟨s.toNat, by have := of_decide_eq_true hs; omega⟩
         have HS := hid hs
         have HCE : Hid (m.claimE (k : Int) (n : Int) (s : Int) = takenE m k n) := by
           show _ = _
           unfold HM.claimE claimOk
           rw [hb, hs, decide_eq_true ⟨hn1, hn2⟩]
           rfl
         have HFR := hid (fun i (hi : k + i < m.bl.length) => T.stc hi)
         have hn1' : 1 ≤ n := by omega
         have HMD : Hid ((∀ i, i < n → m.st (k + i) = 0) → m.claimE (k : Int) (n : Int) (s : Int) = 0 ∧ m.claimM (k : Int) (n : Int) (s : Int) 2 = m.setBl (claimL m.bl k n s 2) ∧ (m.setBl (claimL m.bl k n s 2)).Inv) := fun hf => by
           have ht : m.claimE (k : Int) (n : Int) (s : Int) = 0 := by rw [HCE.out]; unfold takenE; rw [freeB_true.2 hf, if_pos rfl]
           refine ⟨ht, ?_, claim_inv T.inv hk1 hn1' hnl hf (.inr rfl)⟩
           unfold HM.claimM
           rw [if_pos ht]
           show m.setBl (claimL m.bl (k : Int).toNat (n : Int).toNat (s : Int).toNat 2) = _
           rw [Int.toNat_natCast, Int.toNat_natCast, Int.toNat_natCast]
         have HM8 : Hid (∀ i, i < n → m.st (k + i) ≠ 0 → m.claimE (k : Int) (n : Int) (s : Int) = 8 ∧ m.claimM (k : Int) (n : Int) (s : Int) 2 = m) := fun i hi h0 => by
           have ht : m.claimE (k : Int) (n : Int) (s : Int) = 8 := by rw [HCE.out]; unfold takenE; rw [freeB_false hi h0]; rfl
           exact ⟨ht, by unfold HM.claimM; rw [if_neg (by rw [ht]; decide)]⟩
         generalize m.claimE (k : Int) (n : Int) (s : Int) = ce at HMD HM8 ⊢
         generalize m.claimM (k : Int) (n : Int) (s : Int) 2 = cm at HMD HM8 ⊢
         clear T hb hs hn1 hn2 hrk HCE
         go_enter Tryz.func62, Tryz.ntmps62
         go_wp2_with (first
           | (go_at_call 60; refine (d_made HT.out).mono ?_; rintro e w' ⟨rfl, n1, rfl⟩)
           | (go_at_call 132; refine (d_block (HT.out.drewN n1) _).mono ?_; rintro e w' ⟨rfl, n2, rfl⟩; rw [HB.out])
           | (go_at_call 133; refine (d_space _ _).mono ?_; rintro e w' ⟨rfl, n3, rfl⟩; rw [HS.out]))
         go_loopw [9] (fun c wr => ∃ j : Nat, j ≤ n ∧ Hid (∀ i, i < j → m.st (k + i) = 0) ∧ c = .int .i64 ((k + j : Nat) : Int) ∧ Kp [] w wr) (fun c _ => k + n - (intOf c).toNat)
         case atStart => exact ⟨0, by omega, (fun i hi => absurd hi (by omega)), by simp, (by first | exact Kp.draw _ _ | exact (Kp.draw _ _).drewN _ | exact ((Kp.draw _ _).drewN _).drewN _ | exact (((Kp.draw _ _).drewN _).drewN _).drewN _)⟩
         case round =>
           obtain ⟨j, hj, HJ, rfl, K⟩ := hrel
           have HK := hid K
           have hc1 := cell_kp K hc0
           by_cases hlt : j < n
           · have hst := cell_kp K (HFR.out j (by omega))
             have d3 : decide (k + j < k + n) = true := decide_eq_true (by omega)
             by_cases h0 : (m.bl.getD (k + j) (0, 0)).1 = 0
             · have HJ' : Hid (∀ i, i < j + 1 → m.st (k + i) = 0) := fun i hi => by
                 by_cases h : i < j
                 · exact HJ.out i h
                 · obtain rfl : i = j := by omega
                   exact h0
               rw [h0] at hst
               clear K h0
               go_wp2
               go_roundw
               case rel => exact ⟨j + 1, by omega, HJ', by go_num, HK.out⟩
               case measure => simp [intOf]; omega
             · obtain ⟨f1, f2⟩ := HM8.out j hlt h0
               have HF := hid (And.intro f1 f2)
               clear f1 f2
               generalize (m.bl.getD (k + j) (0, 0)).1 = y at hst h0
               have e6 : ((y : Int) != 0) = true := bne_iff_ne.2 (by omega)
               clear K h0
               go_wp2
               go_ret
               rw [HF.out.1, HF.out.2]
               exact ⟨rfl, DChg.same HT.out HK.out⟩
           · obtain rfl : j = n := by omega
             obtain ⟨f1, f2, f3⟩ := HMD.out HJ.out
             have HF := hid (And.intro f1 f2)
             clear f1 f2
             have HI := hid f3
             clear K f3
             have d3 : decide (k + j < k + j) = false := decide_eq_false (by omega)
             go_wp2
             go_loopw [10] (fun c wq => ∃ z : Nat, z ≤ j ∧ c = .int .i64 ((k + z : Nat) : Int) ∧ BW w wq d (rangeL m.bl k (3, s) z)) (fun c _ => k + j - (intOf c).toNat)
             case atStart => exact ⟨0, by omega, by simp, BW.start HT.out HK.out⟩
             case round =>
               obtain ⟨z, hz, rfl, BB⟩ := hrel
               have HBB := hid BB
               have hc0 := BB.c0 HT.out
               by_cases hlz : z < j
               · have hl : k + z < (rangeL m.bl k (3, s) z).length := by simp; omega
                 have hs := BB.s hl
                 have hp := BB.p hl
                 have hf0 := BB.f ((k + z) * 2)
                 have hf1 := BB.f ((k + z) * 2 + 1)
                 have HN := hid (BB.set hl 3 s)
                 generalize (rangeL m.bl k (3, s) z).getD (k + z) (0, 0) = y at hs hp
                 have d4 : decide (k + z < k + j) = true := decide_eq_true (by omega)
                 clear BB hl
                 go_wp2
                 go_roundw
                 case rel => exact ⟨z + 1, by omega, by go_num, HN.out⟩
                 case measure => simp [intOf]; omega
               · obtain rfl : z = j := by omega
                 have hl : k < (rangeL m.bl k (3, s) z).length := by simp; omega
                 have hs := BB.s hl
                 have hf0 := BB.f (k * 2)
                 have HN := BB.set0 hl 2
                 rw [rangeL_get m.bl k (3, s) z k hnl, if_pos ⟨Nat.le_refl _, by omega⟩] at hs HN
                 have HN2 := hid HN
                 clear BB hl HN
                 go_wp2
                 go_ret
                 rw [HF.out.1, HF.out.2]
                 exact ⟨rfl, HN2.out.done HT.out (by simp [claimL]) HI.out⟩
     · have e1 : m.claimE (k : Int) n s = 1 := by
         unfold HM.claimE claimOk
         rw [decide_eq_false (fun h => hn2 h.2)]
         simp
       have e2 : m.claimM (k : Int) n s 2 = m := by simp [HM.claimM, e1]
       rw [e1, e2]
       have d2 : decide (((m.bl.length - k : Nat) : Int) < n) = true := decide_eq_true (by omega)
       generalize m.bl.length - k = rk at hsub d2
       clear T hb e1 e2 hn1 hn2
       go_enter Tryz.func62, Tryz.ntmps62
       go_wp2_with (first
         | (go_at_call 60; refine (d_made HT.out).mono ?_; rintro e w' ⟨rfl, n1, rfl⟩)
         | (go_at_call 132; refine (d_block (HT.out.drewN n1) _).mono ?_; rintro e w' ⟨rfl, n2, rfl⟩; rw [HB.out]))
       go_ret
       exact ⟨rfl, DChg.same HT.out (by first | exact Kp.draw _ _ | exact (Kp.draw _ _).drewN _ | exact ((Kp.draw _ _).drewN _).drewN _ | exact (((Kp.draw _ _).drewN _).drewN _).drewN _)⟩
   · have e1 : m.claimE (k : Int) n s = 1 := by
       unfold HM.claimE claimOk
       rw [decide_eq_false (fun h => hn1 h.1)]
       simp
     have e2 : m.claimM (k : Int) n s 2 = m := by simp [HM.claimM, e1]
     rw [e1, e2]
     have d1 : decide (n < 1) = true := decide_eq_true (by omega)
     clear T hb e1 e2 hn1
     go_enter Tryz.func62, Tryz.ntmps62
     go_wp2_with (first
       | (go_at_call 60; refine (d_made HT.out).mono ?_; rintro e w' ⟨rfl, n1, rfl⟩)
       | (go_at_call 132; refine (d_block (HT.out.drewN n1) _).mono ?_; rintro e w' ⟨rfl, n2, rfl⟩; rw [HB.out]))
     go_ret
     exact ⟨rfl, DChg.same HT.out (by first | exact Kp.draw _ _ | exact (Kp.draw _ _).drewN _ | exact ((Kp.draw _ _).drewN _).drewN _ | exact (((Kp.draw _ _).drewN _).drewN _).drewN _)⟩
end
end Go.Proofs.YthndilllnneijaaGreat
