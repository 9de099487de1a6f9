/-
  The contracts of package alloc's take, freeBlock, claimFor. Conditions: those that stand in each theorem.
-/
import Derived.Test.YthndilllnneijaaGreatPGJA
set_option linter.unusedSimpArgs false
set_option linter.unusedVariables false
set_option maxRecDepth 100000
set_option maxHeartbeats 1000000
namespace Go.Proofs.YthndilllnneijaaGreat
open Go.RowKit Go.Deep Go.Maps
section
variable {w W V : World} {b : HB} {m : HM} {q g : Nat} {t : TypeId} {cs : Array Value}
theorem a_take (x y n : Nat) (w : World) (hx : x ≤ 100000) (hn : n ≤ 100000) :
   Calls Tryz.prog 218 #[.agg #[.int .i64 (x : Int), .int .i64 (y : Int)], .int .i64 (n : Int)] w fun e w' => e = .returned (.tuple #[.int .i64 (x : Int), .agg #[.int .i64 ((x + n : Nat) : Int), .int .i64 (y : Int)]]) ∧ Kp [] w w' := by
 have B := Blk.new w 120 #[.int .i64 (x : Int), .int .i64 (y : Int)]
 have B1 := B.kp (Kp.new (w.alloc (.cells #[.int .i64 (x : Int), .int .i64 (y : Int)] 120)) (.cells #[.int .i64 0, .int .i64 0] 120)) (by simp)
 have b0 := B1.cell 0
 have b1 := B1.cell 1
 have e : ((x + n : Nat) : Int) = (x : Int) + (n : Int) := by omega
 rw [e]
 have K9 : Kp [] w (((w.alloc (.cells #[.int .i64 (x : Int), .int .i64 (y : Int)] 120)).alloc (.cells #[.int .i64 ((x : Int) + (n : Int)), .int .i64 (y : Int)] 120)).drew) := (((Kp.new _ _).chain (Kp.new _ _)).drewN 1)
 have B9 := Blk.new (w.alloc (.cells #[.int .i64 (x : Int), .int .i64 (y : Int)] 120)) 120 #[.int .i64 ((x : Int) + (n : Int)), .int .i64 (y : Int)]
 rw [World.size_alloc] at B9
 have q0 := B9.cell 0
 have q1 := B9.cell 1
 have HK := hid K9
 have HQ := hid (And.intro q0 q1)
 clear e K9 B9 q0 q1
 go_enter Tryz.func218, Tryz.ntmps218
 go_wp2
 go_region
 all_goals (
   go_wp2
   have q0 := HQ.out.1
   have q1 := HQ.out.2
   refine bodyPost_ret (v := .tuple #[.int .i64 (x : Int), .agg #[.int .i64 ((x : Int) + (n : Int)), .int .i64 (y : Int)]]) ?_ rfl ⟨rfl, HK.out⟩
   simp [results, Tryz.results218, q0, q1, go_sem])
theorem a_freeBlock (h : SH w b q m) (s : Nat) :
   Calls Tryz.prog 217 #[.agg #[.pointer (some ⟨b.g, 0, none⟩), .int .i64 (s : Int)]] w fun e w' => e = .returned (.agg #[.int .i64 (m.freeA.1 : Int), .int .i64 (m.freeA.2 : Int)]) ∧ Kp [] w w' := by
 have hf := freeB_le m 1 h.inv
 have e : (m.freeA.2 : Int) = (m.freeB 1 : Int) + 64 := by simp [HM.freeA]
 have e1 : (m.freeA.1 : Int) = (m.freeB 1 : Int) := rfl
 rw [e, e1]
 clear e e1
 have K0 := (Kp.new w (.cells #[.pointer (some ⟨b.g, 0, none⟩), .int .i64 (s : Int)] 118)).chain (Kp.new _ (.cells #[.int .i64 0, .int .i64 0] 120))
 have B := Blk.new (w.alloc (.cells #[.pointer (some ⟨b.g, 0, none⟩), .int .i64 (s : Int)] 118)) 120 #[.int .i64 0, .int .i64 0]
 rw [World.size_alloc] at B
 have HF := hid (a_free (h.k0 K0) s 1 (by omega) (by omega))
 have HK0 := hid K0
 have HB := hid B
 clear K0 B h
 generalize m.freeB 1 = f at hf HF ⊢
 go_enter Tryz.func217, Tryz.ntmps217
 go_wp2_with (go_at_call 172; refine HF.out.mono ?_; rintro e w2 ⟨rfl, K2⟩; have HK2 := hid (HK0.out.chain K2); have B2 := HB.out.kp K2 (by simp); have c0 := B2.cell 0; have c1 := B2.cell 1; have f0 := B2.frozen 0; have f1 := B2.frozen 1; have HB2 := hid B2; clear B2 K2)
 have hB9 := ((HB2.out.set_ 0 (.int .i64 (f : Int))).set_ 1 (.int .i64 ((f : Int) + 64)))
 have hK9 := ((HK2.out.trans (Kp.cell _ ⟨w.heap.size + 1, 0, none⟩ (.int .i64 (f : Int))) (U := []) (by simp) (by simp)).trans (Kp.cell _ ⟨w.heap.size + 1, 1, none⟩ (.int .i64 ((f : Int) + 64))) (U := []) (by simp) (by simp))
 have q0 := hB9.cell 0
 have q1 := hB9.cell 1
 refine bodyPost_ret (v := .agg #[.int .i64 (f : Int), .int .i64 ((f : Int) + 64)]) ?_ rfl ⟨rfl, hK9⟩
 simp [results, Tryz.results217, q0, q1, go_sem]
end
section
variable {w W V : World} {b : HB} {m : HM} {q g : Nat} {t : TypeId} {cs : Array Value}
theorem bf_k (n : Nat) (w : World) (hn : n ≤ 100000) :
   Calls Tryz.prog 173 #[.int .i64 (n : Int)] w fun e w' => e = .returned (.int .i64 (((n + 63) / 64 : Nat) : Int)) ∧ Kp [] w w' := by
 refine (a_blocksFor n w hn).mono ?_
 rintro e w' ⟨rfl, k, rfl⟩
 exact ⟨rfl, Kp.draw _ _⟩
theorem a_claimFor (h : SH w b q m) (s a n : Nat) (ha : a ≤ 100000) (hn : n ≤ 100000) :
   Calls Tryz.prog 111 #[.agg #[.pointer (some ⟨b.g, 0, none⟩), .int .i64 (s : Int)], .int .i64 (a : Int), .int .i64 (n : Int)] w fun e w' => e = .returned (.tuple #[]) ∧ SH w' b q (m.forM s a n) ∧ Kp b.all w w' := by
 have U0 := RD.start h 118 #[.pointer (some ⟨b.g, 0, none⟩), .int .i64 (s : Int)]
 have b0 := U0.bx.cell 0
 have b1 := U0.bx.cell 1
 have HU := hid U0
 have HN := hid (HU.out.step (Kp.draw _ 1))
 have HL : Hid (w.heap.size ∉ b.all) := fun hm => Nat.lt_irrefl _ (h.lt _ hm)
 have hd : ((a / 64 : Nat) : Int) = (a : Int) / 64 := by omega
 clear h U0
 by_cases h32 : 32 < n
 · have hm : m.forM s a n = m.claimM ((a / 64 : Nat) : Int) (((n + 63) / 64 : Nat) : Int) (s : Int) 2 := by unfold HM.forM; rw [if_pos h32]
   rw [hm, hd]
   have t : decide ((32 : Int) < (n : Int)) = true := decide_eq_true (by omega)
   clear hm hd
   go_enter Tryz.func111, Tryz.ntmps111
   go_wp2
   go_region_held3 (fun W => W.cell? ⟨w.heap.size, 0, none⟩ = some (.pointer (some ⟨b.g, 0, none⟩)) ∧ W.cell? ⟨w.heap.size, 1, none⟩ = some (.int .i64 (s : Int))) (go_keep)
     (first
       | (go_at_call 50; refine (h_ClaimLarge U1.sh _ _ _).mono ?_; rintro e w6 ⟨rfl, S6, K6⟩; have B6 := U1.bx.kp K6 HL.out; have t6 := B6.cell 0; have t7 := B6.cell 1; have HS6 := hid S6; have HK6 := hid (U1.kp.chain0 K6); clear S6 K6 B6)
       | (go_at_call 173; refine (bf_k n _ (by omega)).mono ?_; rintro e w5 ⟨rfl, K5⟩; have U1 := HN.out.step K5; have t4 := U1.bx.cell 0; have t5 := U1.bx.cell 1; clear K5))
   go_wp2
   go_end0
   exact ⟨rfl, HS6.out, HK6.out⟩
 · have t : decide ((32 : Int) < (n : Int)) = false := decide_eq_false (by omega)
   obtain ⟨x, hx⟩ : ∃ x : Int, (if inB m.bl.length ((a / 64 : Nat) : Int) then (m.st (((a / 64 : Nat) : Int)).toNat : Int) else -1) = x := ⟨_, rfl⟩
   have hx0 := hx
   rw [stV_eq] at hx0
   rw [hd] at hx
   have HX := hid hx
   have hz : m.st (a / 64) = 0 ∨ ¬ m.st (a / 64) = 0 := by omega
   by_cases hst : x = 0
   · have hb : (x == 0) = true := beq_iff_eq.2 hst
     have hm : m.forM s a n = m.claimM ((a / 64 : Nat) : Int) 1 (s : Int) 1 := by
       unfold HM.forM
       rw [if_neg h32, if_pos]
       split at hx0
       · omega
       · omega
     rw [hm, hd]
     subst hst
     clear hm hd hx hx0 hz h32 hb
     go_enter Tryz.func111, Tryz.ntmps111
     go_wp2_with (first
       | (go_at_call 43; refine (h_Claim U1.sh _ _).mono ?_; rintro e w6 ⟨rfl, S6, K6⟩; have HS6 := hid S6; have HK6 := hid (U1.kp.chain0 K6); clear S6 K6)
       | (go_at_call 41; refine (st_k HU.out.sh _ HX).mono ?_; rintro e w5 ⟨rfl, K5⟩; have U1 := HU.out.step K5; have t4 := U1.bx.cell 0; have t5 := U1.bx.cell 1; clear K5))
     go_end0
     exact ⟨rfl, HS6.out, HK6.out⟩
   · have hb : (x == 0) = false := beq_eq_false_iff_ne.2 hst
     have hm : m.forM s a n = m ∨ (m.bl.length ≤ a / 64 ∧ x = -1) := by
       unfold HM.forM
       rw [if_neg h32]
       split at hx0
       · rw [if_neg (by omega)]; exact .inl rfl
       · exact .inr ⟨by omega, hx0.symm⟩
     have hm2 : m.forM s a n = m := by
       rcases hm with h1 | ⟨h1, h2⟩
       · exact h1
       · unfold HM.forM
         rw [if_neg h32]
         split
         · unfold HM.claimM HM.claimE
           have hck : claimOk m ((a / 64 : Nat) : Int) 1 (s : Int) = false := by
             unfold claimOk
             have : blkB m.bl.length ((a / 64 : Nat) : Int) = false := by unfold blkB; simp; omega
             rw [this]; rfl
           rw [hck]
           rfl
         · rfl
     rw [hm2]
     clear hm hm2 hd hx hx0 hz h32 hst
     go_enter Tryz.func111, Tryz.ntmps111
     go_wp2_with (first
       | (go_at_call 41; refine (st_k HU.out.sh _ HX).mono ?_; rintro e w5 ⟨rfl, K5⟩; have U1 := HU.out.step K5; have t4 := U1.bx.cell 0; have t5 := U1.bx.cell 1; clear K5))
     go_end0
     exact ⟨rfl, U1.sh, U1.kp.mono (by simp)⟩
end
theorem runsK {w W : World} {v : Value} {rs : List (Nat × Nat)} (h : RunsAt w v rs) (k : Kp [] w W) : RunsAt W v rs := by
 obtain ⟨A, cap, rfl, hA⟩ := h
 exact ⟨A, cap, rfl, fun i hi => by obtain ⟨g, h1, h2, h3⟩ := hA i hi; exact ⟨g, h1, cell_kp k h2, cell_kp k h3⟩⟩
def inGap (a n : Nat) (g : Nat × Nat) : Bool := decide (g.1 ≤ a ∧ a + n ≤ g.1 + g.2)
section
variable {w W V : World} {b : HB} {m : HM} {q : Nat}
theorem a_isGap1 {ga gn : Nat} (a n x y : Nat) (ha : a ≤ 100000) (hn : n ≤ 100000) (hx : x ≤ 100000) (hy : y ≤ 100000) (B1 : Blk w ga 3 #[.int .i64 (a : Int)]) (B2 : Blk w gn 3 #[.int .i64 (n : Int)]) :
   Calls Tryz.prog 221 #[.agg #[.int .i64 (x : Int), .int .i64 (y : Int)], .pointer (some ⟨ga, 0, none⟩), .pointer (some ⟨gn, 0, none⟩)] w fun e w' => e = .returned (.bool (inGap a n (x, y))) ∧ Kp [] w w' := by
 have K := Kp.new w (.cells #[.int .i64 (x : Int), .int .i64 (y : Int)] 76)
 have B := Blk.new w 76 #[.int .i64 (x : Int), .int .i64 (y : Int)]
 have c0 := B.cell 0
 have c1 := B.cell 1
 have d1 := (B1.kp K (by simp)).cell 0
 have d2 := (B2.kp K (by simp)).cell 0
 have HK := hid K
 clear B1 B2 B K
 by_cases h1 : x ≤ a
 · have e : inGap a n (x, y) = decide ((a : Int) + (n : Int) ≤ (x : Int) + (y : Int)) := by unfold inGap; simp only [decide_eq_decide]; omega
   have t : decide ((x : Int) ≤ (a : Int)) = true := decide_eq_true (by omega)
   rw [e]
   clear e
   go_enter Tryz.func221, Tryz.ntmps221
   go_wp2
   go_ret
   exact ⟨rfl, HK.out⟩
 · have e : inGap a n (x, y) = false := by unfold inGap; exact decide_eq_false (by simp only; omega)
   have t : decide ((x : Int) ≤ (a : Int)) = false := decide_eq_false (by omega)
   rw [e]
   clear e
   go_enter Tryz.func221, Tryz.ntmps221
   go_wp2
   go_ret
   exact ⟨rfl, HK.out⟩
theorem a_index {ga gn : Nat} (a n : Nat) (ha : a ≤ 100000) (hn : n ≤ 100000) {v : Value} {rs : List (Nat × Nat)} (hl : rs.length ≤ 1000) (hb : ∀ i, i < rs.length → (rs.getD i (0, 0)).1 ≤ 100000 ∧ (rs.getD i (0, 0)).2 ≤ 100000) (B1 : Blk w ga 3 #[.int .i64 (a : Int)]) (B2 : Blk w gn 3 #[.int .i64 (n : Int)]) (hr : RunsAt w v rs) :
   Calls Tryz.prog 222 #[v, .func (.func 221) #[] #[.pointer (some ⟨ga, 0, none⟩), .pointer (some ⟨gn, 0, none⟩)]] w fun e w' => (∃ i : Int, e = .returned (.int .i64 i) ∧ decide (0 ≤ i) = rs.any (inGap a n)) ∧ Kp [] w w' := by
 have hr0 := hr
 obtain ⟨A, cap, rfl, _⟩ := hr
 have HR := hid hr0
 have HB1 := hid B1
 have HB2 := hid B2
 have HB := hid hb
 clear hr0 B1 B2 hb
 go_enter Tryz.func222, Tryz.ntmps222
 go_wp2
 go_loopw [8] (fun c wr => ∃ j : Nat, j ≤ rs.length ∧ c = .int .i64 (j : Int) ∧ (∀ i, i < j → inGap a n (rs.getD i (0, 0)) = false) ∧ Kp [] w wr) (fun c _ => rs.length - (intOf c).toNat)
 case atStart => exact ⟨0, by omega, rfl, fun i hi => by omega, Kp.refl _ _⟩
 case round =>
   obtain ⟨j, hj, rfl, hno, K⟩ := hrel
   have HNO := hid hno
   have HK := hid K
   have R' := runsK HR.out K
   have b1 := hid (HB1.out.kp K (by simp))
   have b2 := hid (HB2.out.kp K (by simp))
   clear hno K
   by_cases hlt : j < rs.length
   · obtain ⟨A', cap', e1, hA⟩ := R'
     injection e1 with e1 e2 e3
     subst e1
     obtain ⟨g, rfl, g1, g2⟩ := hA j hlt
     obtain ⟨u1, u2⟩ := HB.out j hlt
     obtain ⟨x, y, hxy⟩ : ∃ x y, rs.getD j (0, 0) = (x, y) := ⟨_, _, rfl⟩
     have HXY := hid hxy
     rw [hxy] at g1 g2 u1 u2
     simp only at g1 g2 u1 u2
     clear hA hxy e2 e3
     rcases hg : inGap a n (x, y)
     · have HG := hid hg
       clear hg
       go_wp2_with (go_at_call 221; refine (a_isGap1 a n x y ha hn u1 u2 b1.out b2.out).mono ?_; rintro e w6 ⟨rfl, K6⟩; rw [HG.out]; have HK6 := hid (HK.out.chain K6); clear K6)
       go_roundw
       case rel => exact ⟨j + 1, by omega, by go_num, fun i hi => by
         by_cases hij : i = j
         · subst hij; rw [HXY.out]; exact HG.out
         · exact HNO.out i (by omega), HK6.out⟩
       case measure => simp [intOf]; omega
     · have HG := hid hg
       clear hg
       go_wp2_with (go_at_call 221; refine (a_isGap1 a n x y ha hn u1 u2 b1.out b2.out).mono ?_; rintro e w6 ⟨rfl, K6⟩; rw [HG.out]; have HK6 := hid (HK.out.chain K6); clear K6)
       go_ret
       refine ⟨⟨_, rfl, ?_⟩, HK6.out⟩
       have : rs.any (inGap a n) = true := List.any_eq_true.2 ⟨rs.getD j (0, 0), by rw [List.getD_eq_getElem?_getD, List.getElem?_eq_getElem hlt]; exact List.getElem_mem hlt, by rw [HXY.out]; exact HG.out⟩
       rw [this]
       exact decide_eq_true (by omega)
   · obtain rfl : j = rs.length := by omega
     clear R'
     go_wp2
     go_ret
     refine ⟨⟨_, rfl, ?_⟩, HK.out⟩
     have : rs.any (inGap a n) = false := by
       rw [List.any_eq_false]
       intro g hg
       obtain ⟨i, hi, rfl⟩ := List.mem_iff_getElem.1 hg
       have := HNO.out i hi
       rw [List.getD_eq_getElem?_getD, List.getElem?_eq_getElem hi] at this
       simpa using this
     rw [this]
     rfl
theorem a_contains {ga gn : Nat} (a n : Nat) (ha : a ≤ 100000) (hn : n ≤ 100000) {v : Value} {rs : List (Nat × Nat)} (hl : rs.length ≤ 1000) (hb : ∀ i, i < rs.length → (rs.getD i (0, 0)).1 ≤ 100000 ∧ (rs.getD i (0, 0)).2 ≤ 100000) (B1 : Blk w ga 3 #[.int .i64 (a : Int)]) (B2 : Blk w gn 3 #[.int .i64 (n : Int)]) (hr : RunsAt w v rs) :
   Calls Tryz.prog 220 #[v, .func (.func 221) #[] #[.pointer (some ⟨ga, 0, none⟩), .pointer (some ⟨gn, 0, none⟩)]] w fun e w' => e = .returned (.bool (rs.any (inGap a n))) ∧ Kp [] w w' := by
 have HI := hid (a_index a n ha hn hl hb B1 B2 hr)
 clear B1 B2 hr hb
 go_enter Tryz.func220, Tryz.ntmps220
 go_wp2_with (fail)
 refine HI.out.mono ?_
 rintro e w2 ⟨⟨i, rfl, hi⟩, K2⟩
 have HD := hid hi
 clear hi
 go_wp2
 go_ret
 exact ⟨congrArg (fun z => Ending.returned (Value.bool z)) HD.out, K2⟩
theorem a_isGap (h : SH w b q m) (s a n : Nat) (ha : a ≤ 100000) (hn : n ≤ 100000) :
   Calls Tryz.prog 219 #[.agg #[.pointer (some ⟨b.g, 0, none⟩), .int .i64 (s : Int)], .int .i64 (a : Int), .int .i64 (n : Int)] w fun e w' => e = .returned (.bool (m.isGapB s a n)) ∧ Kp [] w w' := by
 have U0 := RD.start h 118 #[.pointer (some ⟨b.g, 0, none⟩), .int .i64 (s : Int)]
 have K1 := Kp.new (w.alloc (.cells #[.pointer (some ⟨b.g, 0, none⟩), .int .i64 (s : Int)] 118)) (.cells #[.int .i64 (a : Int)] 3)
 have K2 := Kp.new ((w.alloc (.cells #[.pointer (some ⟨b.g, 0, none⟩), .int .i64 (s : Int)] 118)).alloc (.cells #[.int .i64 (a : Int)] 3)) (.cells #[.int .i64 (n : Int)] 3)
 have B1 := (Blk.new (w.alloc (.cells #[.pointer (some ⟨b.g, 0, none⟩), .int .i64 (s : Int)] 118)) 3 #[.int .i64 (a : Int)]).kp K2 (by simp)
 have B2 := Blk.new ((w.alloc (.cells #[.pointer (some ⟨b.g, 0, none⟩), .int .i64 (s : Int)] 118)).alloc (.cells #[.int .i64 (a : Int)] 3)) 3 #[.int .i64 (n : Int)]
 have U := (U0.step K1).step K2
 simp only [World.size_alloc] at B1 B2
 have b0 := U.bx.cell 0
 have b1 := B1.cell 0
 have HU := hid U
 have HB1 := hid B1
 have HB2 := hid B2
 have hd : ((a / 64 : Nat) : Int) = (a : Int) / 64 := by omega
 have HD := hid hd
 clear U0 K1 K2 B1 B2 U hd
 rcases ho : ownS m s (a / 64)
 · have e : m.isGapB s a n = false := by unfold HM.isGapB; rw [ho]; rfl
   rw [e]
   have HO := hid (a_owns HU.out.sh s (a / 64))
   rw [HD.out, ho] at HO
   clear h ho e
   go_enter Tryz.func219, Tryz.ntmps219
   go_wp2_with (go_at_call 211; refine HO.out.mono ?_; rintro e w5 ⟨rfl, K5⟩; have HK5 := hid (HU.out.kp.chain K5))
   go_ret
   exact ⟨rfl, HK5.out⟩
 · have e : m.isGapB s a n = (m.gapL ((a / 64 : Nat) : Int)).any (inGap a n) := by unfold HM.isGapB; rw [ho, Bool.true_and]; rfl
   rw [e]
   have hl := gaps_len h.inv (k := a / 64)
   have hb : ∀ i, i < (m.gapL ((a / 64 : Nat) : Int)).length → ((m.gapL ((a / 64 : Nat) : Int)).getD i (0, 0)).1 ≤ 100000 ∧ ((m.gapL ((a / 64 : Nat) : Int)).getD i (0, 0)).2 ≤ 100000 := fun i hi => by
     have := gap_bd h.inv hi
     have := h.inv.len64
     omega
   have HO := hid (a_owns HU.out.sh s (a / 64))
   rw [HD.out, ho] at HO
   generalize hgs : m.gapL ((a / 64 : Nat) : Int) = gs at hl hb ⊢
   rw [HD.out] at hgs
   have HGS := hid hgs
   have HB := hid hb
   clear h ho e hgs hb
   go_enter Tryz.func219, Tryz.ntmps219
   go_wp2_with (first
     | (go_at_call 211; refine HO.out.mono ?_; rintro e w5 ⟨rfl, K5⟩; have U5 := HU.out.step K5; have b2 := hid (HB1.out.kp K5 (by simp)); have b3 := hid (HB2.out.kp K5 (by simp)); have t5 := U5.bx.cell 0; clear K5)
     | (go_at_call 45; refine (h_gaps U5.sh _).mono ?_; rintro e w6 ⟨v, rfl, own, bel⟩; have K6 := Kp.of_below bel; rw [HGS.out] at own; have U6 := U5.step K6; have HRU := hid (RunsAt.of_own own); have b4 := hid (b2.out.kp K6 (by simp)); have b5 := hid (b3.out.kp K6 (by simp)); clear own bel K6)
     | (go_at_call 220; refine (a_contains a n ha hn (by omega) HB.out b4.out b5.out HRU.out).mono ?_; rintro e w7 ⟨rfl, K7⟩; have U7 := U6.step K7; clear K7))
   go_ret
   exact ⟨rfl, U7.kp⟩
end
theorem two_set {w W : World} {g : Nat} {t : TypeId} {u v : Value} (B : Blk W g t #[u, v]) (hg : w.heap.size ≤ g) (K : Kp [] w W) (x y : Value) :
   ((W.setCell ⟨g, 0, none⟩ x).setCell ⟨g, 1, none⟩ y).cell? ⟨g, 0, none⟩ = some x ∧ ((W.setCell ⟨g, 0, none⟩ x).setCell ⟨g, 1, none⟩ y).cell? ⟨g, 1, none⟩ = some y ∧ Kp [] w ((W.setCell ⟨g, 0, none⟩ x).setCell ⟨g, 1, none⟩ y) := by
 have B9 := (B.set_ 0 x).set_ 1 y
 exact ⟨B9.cell 0, B9.cell 1, (K.trans (Kp.cell _ ⟨g, 0, none⟩ x) (U := []) (by simp) (by simp; omega)).trans (Kp.cell _ ⟨g, 1, none⟩ y) (U := []) (by simp) (by simp; omega)⟩
section
variable {w W V : World} {b : HB} {m : HM} {q : Nat}
theorem a_bump (h : SH w b q m) (s x y n : Nat) (hx : x ≤ 10000) (hy : y ≤ 10000) (hn : n ≤ 10000) :
   Calls Tryz.prog 216 #[.agg #[.pointer (some ⟨b.g, 0, none⟩), .int .i64 (s : Int)], .agg #[.int .i64 (x : Int), .int .i64 (y : Int)], .int .i64 (n : Int)] w fun e w' => e = .returned (.tuple #[.int .i64 ((m.bumpA s (x, y) n).1 : Int), .agg #[.int .i64 ((m.bumpA s (x, y) n).2.1 : Int), .int .i64 ((m.bumpA s (x, y) n).2.2 : Int)]]) ∧ Kp [] w w' := by
 have hf := freeB_le m 1 h.inv
 have U0 := RD.start h 118 #[.pointer (some ⟨b.g, 0, none⟩), .int .i64 (s : Int)]
 obtain ⟨w1, hw1⟩ : ∃ w1, w1 = w.alloc (.cells #[.pointer (some ⟨b.g, 0, none⟩), .int .i64 (s : Int)] 118) := ⟨_, rfl⟩
 rw [← hw1] at U0
 have K1 := Kp.new w1 (.cells #[.int .i64 (x : Int), .int .i64 (y : Int)] 120)
 have K2 := Kp.new (w1.alloc (.cells #[.int .i64 (x : Int), .int .i64 (y : Int)] 120)) (.cells #[.int .i64 0, .int .i64 0] 120)
 have B1 := (Blk.new w1 120 #[.int .i64 (x : Int), .int .i64 (y : Int)]).kp K2 (by simp)
 have B2 := Blk.new (w1.alloc (.cells #[.int .i64 (x : Int), .int .i64 (y : Int)] 120)) 120 #[.int .i64 0, .int .i64 0]
 have U := (U0.step K1).step K2
 rw [hw1] at U B1 B2
 simp only [World.size_alloc] at B1 B2
 have b0 := U.bx.cell 0
 have b1 := U.bx.cell 1
 have c0 := B1.cell 0
 have c1 := B1.cell 1
 have HU := hid U
 have HB1 := hid B1
 have HB2 := hid B2
 have HSZ : Hid (w.heap.size ≤ w.heap.size + 1 + 1) := by show _ ≤ _; omega
 have hz : ((0 : Nat) : Int) = 0 := rfl
 clear U0 K1 K2 B1 B2 U hw1 w1
 rcases hfit : fitA (x, y) n
 · have e : m.bumpA s (x, y) n = (m.freeB 1, (m.freeB 1 + n, m.freeB 1 + 64)) := by unfold HM.bumpA; rw [hfit]; rfl
   rw [e]
   have e1 : ((m.freeB 1 + n : Nat) : Int) = (m.freeB 1 : Int) + (n : Int) := by omega
   have e2 : ((m.freeB 1 + 64 : Nat) : Int) = (m.freeB 1 : Int) + 64 := by omega
   simp only [e1, e2]
   have HF := hid hfit
   clear e e1 e2 hfit
   go_enter Tryz.func216, Tryz.ntmps216
   go_wp2_with (first
     | (go_at_call 204; refine (a_fits x y n _ (by omega) (by omega)).mono ?_; rintro e w5 ⟨rfl, K5⟩; rw [HF.out]; have U5 := HU.out.step K5; have t5 := U5.bx.cell 0; have t6 := U5.bx.cell 1; have HA5 := hid (HB1.out.kp K5 (by simp)); have z0 := HA5.out.cell 0; have z1 := HA5.out.cell 1; have HB5 := hid (HB2.out.kp K5 (by simp)); clear K5)
     | (go_at_call 217; refine (a_freeBlock U5.sh s).mono ?_; rintro e w6 ⟨rfl, K6⟩; have U6 := U5.step K6; have HB6 := hid (HB5.out.kp K6 (by simp)); clear K6; dsimp only [HM.freeA])
     | (go_at_call 218; refine (a_take (m.freeB 1) (m.freeB 1 + 64) n _ (by omega) (by omega)).mono ?_; rintro e w7 ⟨rfl, K7⟩; have U7 := U6.step K7; have B7 := HB6.out.kp K7 (by simp); have HB7 := hid B7; have q0 := B7.cell 0; have q1 := B7.cell 1; have g0 := B7.frozen 0; have g1 := B7.frozen 1; clear K7 B7))
   obtain ⟨r0, r1, K9⟩ := two_set HB7.out HSZ.out U7.kp (.int .i64 ((m.freeB 1 : Int) + (n : Int))) (.int .i64 ((m.freeB 1 : Int) + 64))
   generalize ((w7.setCell ⟨w.heap.size + 1 + 1, 0, none⟩ (.int .i64 ((m.freeB 1 : Int) + (n : Int)))).setCell ⟨w.heap.size + 1 + 1, 1, none⟩ (.int .i64 ((m.freeB 1 : Int) + 64))) = W9 at r0 r1 K9 ⊢
   refine bodyPost_ret (v := .tuple #[.int .i64 (m.freeB 1 : Int), .agg #[.int .i64 ((m.freeB 1 : Int) + (n : Int)), .int .i64 ((m.freeB 1 : Int) + 64)]]) ?_ rfl ⟨rfl, K9⟩
   simp [results, Tryz.results216, r0, r1, go_sem]
 · rcases hg : m.isGapB s x n
   · have e : m.bumpA s (x, y) n = (0, (x, y)) := by unfold HM.bumpA; rw [hfit, if_pos rfl]; simp only; rw [hg]; rfl
     rw [e]
     simp only [hz]
     have HF := hid hfit
     have HG := hid hg
     clear e hfit hg
     go_enter Tryz.func216, Tryz.ntmps216
     go_wp2_with (first
       | (go_at_call 204; refine (a_fits x y n _ (by omega) (by omega)).mono ?_; rintro e w5 ⟨rfl, K5⟩; rw [HF.out]; have U5 := HU.out.step K5; have t5 := U5.bx.cell 0; have t6 := U5.bx.cell 1; have HA5 := hid (HB1.out.kp K5 (by simp)); have z0 := HA5.out.cell 0; have z1 := HA5.out.cell 1; have HB5 := hid (HB2.out.kp K5 (by simp)); clear K5)
       | (go_at_call 219; refine (a_isGap U5.sh s x n (by omega) (by omega)).mono ?_; rintro e w6 ⟨rfl, K6⟩; rw [HG.out]; have U6 := U5.step K6; have HA6 := hid (HA5.out.kp K6 (by simp)); have z2 := HA6.out.cell 0; have z3 := HA6.out.cell 1; have B6 := HB5.out.kp K6 (by simp); have HB6 := hid B6; have q0 := B6.cell 0; have q1 := B6.cell 1; have g0 := B6.frozen 0; have g1 := B6.frozen 1; clear K6 B6))
     go_region
     all_goals (
       go_wp2
       obtain ⟨r0, r1, K9⟩ := two_set HB6.out HSZ.out U6.kp (.int .i64 (x : Int)) (.int .i64 (y : Int))
       generalize ((w6.setCell ⟨w.heap.size + 1 + 1, 0, none⟩ (.int .i64 (x : Int))).setCell ⟨w.heap.size + 1 + 1, 1, none⟩ (.int .i64 (y : Int))) = W9 at r0 r1 K9 ⊢
       refine bodyPost_ret (v := .tuple #[.int .i64 0, .agg #[.int .i64 (x : Int), .int .i64 (y : Int)]]) ?_ rfl ⟨rfl, (K9.drewN 1)⟩
       simp [results, Tryz.results216, r0, r1, go_sem])
   · have e : m.bumpA s (x, y) n = (x, (x + n, y)) := by unfold HM.bumpA; rw [hfit, if_pos rfl]; simp only; rw [hg]; rfl
     rw [e]
     have e1 : ((x + n : Nat) : Int) = (x : Int) + (n : Int) := by omega
     simp only [e1]
     have HF := hid hfit
     have HG := hid hg
     clear e e1 hfit hg
     go_enter Tryz.func216, Tryz.ntmps216
     go_wp2_with (first
       | (go_at_call 204; refine (a_fits x y n _ (by omega) (by omega)).mono ?_; rintro e w5 ⟨rfl, K5⟩; rw [HF.out]; have U5 := HU.out.step K5; have t5 := U5.bx.cell 0; have t6 := U5.bx.cell 1; have HA5 := hid (HB1.out.kp K5 (by simp)); have z0 := HA5.out.cell 0; have z1 := HA5.out.cell 1; have HB5 := hid (HB2.out.kp K5 (by simp)); clear K5)
       | (go_at_call 219; refine (a_isGap U5.sh s x n (by omega) (by omega)).mono ?_; rintro e w6 ⟨rfl, K6⟩; rw [HG.out]; have U6 := U5.step K6; have HA6 := hid (HA5.out.kp K6 (by simp)); have z2 := HA6.out.cell 0; have z3 := HA6.out.cell 1; have B6 := HB5.out.kp K6 (by simp); have HB6 := hid B6; clear K6 B6)
       | (go_at_call 218; refine (a_take x y n _ (by omega) (by omega)).mono ?_; rintro e w7 ⟨rfl, K7⟩; have U7 := U6.step K7; have B7 := HB6.out.kp K7 (by simp); have HB7 := hid B7; have q0 := B7.cell 0; have q1 := B7.cell 1; have g0 := B7.frozen 0; have g1 := B7.frozen 1; clear K7 B7))
     obtain ⟨r0, r1, K9⟩ := two_set HB7.out HSZ.out U7.kp (.int .i64 ((x : Int) + (n : Int))) (.int .i64 (y : Int))
     generalize ((w7.setCell ⟨w.heap.size + 1 + 1, 0, none⟩ (.int .i64 ((x : Int) + (n : Int)))).setCell ⟨w.heap.size + 1 + 1, 1, none⟩ (.int .i64 (y : Int))) = W9 at r0 r1 K9 ⊢
     refine bodyPost_ret (v := .tuple #[.int .i64 (x : Int), .agg #[.int .i64 ((x : Int) + (n : Int)), .int .i64 (y : Int)]]) ?_ rfl ⟨rfl, K9⟩
     simp [results, Tryz.results216, r0, r1, go_sem]
end
end Go.Proofs.YthndilllnneijaaGreat
