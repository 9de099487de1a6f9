/-
  The contracts of package heap's claim, Claim, ClaimLarge. Conditions: those that stand in each theorem.
-/
import Derived.Test.YtkhemendnoeciaaGreatHm
namespace Go.Proofs.YtkhemendnoeciaaGreat
set_option linter.unusedVariables false
set_option linter.unusedSimpArgs false
open Go.RowKit Go.Deep Go.Maps

def claimOk (m : HM) (x n s : Int) : Bool := blkB m.bl.length x && decide (1 ≤ n ∧ n ≤ (m.bl.length : Int) - x) && spcB s
def takenE (m : HM) (x n : Nat) : Int := if freeB m x n then 0 else 8
def HM.claimE (m : HM) (x n s : Int) : Int := if claimOk m x n s then takenE m x.toNat n.toNat else 1
def HM.tkM (m : HM) (k n s st : Nat) : HM := if takenE m k n = 0 then m.setBl (claimL m.bl k n s st) else m
def HM.claimM (m : HM) (x n s : Int) (st : Nat) : HM := if m.claimE x n s = 0 then m.setBl (claimL m.bl x.toNat n.toNat s.toNat st) else m
section
variable {w w' : World} {b : HB} {r : RM} {m : HM} {q : Nat}
theorem blkB_nat {n : Nat} {i : Int} (h : blkB n i = true) : ∃ k : Nat, i = (k : Int) ∧ 1 ≤ k ∧ k < n := by
  have := of_decide_eq_true h
  exact ⟨i.toNat, by omega, by omega, by omega⟩
set_option maxHeartbeats 4000000 in
set_option maxRecDepth 100000 in
theorem h_claim (h : SH w b q m) (x n s : Int) (st : Nat) (hst : st = 1 ∨ st = 2) :
    Calls Tryz.prog 94 #[.pointer (some ⟨b.g, 0, none⟩), .int .i64 x, .int .i64 n, .int .i64 s, .int .i64 (st : Int)] w fun e w' => e = .returned (.int .i64 (m.claimE x n s)) ∧ SH w' b q (m.claimM x n s st) ∧ Kp b.all w w' := by
  have bad : claimOk m x n s = false → m.claimE x n s = 1 ∧ m.claimM x n s st = m := fun hk => by
    have : m.claimE x n s = 1 := by simp [HM.claimE, hk]
    exact ⟨this, by simp [HM.claimM, this]⟩
  have h0 := h
  obtain ⟨r, R, A, hq1, hq2⟩ := h
  have hbl := A.bl
  rcases hx : blkB m.bl.length x
  · obtain ⟨e0, e1⟩ := bad (by simp [claimOk, hx])
    rw [e0, e1]
    rw [← hbl] at hx
    have HX := hid hx
    clear e0 e1 bad hx hbl hst A
    go_enter Tryz.func94, Tryz.ntmps94
    go_wp2_with (first | (go_at_call 33; refine (h_made R).mono ?_; rintro e w' ⟨rfl, n1, rfl⟩) | (go_at_call 103; refine (h_canBeUsed (R.drewN _) _).mono ?_; rintro e w' ⟨rfl, n2, rfl⟩; rw [HX.out]))
    go_ret
    exact ⟨rfl, h0.drewN _, (Kp.draw w _).mono (by simp)⟩
  · obtain ⟨k, rfl, hk1, hk2⟩ := blkB_nat hx
    have hl64 := A.inv.len64
    have hc0 := R.c0
    have HX : Hid (blkB r.bl.length (k : Int) = true) := by rw [hbl]; exact hx
    have hk2' : k < r.bl.length := by rw [hbl]; exact hk2
    have hl64' : r.bl.length ≤ 64 := R.bl64
    by_cases hn : 1 ≤ n ∧ n ≤ (m.bl.length : Int) - (k : Int)
    · obtain ⟨n, rfl⟩ : ∃ y : Nat, n = (y : Int) := ⟨n.toNat, by omega⟩
      have hn1 : 1 ≤ n := by omega
      have hn2 : k + n ≤ m.bl.length := by omega
      have hd : decide (1 ≤ (n : Int) ∧ (n : Int) ≤ (m.bl.length : Int) - (k : Int)) = true := decide_eq_true hn
      have t1 : ((n : Int) ≤ (r.bl.length : Int) - (k : Int)) := by rw [hbl]; exact hn.2
      rcases hs : spcB s
      · obtain ⟨e0, e1⟩ := bad (by simp [claimOk, hs])
        rw [e0, e1]
        have HS := hid hs
        clear e0 e1 bad hx hbl hst A hs hd hn hn2 hk2 hl64
        go_enter Tryz.func94, Tryz.ntmps94
        go_wp2_with (first | (go_at_call 33; refine (h_made R).mono ?_; rintro e w' ⟨rfl, n1, rfl⟩) | (go_at_call 103; refine (h_canBeUsed (R.drewN _) _).mono ?_; rintro e w' ⟨rfl, n2, rfl⟩; rw [HX.out]) | (go_at_call 113; refine (h_isSpace _ _).mono ?_; rintro e w' ⟨rfl, n3, rfl⟩; rw [HS.out]))
        go_ret
        exact ⟨rfl, h0.drewN _, (Kp.draw w _).mono (by simp)⟩
      · have e0 : m.claimE (k : Int) (n : Int) s = takenE m k n := by unfold HM.claimE claimOk; rw [hx, hd, hs]; rfl
        rw [e0]
        obtain ⟨s, rfl⟩ : ∃ y : Nat, s = (y : Int) := ⟨s.toNat, by have := of_decide_eq_true hs; omega⟩
        have e1 : m.claimM (k : Int) (n : Int) (s : Int) st = m.tkM k n s st := by
          unfold HM.claimM; rw [e0]; rfl
        rw [e1]
        have HS := hid hs
        have HR := hid R
        have hcb := R.cb1
        have hcm := R.cb2
        unfold maxLen at hcm
        have HF := hid A.inv.free0
        have HST : Hid (∀ j, j < n → ∀ W, Raw W b r → W.cell? ⟨b.hb, k * 2 + j * 2, none⟩ = some (.int .i64 (m.st (k + j) : Int)) ∧ W.cell? ⟨b.hb, k * 2 + j * 2 + 1, none⟩ = some (.int .i64 (m.sp (k + j) : Int))) := fun j hj W RW => by
          have a1 := RW.stc (k := k + j) (by rw [hbl]; omega)
          have a2 := RW.spc (k := k + j) (by rw [hbl]; omega)
          rw [hbl] at a1 a2
          rw [show k * 2 + j * 2 = (k + j) * 2 by omega]
          exact ⟨a1, a2⟩
        have HI := hid A
        have hkn : (k : Int) + (n : Int) ≤ (r.bl.length : Int) := by omega
        have HN2 := hid hn2
        have d1 : decide ((n : Int) < 1) = false := decide_eq_false (by omega)
        have d2 : decide ((r.bl.length : Int) - (k : Int) < (n : Int)) = false := decide_eq_false (by omega)
        have HST0 := hid hst
        clear e0 e1 bad hx hbl hst A hs hd hn hn2 hk2 hl64
        go_enter Tryz.func94, Tryz.ntmps94
        go_wp2_with (first | (go_at_call 33; refine (h_made R).mono ?_; rintro e w' ⟨rfl, n1, rfl⟩) | (go_at_call 103; refine (h_canBeUsed (R.drewN _) _).mono ?_; rintro e w' ⟨rfl, n2, rfl⟩; rw [HX.out]) | (go_at_call 113; refine (h_isSpace _ _).mono ?_; rintro e w' ⟨rfl, n3, rfl⟩; rw [HS.out]))
        go_loopw [53] (fun c wr => ∃ j : Nat, j ≤ n ∧ c = .int .i64 (j : Int) ∧ Kp [] w wr ∧ Hid (∀ i, i < j → m.st (k + i) = 0)) (fun c _ => n - (intOf c).toNat)
        case atStart => exact ⟨0, by omega, rfl, (Kp.draw w _), (fun i hi => absurd hi (by omega))⟩
        case round =>
          obtain ⟨j, hj, rfl, K1, HJ⟩ := hrel
          by_cases hlt : j < n
          · obtain ⟨a1, a2⟩ := HST.out j hlt wr (R.kp0 K1)
            by_cases hz : m.st (k + j) = 0
            · have hz2 := HF.out _ hz
              have HJ' : Hid (∀ i, i < j + 1 → m.st (k + i) = 0) := fun i hi => by
                by_cases h4 : i < j
                · exact HJ.out i h4
                · obtain rfl : i = j := by omega
                  exact hz
              rw [hz] at a1
              rw [hz2] at a2
              have HK1 := hid K1
              clear hz hz2 K1
              go_wp2
              go_roundw
              case rel => exact ⟨j + 1, by omega, by go_num, HK1.out.chain (Kp.new _ _), HJ'⟩
              case measure => simp [intOf]; omega
            · have et : takenE m k n = 8 := by unfold takenE; rw [freeB_false hlt hz]; rfl
              have em : m.tkM k n s st = m := by unfold HM.tkM; rw [et]; rfl
              have HT := hid et
              have HM' := hid em
              have HK1 := hid K1
              generalize m.st (k + j) = s' at a1 hz
              generalize m.sp (k + j) = p' at a2
              have g1 : ((s' : Int) == 0) = false := beq_eq_false_iff_ne.2 (by omega)
              have g2 : ((s' : Int) != 0) = true := bne_iff_ne.2 (by omega)
              clear hz et em K1
              go_wp2
              go_ret
              rw [HT.out, HM'.out]
              exact ⟨rfl, h0.kp0 (HK1.out.chain (Kp.new _ _)), (HK1.out.chain (Kp.new _ _)).mono (by simp)⟩
          · obtain rfl : j = n := by omega
            have et : takenE m k j = 0 := by unfold takenE; rw [freeB_true.2 HJ.out]; rfl
            have em : m.tkM k j s st = m.setBl (claimL m.bl k j s st) := by unfold HM.tkM; rw [et]; rfl
            have HT := hid et
            have HM' := hid em
            have HFR := hid HJ.out
            have HK1 := hid K1
            clear et em K1 HJ HST
            go_wp2
            go_loopw [63] (fun c wr2 => ∃ i : Nat, i ≤ j ∧ c = .int .i64 (i : Int) ∧ Raw wr2 b { r with bl := rangeL r.bl k (3, s) i } ∧ Kp [b.hb] w wr2) (fun c _ => j - (intOf c).toNat)
            case atStart => exact ⟨0, by omega, rfl, R.kp0 HK1.out, HK1.out.mono (by simp)⟩
            case round =>
              obtain ⟨i, hi, rfl, R2, K2⟩ := hrel
              by_cases hlt2 : i < j
              · have a1 := R2.stc (k := k + i) (by simp; omega)
                have a2 := R2.spc (k := k + i) (by simp; omega)
                have f1 := R2.Bb.frozen (k * 2 + i * 2)
                have f2 := R2.Bb.frozen (k * 2 + i * 2 + 1)
                rw [show (k + i) * 2 = k * 2 + i * 2 by omega] at a1 a2
                generalize (({ r with bl := rangeL r.bl k (3, s) i } : RM).bl.getD (k + i) (0, 0)).1 = x1 at a1
                generalize (({ r with bl := rangeL r.bl k (3, s) i } : RM).bl.getD (k + i) (0, 0)).2 = x2 at a2
                have HR2 := hid R2
                have HK2 := hid K2
                clear R2 K2
                go_wp2
                go_roundw
                case rel =>
                  have hB := ((HR2.out.Bb.set_ (k * 2 + i * 2) (.int .i64 3)).set_ (k * 2 + i * 2 + 1) (.int .i64 (s : Int)))
                  have hBs := bcells_set (rangeL r.bl k (3, s) i) r.spb (k + i) 3 s (by simp; omega)
                  rw [show (k + i) * 2 = k * 2 + i * 2 by omega] at hBs
                  have hB2 : Blk ((wr.setCell ⟨b.hb, k * 2 + i * 2, none⟩ (.int .i64 3)).setCell ⟨b.hb, k * 2 + i * 2 + 1, none⟩ (.int .i64 (s : Int))) b.hb 74 (bcells ((rangeL r.bl k (3, s) i).set (k + i) (3, s)) ++ r.spb).toArray := by
                    rw [← hBs]; exact hB
                  have KK : Kp [b.hb] wr _ := (Kp.cell wr ⟨b.hb, k * 2 + i * 2, none⟩ (.int .i64 3)).trans (Kp.cell _ ⟨b.hb, k * 2 + i * 2 + 1, none⟩ (.int .i64 (s : Int))) (U := [b.hb]) (by simp) (by simp)
                  exact ⟨i + 1, by omega, by go_num, HR2.out.setB (bl := rangeL r.bl k (3, s) (i + 1)) hB2 (by simp) KK, HK2.out.trans KK (by simp) (by simp)⟩
                case measure => simp [intOf]; omega
              · obtain rfl : i = j := by omega
                have a1 := R2.stc (k := k) (by simp; omega)
                have f1 := R2.Bb.frozen (k * 2)
                generalize (({ r with bl := rangeL r.bl k (3, s) i } : RM).bl.getD k (0, 0)).1 = x1 at a1
                have hi0 : (0 : Int) < (i : Int) := by omega
                have hi1 : 0 < i := by omega
                have HR2 := hid R2
                have HK2 := hid K2
                clear R2 K2
                go_wp2
                go_ret
                rw [HT.out, HM'.out]
                have hB := HR2.out.Bb.set_ (k * 2) (.int .i64 (st : Int))
                have hBs := bcells_set0 (rangeL r.bl k (3, s) i) r.spb k st (by simp; omega)
                have hg := rangeL_get r.bl k (3, s) i k (by omega)
                rw [if_pos ⟨Nat.le_refl _, by omega⟩] at hg
                rw [hg] at hBs
                have hB2 : Blk (wr.setCell ⟨b.hb, k * 2, none⟩ (.int .i64 (st : Int))) b.hb 74 (bcells (claimL r.bl k i s st) ++ r.spb).toArray := by
                  unfold claimL
                  rw [← hBs]; exact hB
                have KK : Kp [b.hb] wr _ := Kp.cell wr ⟨b.hb, k * 2, none⟩ (.int .i64 (st : Int))
                have R3 := HR2.out.setB (bl := claimL r.bl k i s st) hB2 (by simp [claimL]) KK
                have hbl := HI.out.bl
                have A3 := HI.out.setBl (claimL_length m.bl k i s st) (claim_inv HI.out.inv hk1 hn1 HN2.out HFR.out HST0.out)
                rw [← hbl] at A3
                exact ⟨rfl, ⟨_, R3, by rw [← hbl]; exact A3, hq1, hq2⟩, (HK2.out.trans KK (U := [b.hb]) (by simp) (by simp)).all b (by simp [HB.all])⟩
    · obtain ⟨e0, e1⟩ := bad (by simp only [claimOk, hx, decide_eq_false hn]; rfl)
      rw [e0, e1]
      rw [← hbl] at hn
      by_cases hn1 : n < 1
      · clear e0 e1 bad hx hbl hst A hn
        go_enter Tryz.func94, Tryz.ntmps94
        go_wp2_with (first | (go_at_call 33; refine (h_made R).mono ?_; rintro e w' ⟨rfl, n1, rfl⟩) | (go_at_call 103; refine (h_canBeUsed (R.drewN _) _).mono ?_; rintro e w' ⟨rfl, n2, rfl⟩; rw [HX.out]))
        go_ret
        exact ⟨rfl, h0.drewN _, (Kp.draw w _).mono (by simp)⟩
      · have d1 : decide ((r.bl.length : Int) - (k : Int) < n) = true := decide_eq_true (by omega)
        have d2 : (r.bl.length : Int) - (k : Int) < n := by omega
        clear e0 e1 bad hx hbl hst A hn
        go_enter Tryz.func94, Tryz.ntmps94
        go_wp2_with (first | (go_at_call 33; refine (h_made R).mono ?_; rintro e w' ⟨rfl, n1, rfl⟩) | (go_at_call 103; refine (h_canBeUsed (R.drewN _) _).mono ?_; rintro e w' ⟨rfl, n2, rfl⟩; rw [HX.out]))
        go_ret
        exact ⟨rfl, h0.drewN _, (Kp.draw w _).mono (by simp)⟩
theorem h_Claim (h : SH w b q m) (x s : Int) :
    Calls Tryz.prog 22 #[.pointer (some ⟨b.g, 0, none⟩), .int .i64 x, .int .i64 s] w fun e w' => e = .returned (.int .i64 (m.claimE x 1 s)) ∧ SH w' b q (m.claimM x 1 s 1) ∧ Kp b.all w w' := by
  go_enter Tryz.func22, Tryz.ntmps22
  go_wp2_with (go_at_call 94; refine (h_claim h _ _ _ 1 (.inl rfl)).mono ?_; rintro e w2 ⟨rfl, S2, K2⟩; have HS := hid S2; have HK := hid K2; clear S2 K2)
  go_ret
  exact ⟨rfl, HS.out, HK.out⟩
theorem h_ClaimLarge (h : SH w b q m) (x n s : Int) :
    Calls Tryz.prog 28 #[.pointer (some ⟨b.g, 0, none⟩), .int .i64 x, .int .i64 n, .int .i64 s] w fun e w' => e = .returned (.int .i64 (m.claimE x n s)) ∧ SH w' b q (m.claimM x n s 2) ∧ Kp b.all w w' := by
  go_enter Tryz.func28, Tryz.ntmps28
  go_wp2_with (go_at_call 94; refine (h_claim h _ _ _ 2 (.inr rfl)).mono ?_; rintro e w2 ⟨rfl, S2, K2⟩; have HS := hid S2; have HK := hid K2; clear S2 K2)
  go_ret
  exact ⟨rfl, HS.out, HK.out⟩
end
end Go.Proofs.YtkhemendnoeciaaGreat
