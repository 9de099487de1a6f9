/-
  The contracts of package alloc's freeBlocks, freeBlock, take. Conditions: those that stand in each theorem.
-/
import Derived.Test.YtkkmlllajfafcaaPXA
namespace Go.Proofs.Ytkkmlllajfafcaa
set_option linter.unusedVariables false
set_option linter.unusedSimpArgs false
open Go.RowKit Go.Deep Go.Maps

theorem frun_le (m : HM) (k : Nat) : frun m (k + 1) ≤ k := by
  induction k with
  | zero => exact Nat.le_refl _
  | succ k ih =>
    show (if k + 1 = 0 then 0 else if m.st (k + 1) = 0 then frun m (k + 1) + 1 else 0) ≤ _
    split
    · omega
    · split
      · omega
      · omega
theorem frun_free {m : HM} {k : Nat} (hk : 1 ≤ k) (h : m.st k = 0) : frun m (k + 1) = frun m k + 1 := by
  show (if k = 0 then 0 else if m.st k = 0 then frun m k + 1 else 0) = _
  rw [if_neg (by omega), if_pos h]
theorem frun_used {m : HM} {k : Nat} (h : m.st k ≠ 0) : frun m (k + 1) = 0 := by
  show (if k = 0 then 0 else if m.st k = 0 then frun m k + 1 else 0) = _
  rw [if_neg h]
  split <;> rfl
/-- No free run of c blocks ends before block k. -/
def noRun (m : HM) (c k : Nat) : Prop := ∀ j, 1 ≤ j → j < k → m.st j = 0 → frun m (j + 1) ≠ c
theorem freeB_at {m : HM} {c k : Nat} (hk : 1 ≤ k) (hn : k < m.bl.length) (h0 : m.st k = 0) (hr : frun m (k + 1) = c) (hno : noRun m c k) : m.freeB c = (k + 1 - c) * 64 := by
  unfold HM.freeB
  rw [leastN_some hn (by simp [hk, h0, hr]) (fun j hj => by
    by_cases h1 : 1 ≤ j
    · by_cases h2 : m.st j = 0
      · have := hno j h1 hj h2
        simp [this]
      · simp [h2]
    · simp [h1])]
theorem freeB_no {m : HM} {c : Nat} (hno : noRun m c m.bl.length) : m.freeB c = 0 := by
  unfold HM.freeB
  rw [leastN_none (fun j hj => by
    by_cases h1 : 1 ≤ j
    · by_cases h2 : m.st j = 0
      · have := hno j h1 hj h2
        simp [this]
      · simp [h2]
    · simp [h1])]
/-- Where free blocks lie. -/
theorem freeB_some {m : HM} {c : Nat} (hc : 1 ≤ c) (h : m.freeB c ≠ 0) : ∃ k, 1 ≤ k ∧ k < m.bl.length ∧ m.st k = 0 ∧ frun m (k + 1) = c ∧ c ≤ k ∧ m.freeB c = (k + 1 - c) * 64 := by
  unfold HM.freeB at h ⊢
  rcases hl : leastN (fun k => decide (1 ≤ k) && decide (m.st k = 0) && decide (frun m (k + 1) = c)) m.bl.length with _ | k
  · rw [hl] at h; exact absurd rfl h
  · obtain ⟨h1, h2, h3⟩ := leastN_iff.1 hl
    simp only [Bool.and_eq_true, decide_eq_true_eq] at h2
    have := frun_le m k
    exact ⟨k, h2.1.1, h1, h2.1.2, h2.2, by omega, rfl⟩
theorem freeB_le (m : HM) (c : Nat) (I : m.Inv) : m.freeB c ≤ 4096 := by
  unfold HM.freeB
  have := I.len64
  rcases hl : leastN (fun k => decide (1 ≤ k) && decide (m.st k = 0) && decide (frun m (k + 1) = c)) m.bl.length with _ | k
  · exact Nat.zero_le _
  · obtain ⟨h1, h2, h3⟩ := leastN_iff.1 hl
    show (k + 1 - c) * 64 ≤ _
    omega
section
variable {w W V : World} {b : HB} {m : HM} {q g : Nat} {t : TypeId} {cs : Array Value}
theorem nb_k (h : SH w b q m) :
    Calls Try.prog 48 #[.pointer (some ⟨b.g, 0, none⟩)] w fun e w' => e = .returned (.int .i64 (m.bl.length : Int)) ∧ Kp [] w w' := by
  refine (h_nblocks h).mono ?_
  rintro e w' ⟨rfl, n, rfl⟩
  exact ⟨rfl, Kp.draw _ _⟩
set_option maxRecDepth 100000 in
set_option maxHeartbeats 2000000 in
theorem a_free (h : SH w b q m) (s c : Nat) (hc : 1 ≤ c) (hc2 : c ≤ 1000) :
    Calls Try.prog 34 #[.agg #[.pointer (some ⟨b.g, 0, none⟩), .int .i64 (s : Int)], .int .i64 (c : Int)] w fun e w' => e = .returned (.int .i64 ((m.freeB c : Nat) : Int)) ∧ Kp [] w w' := by
  have U0 := RD.start h 27 #[.pointer (some ⟨b.g, 0, none⟩), .int .i64 (s : Int)]
  have hl := h.inv.len64
  have hl2 := h.inv.len2
  have HU := hid U0
  generalize hn : m.bl.length = n at hl hl2
  have HN := hid hn
  clear h U0 hn
  go_enter Try.func34, Try.ntmps34
  go_wp2
  go_loopw [5, 6] (fun r k wr => ∃ j : Nat, 1 ≤ j ∧ j ≤ n ∧ k = .int .i64 (j : Int) ∧ r = .int .i64 ((frun m j : Nat) : Int) ∧ noRun m c j ∧ RD w wr b q m w.heap.size 27 #[.pointer (some ⟨b.g, 0, none⟩), .int .i64 (s : Int)]) (fun _ k _ => n - (intOf k).toNat)
  case atStart => exact ⟨1, by omega, by omega, rfl, rfl, fun j h1 h2 => by omega, HU.out⟩
  case round =>
    obtain ⟨j, hj1, hj, rfl, rfl, hno, U⟩ := hrel
    have hfr : frun m j ≤ 64 := by
      obtain ⟨i, rfl⟩ : ∃ i, j = i + 1 := ⟨j - 1, by omega⟩
      have := frun_le m i
      omega
    generalize hf : frun m j = f at hfr
    have HF := hid hf
    have HNO := hid hno
    have b0 := U.bx.cell 0
    clear hf hno
    by_cases hlt : j < n
    · rcases Nat.eq_zero_or_pos (m.st j) with hst | hst
      · have HX : Hid ((if inB m.bl.length (j : Int) then (m.st (j : Int).toNat : Int) else -1) = 0) := by show _ = _; rw [stV_eq, if_pos (by rw [HN.out]; exact hlt), hst]; rfl
        by_cases hfc : f + 1 = c
        · have hb : (((f : Int) + 1) == (c : Int)) = true := beq_iff_eq.2 (by omega)
          have HR : Hid (m.freeB c = (j + 1 - c) * 64) := freeB_at hj1 (by rw [HN.out]; exact hlt) hst (by rw [frun_free hj1 hst, HF.out]; exact hfc) HNO.out
          have hcj : c ≤ j + 1 := by
            have := frun_le m j
            rw [frun_free hj1 hst, HF.out] at this
            omega
          clear hst hfc
          go_wp2_with (first
            | (go_at_call 37; refine (st_k U1.sh _ HX).mono ?_; rintro e w6 ⟨rfl, K6⟩; have U2 := U1.step K6; have t6 := U2.bx.cell 0; clear K6)
            | (go_at_call 48; refine (nb_k U.sh).mono ?_; rintro e w5 ⟨rfl, K5⟩; rw [HN.out]; have U1 := U.step K5; have t5 := U1.bx.cell 0; clear K5))
          go_ret
          rw [HR.out]
          exact ⟨by go_num, U2.kp⟩
        · have hb : (((f : Int) + 1) == (c : Int)) = false := beq_eq_false_iff_ne.2 (by omega)
          have HR : Hid (frun m (j + 1) = f + 1) := by show _ = _; rw [frun_free hj1 hst, HF.out]
          have HNF : Hid (noRun m c (j + 1)) := fun i h1 h2 h3 => by
            by_cases hi : i = j
            · subst hi; rw [HR.out]; exact hfc
            · exact HNO.out i h1 (by omega) h3
          clear hst hfc
          go_wp2_with (first
            | (go_at_call 37; refine (st_k U1.sh _ HX).mono ?_; rintro e w6 ⟨rfl, K6⟩; have U2 := U1.step K6; have t6 := U2.bx.cell 0; clear K6)
            | (go_at_call 48; refine (nb_k U.sh).mono ?_; rintro e w5 ⟨rfl, K5⟩; rw [HN.out]; have U1 := U.step K5; have t5 := U1.bx.cell 0; clear K5))
          go_roundw
          case rel => exact ⟨j + 1, by omega, by omega, by go_num, by rw [HR.out]; go_num, HNF.out, U2⟩
          case measure => simp [intOf]; omega
      · obtain ⟨x, hx⟩ : ∃ x : Nat, m.st j = x := ⟨_, rfl⟩
        have HX : Hid ((if inB m.bl.length (j : Int) then (m.st (j : Int).toNat : Int) else -1) = (x : Int)) := by show _ = _; rw [stV_eq, if_pos (by rw [HN.out]; exact hlt), hx]
        have hx0 : ((x : Int) != 0) = true := bne_iff_ne.2 (by omega)
        have HR : Hid (frun m (j + 1) = 0) := frun_used (by omega)
        have HNF : Hid (noRun m c (j + 1)) := fun i h1 h2 h3 => by
          by_cases hi : i = j
          · subst hi; omega
          · exact HNO.out i h1 (by omega) h3
        clear hst hx
        go_wp2_with (first
          | (go_at_call 37; refine (st_k U1.sh _ HX).mono ?_; rintro e w6 ⟨rfl, K6⟩; have U2 := U1.step K6; have t6 := U2.bx.cell 0; clear K6)
          | (go_at_call 48; refine (nb_k U.sh).mono ?_; rintro e w5 ⟨rfl, K5⟩; rw [HN.out]; have U1 := U.step K5; have t5 := U1.bx.cell 0; clear K5))
        go_roundw
        case rel => exact ⟨j + 1, by omega, by omega, by go_num, by rw [HR.out]; rfl, HNF.out, U2⟩
        case measure => simp [intOf]; omega
    · obtain rfl : j = n := by omega
      have HR : Hid (m.freeB c = 0) := freeB_no (by rw [HN.out]; exact HNO.out)
      go_wp2_with (first
          | (go_at_call 48; refine (nb_k U.sh).mono ?_; rintro e w5 ⟨rfl, K5⟩; rw [HN.out]; have U1 := U.step K5; have t5 := U1.bx.cell 0; clear K5))
      go_ret
      rw [HR.out]
      exact ⟨rfl, U1.kp⟩
end
end Go.Proofs.Ytkkmlllajfafcaa
/-
  The contracts of package alloc's take, freeBlock, claimFor. Conditions: those that stand in each theorem.
-/
namespace Go.Proofs.Ytkkmlllajfafcaa
set_option linter.unusedVariables false
set_option linter.unusedSimpArgs false
open Go.RowKit Go.Deep Go.Maps

section
variable {w W V : World} {b : HB} {m : HM} {q g : Nat} {t : TypeId} {cs : Array Value}
set_option maxHeartbeats 400000 in
theorem a_take (x y n : Nat) (w : World) (hx : x ≤ 100000) (hn : n ≤ 100000) :
    Calls Try.prog 104 #[.agg #[.int .i64 (x : Int), .int .i64 (y : Int)], .int .i64 (n : Int)] w fun e w' => e = .returned (.tuple #[.int .i64 (x : Int), .agg #[.int .i64 ((x + n : Nat) : Int), .int .i64 (y : Int)]]) ∧ Kp [] w w' := by
  have B := Blk.new w 29 #[.int .i64 (x : Int), .int .i64 (y : Int)]
  have B1 := B.kp (Kp.new (w.alloc (.cells #[.int .i64 (x : Int), .int .i64 (y : Int)] 29)) (.cells #[.int .i64 0, .int .i64 0] 29)) (by simp)
  have b0 := B1.cell 0
  have b1 := B1.cell 1
  have e : ((x + n : Nat) : Int) = (x : Int) + (n : Int) := by omega
  rw [e]
  have K9 : Kp [] w (((w.alloc (.cells #[.int .i64 (x : Int), .int .i64 (y : Int)] 29)).alloc (.cells #[.int .i64 ((x : Int) + (n : Int)), .int .i64 (y : Int)] 29)).drew) := (((Kp.new _ _).chain (Kp.new _ _)).drewN 1)
  have B9 := Blk.new (w.alloc (.cells #[.int .i64 (x : Int), .int .i64 (y : Int)] 29)) 29 #[.int .i64 ((x : Int) + (n : Int)), .int .i64 (y : Int)]
  rw [World.size_alloc] at B9
  have q0 := B9.cell 0
  have q1 := B9.cell 1
  have HK := hid K9
  have HQ := hid (And.intro q0 q1)
  clear e K9 B9 q0 q1
  go_enter Try.func104, Try.ntmps104
  go_wp2
  go_region
  all_goals (
    go_wp2
    have q0 := HQ.out.1
    have q1 := HQ.out.2
    refine bodyPost_ret (v := .tuple #[.int .i64 (x : Int), .agg #[.int .i64 ((x : Int) + (n : Int)), .int .i64 (y : Int)]]) ?_ rfl ⟨rfl, HK.out⟩
    simp [results, Try.results104, q0, q1, go_sem])
set_option maxHeartbeats 400000 in
theorem a_freeBlock (h : SH w b q m) (s : Nat) :
    Calls Try.prog 103 #[.agg #[.pointer (some ⟨b.g, 0, none⟩), .int .i64 (s : Int)]] w fun e w' => e = .returned (.agg #[.int .i64 (m.freeA.1 : Int), .int .i64 (m.freeA.2 : Int)]) ∧ Kp [] w w' := by
  have hf := freeB_le m 1 h.inv
  have e : (m.freeA.2 : Int) = (m.freeB 1 : Int) + 64 := by simp [HM.freeA]
  have e1 : (m.freeA.1 : Int) = (m.freeB 1 : Int) := rfl
  rw [e, e1]
  clear e e1
  have K0 := (Kp.new w (.cells #[.pointer (some ⟨b.g, 0, none⟩), .int .i64 (s : Int)] 27)).chain (Kp.new _ (.cells #[.int .i64 0, .int .i64 0] 29))
  have B := Blk.new (w.alloc (.cells #[.pointer (some ⟨b.g, 0, none⟩), .int .i64 (s : Int)] 27)) 29 #[.int .i64 0, .int .i64 0]
  rw [World.size_alloc] at B
  have HF := hid (a_free (h.k0 K0) s 1 (by omega) (by omega))
  have HK0 := hid K0
  have HB := hid B
  clear K0 B h
  generalize m.freeB 1 = f at hf HF ⊢
  go_enter Try.func103, Try.ntmps103
  go_wp2_with (go_at_call 34; refine HF.out.mono ?_; rintro e w2 ⟨rfl, K2⟩; have HK2 := hid (HK0.out.chain K2); have B2 := HB.out.kp K2 (by simp); have c0 := B2.cell 0; have c1 := B2.cell 1; have f0 := B2.frozen 0; have f1 := B2.frozen 1; have HB2 := hid B2; clear B2 K2)
  have hB9 := ((HB2.out.set_ 0 (.int .i64 (f : Int))).set_ 1 (.int .i64 ((f : Int) + 64)))
  have hK9 := ((HK2.out.trans (Kp.cell _ ⟨w.heap.size + 1, 0, none⟩ (.int .i64 (f : Int))) (U := []) (by simp) (by simp)).trans (Kp.cell _ ⟨w.heap.size + 1, 1, none⟩ (.int .i64 ((f : Int) + 64))) (U := []) (by simp) (by simp))
  have q0 := hB9.cell 0
  have q1 := hB9.cell 1
  refine bodyPost_ret (v := .agg #[.int .i64 (f : Int), .int .i64 ((f : Int) + 64)]) ?_ rfl ⟨rfl, hK9⟩
  simp [results, Try.results103, q0, q1, go_sem]
end
end Go.Proofs.Ytkkmlllajfafcaa
/-
  The contracts of package alloc's claimFor and isGap. Conditions: those that stand in each theorem.
-/
namespace Go.Proofs.Ytkkmlllajfafcaa
set_option linter.unusedVariables false
set_option linter.unusedSimpArgs false
open Go.RowKit Go.Deep Go.Maps

section
variable {w W V : World} {b : HB} {m : HM} {q g : Nat} {t : TypeId} {cs : Array Value}
theorem bf_k (n : Nat) (w : World) (hn : n ≤ 100000) :
    Calls Try.prog 35 #[.int .i64 (n : Int)] w fun e w' => e = .returned (.int .i64 (((n + 63) / 64 : Nat) : Int)) ∧ Kp [] w w' := by
  refine (a_blocksFor n w hn).mono ?_
  rintro e w' ⟨rfl, k, rfl⟩
  exact ⟨rfl, Kp.draw _ _⟩
set_option maxHeartbeats 400000 in
theorem a_claimFor (h : SH w b q m) (s a n : Nat) (ha : a ≤ 100000) (hn : n ≤ 100000) :
    Calls Try.prog 19 #[.agg #[.pointer (some ⟨b.g, 0, none⟩), .int .i64 (s : Int)], .int .i64 (a : Int), .int .i64 (n : Int)] w fun e w' => e = .returned (.tuple #[]) ∧ SH w' b q (m.forM s a n) ∧ Kp b.all w w' := by
  have U0 := RD.start h 27 #[.pointer (some ⟨b.g, 0, none⟩), .int .i64 (s : Int)]
  have b0 := U0.bx.cell 0
  have b1 := U0.bx.cell 1
  have HU := hid U0
  have HN := hid (HU.out.step (Kp.draw _ 1))
  have HL : Hid (w.heap.size ∉ b.all) := fun hm => Nat.lt_irrefl _ (h.lt _ hm)
  have hd : ((a / 64 : Nat) : Int) = (a : Int) / 64 := by omega
  clear h U0
  by_cases h32 : 32 < n
  · have hm : m.forM s a n = m.claimM ((a / 64 : Nat) : Int) (((n + 63) / 64 : Nat) : Int) (s : Int) 2 := by unfold HM.forM; rw [if_pos h32]
    rw [hm, hd]
    have t : decide ((32 : Int) < (n : Int)) = true := decide_eq_true (by omega)
    clear hm hd
    go_enter Try.func19, Try.ntmps19
    go_wp2
    go_region_held3 (fun W => W.cell? ⟨w.heap.size, 0, none⟩ = some (.pointer (some ⟨b.g, 0, none⟩)) ∧ W.cell? ⟨w.heap.size, 1, none⟩ = some (.int .i64 (s : Int))) (go_keep)
      (first
        | (go_at_call 36; refine (h_ClaimLarge U1.sh _ _ _).mono ?_; rintro e w6 ⟨rfl, S6, K6⟩; have B6 := U1.bx.kp K6 HL.out; have t6 := B6.cell 0; have t7 := B6.cell 1; have HS6 := hid S6; have HK6 := hid (U1.kp.chain0 K6); clear S6 K6 B6)
        | (go_at_call 35; refine (bf_k n _ (by omega)).mono ?_; rintro e w5 ⟨rfl, K5⟩; have U1 := HN.out.step K5; have t4 := U1.bx.cell 0; have t5 := U1.bx.cell 1; clear K5))
    go_wp2
    go_end0
    exact ⟨rfl, HS6.out, HK6.out⟩
  · have t : decide ((32 : Int) < (n : Int)) = false := decide_eq_false (by omega)
    obtain ⟨x, hx⟩ : ∃ x : Int, (if inB m.bl.length ((a / 64 : Nat) : Int) then (m.st (((a / 64 : Nat) : Int)).toNat : Int) else -1) = x := ⟨_, rfl⟩
    have hx0 := hx
    rw [stV_eq] at hx0
    rw [hd] at hx
    have HX := hid hx
    have hz : m.st (a / 64) = 0 ∨ ¬ m.st (a / 64) = 0 := by omega
    by_cases hst : x = 0
    · have hb : (x == 0) = true := beq_iff_eq.2 hst
      have hm : m.forM s a n = m.claimM ((a / 64 : Nat) : Int) 1 (s : Int) 1 := by
        unfold HM.forM
        rw [if_neg h32, if_pos]
        split at hx0
        · omega
        · omega
      rw [hm, hd]
      subst hst
      clear hm hd hx hx0 hz h32 hb
      go_enter Try.func19, Try.ntmps19
      go_wp2_with (first
        | (go_at_call 29; refine (h_Claim U1.sh _ _).mono ?_; rintro e w6 ⟨rfl, S6, K6⟩; have HS6 := hid S6; have HK6 := hid (U1.kp.chain0 K6); clear S6 K6)
        | (go_at_call 37; refine (st_k HU.out.sh _ HX).mono ?_; rintro e w5 ⟨rfl, K5⟩; have U1 := HU.out.step K5; have t4 := U1.bx.cell 0; have t5 := U1.bx.cell 1; clear K5))
      go_end0
      exact ⟨rfl, HS6.out, HK6.out⟩
    · have hb : (x == 0) = false := beq_eq_false_iff_ne.2 hst
      have hm : m.forM s a n = m ∨ (m.bl.length ≤ a / 64 ∧ x = -1) := by
        unfold HM.forM
        rw [if_neg h32]
        split at hx0
        · rw [if_neg (by omega)]; exact .inl rfl
        · exact .inr ⟨by omega, hx0.symm⟩
      have hm2 : m.forM s a n = m := by
        rcases hm with h1 | ⟨h1, h2⟩
        · exact h1
        · unfold HM.forM
          rw [if_neg h32]
          split
          · unfold HM.claimM HM.claimE
            have hck : claimOk m ((a / 64 : Nat) : Int) 1 (s : Int) = false := by
              unfold claimOk
              have : blkB m.bl.length ((a / 64 : Nat) : Int) = false := by unfold blkB; simp; omega
              rw [this]; rfl
            rw [hck]
            rfl
          · rfl
      rw [hm2]
      clear hm hm2 hd hx hx0 hz h32 hst
      go_enter Try.func19, Try.ntmps19
      go_wp2_with (first
        | (go_at_call 37; refine (st_k HU.out.sh _ HX).mono ?_; rintro e w5 ⟨rfl, K5⟩; have U1 := HU.out.step K5; have t4 := U1.bx.cell 0; have t5 := U1.bx.cell 1; clear K5))
      go_end0
      exact ⟨rfl, U1.sh, U1.kp.mono (by simp)⟩
end
end Go.Proofs.Ytkkmlllajfafcaa
/-
  The contract of package alloc's isGap. Conditions: those that stand in each theorem.
-/
namespace Go.Proofs.Ytkkmlllajfafcaa
set_option linter.unusedVariables false
set_option linter.unusedSimpArgs false
open Go.RowKit Go.Deep Go.Maps

theorem runsK {w W : World} {v : Value} {rs : List (Nat × Nat)} (h : RunsAt w v rs) (k : Kp [] w W) : RunsAt W v rs := by
  obtain ⟨A, cap, rfl, hA⟩ := h
  exact ⟨A, cap, rfl, fun i hi => by obtain ⟨g, h1, h2, h3⟩ := hA i hi; exact ⟨g, h1, cell_kp k h2, cell_kp k h3⟩⟩
def inGap (a n : Nat) (g : Nat × Nat) : Bool := decide (g.1 ≤ a ∧ a + n ≤ g.1 + g.2)
section
variable {w W V : World} {b : HB} {m : HM} {q : Nat}
set_option maxHeartbeats 400000 in
theorem a_isGap1 {ga gn : Nat} (a n x y : Nat) (ha : a ≤ 100000) (hn : n ≤ 100000) (hx : x ≤ 100000) (hy : y ≤ 100000) (B1 : Blk w ga 3 #[.int .i64 (a : Int)]) (B2 : Blk w gn 3 #[.int .i64 (n : Int)]) :
    Calls Try.prog 107 #[.agg #[.int .i64 (x : Int), .int .i64 (y : Int)], .pointer (some ⟨ga, 0, none⟩), .pointer (some ⟨gn, 0, none⟩)] w fun e w' => e = .returned (.bool (inGap a n (x, y))) ∧ Kp [] w w' := by
  have K := Kp.new w (.cells #[.int .i64 (x : Int), .int .i64 (y : Int)] 129)
  have B := Blk.new w 129 #[.int .i64 (x : Int), .int .i64 (y : Int)]
  have c0 := B.cell 0
  have c1 := B.cell 1
  have d1 := (B1.kp K (by simp)).cell 0
  have d2 := (B2.kp K (by simp)).cell 0
  have HK := hid K
  clear B1 B2 B K
  by_cases h1 : x ≤ a
  · have e : inGap a n (x, y) = decide ((a : Int) + (n : Int) ≤ (x : Int) + (y : Int)) := by unfold inGap; simp only [decide_eq_decide]; omega
    have t : decide ((x : Int) ≤ (a : Int)) = true := decide_eq_true (by omega)
    rw [e]
    clear e
    go_enter Try.func107, Try.ntmps107
    go_wp2
    go_ret
    exact ⟨rfl, HK.out⟩
  · have e : inGap a n (x, y) = false := by unfold inGap; exact decide_eq_false (by simp only; omega)
    have t : decide ((x : Int) ≤ (a : Int)) = false := decide_eq_false (by omega)
    rw [e]
    clear e
    go_enter Try.func107, Try.ntmps107
    go_wp2
    go_ret
    exact ⟨rfl, HK.out⟩
set_option maxRecDepth 100000 in
set_option maxHeartbeats 1000000 in
theorem a_index {ga gn : Nat} (a n : Nat) (ha : a ≤ 100000) (hn : n ≤ 100000) {v : Value} {rs : List (Nat × Nat)} (hl : rs.length ≤ 1000) (hb : ∀ i, i < rs.length → (rs.getD i (0, 0)).1 ≤ 100000 ∧ (rs.getD i (0, 0)).2 ≤ 100000) (B1 : Blk w ga 3 #[.int .i64 (a : Int)]) (B2 : Blk w gn 3 #[.int .i64 (n : Int)]) (hr : RunsAt w v rs) :
    Calls Try.prog 108 #[v, .func (.func 107) #[] #[.pointer (some ⟨ga, 0, none⟩), .pointer (some ⟨gn, 0, none⟩)]] w fun e w' => (∃ i : Int, e = .returned (.int .i64 i) ∧ decide (0 ≤ i) = rs.any (inGap a n)) ∧ Kp [] w w' := by
  have hr0 := hr
  obtain ⟨A, cap, rfl, _⟩ := hr
  have HR := hid hr0
  have HB1 := hid B1
  have HB2 := hid B2
  have HB := hid hb
  clear hr0 B1 B2 hb
  go_enter Try.func108, Try.ntmps108
  go_wp2
  go_loopw [8] (fun c wr => ∃ j : Nat, j ≤ rs.length ∧ c = .int .i64 (j : Int) ∧ (∀ i, i < j → inGap a n (rs.getD i (0, 0)) = false) ∧ Kp [] w wr) (fun c _ => rs.length - (intOf c).toNat)
  case atStart => exact ⟨0, by omega, rfl, fun i hi => by omega, Kp.refl _ _⟩
  case round =>
    obtain ⟨j, hj, rfl, hno, K⟩ := hrel
    have HNO := hid hno
    have HK := hid K
    have R' := runsK HR.out K
    have b1 := hid (HB1.out.kp K (by simp))
    have b2 := hid (HB2.out.kp K (by simp))
    clear hno K
    by_cases hlt : j < rs.length
    · obtain ⟨A', cap', e1, hA⟩ := R'
      injection e1 with e1 e2 e3
      subst e1
      obtain ⟨g, rfl, g1, g2⟩ := hA j hlt
      obtain ⟨u1, u2⟩ := HB.out j hlt
      obtain ⟨x, y, hxy⟩ : ∃ x y, rs.getD j (0, 0) = (x, y) := ⟨_, _, rfl⟩
      have HXY := hid hxy
      rw [hxy] at g1 g2 u1 u2
      simp only at g1 g2 u1 u2
      clear hA hxy e2 e3
      rcases hg : inGap a n (x, y)
      · have HG := hid hg
        clear hg
        go_wp2_with (go_at_call 107; refine (a_isGap1 a n x y ha hn u1 u2 b1.out b2.out).mono ?_; rintro e w6 ⟨rfl, K6⟩; rw [HG.out]; have HK6 := hid (HK.out.chain K6); clear K6)
        go_roundw
        case rel => exact ⟨j + 1, by omega, by go_num, fun i hi => by
          by_cases hij : i = j
          · subst hij; rw [HXY.out]; exact HG.out
          · exact HNO.out i (by omega), HK6.out⟩
        case measure => simp [intOf]; omega
      · have HG := hid hg
        clear hg
        go_wp2_with (go_at_call 107; refine (a_isGap1 a n x y ha hn u1 u2 b1.out b2.out).mono ?_; rintro e w6 ⟨rfl, K6⟩; rw [HG.out]; have HK6 := hid (HK.out.chain K6); clear K6)
        go_ret
        refine ⟨⟨_, rfl, ?_⟩, HK6.out⟩
        have : rs.any (inGap a n) = true := List.any_eq_true.2 ⟨rs.getD j (0, 0), by rw [List.getD_eq_getElem?_getD, List.getElem?_eq_getElem hlt]; exact List.getElem_mem hlt, by rw [HXY.out]; exact HG.out⟩
        rw [this]
        exact decide_eq_true (by omega)
    · obtain rfl : j = rs.length := by omega
      clear R'
      go_wp2
      go_ret
      refine ⟨⟨_, rfl, ?_⟩, HK.out⟩
      have : rs.any (inGap a n) = false := by
        rw [List.any_eq_false]
        intro g hg
        obtain ⟨i, hi, rfl⟩ := List.mem_iff_getElem.1 hg
        have := HNO.out i hi
        rw [List.getD_eq_getElem?_getD, List.getElem?_eq_getElem hi] at this
        simpa using this
      rw [this]
      rfl
set_option maxHeartbeats 400000 in
theorem a_contains {ga gn : Nat} (a n : Nat) (ha : a ≤ 100000) (hn : n ≤ 100000) {v : Value} {rs : List (Nat × Nat)} (hl : rs.length ≤ 1000) (hb : ∀ i, i < rs.length → (rs.getD i (0, 0)).1 ≤ 100000 ∧ (rs.getD i (0, 0)).2 ≤ 100000) (B1 : Blk w ga 3 #[.int .i64 (a : Int)]) (B2 : Blk w gn 3 #[.int .i64 (n : Int)]) (hr : RunsAt w v rs) :
    Calls Try.prog 106 #[v, .func (.func 107) #[] #[.pointer (some ⟨ga, 0, none⟩), .pointer (some ⟨gn, 0, none⟩)]] w fun e w' => e = .returned (.bool (rs.any (inGap a n))) ∧ Kp [] w w' := by
  have HI := hid (a_index a n ha hn hl hb B1 B2 hr)
  clear B1 B2 hr hb
  go_enter Try.func106, Try.ntmps106
  go_wp2_with (fail)
  refine HI.out.mono ?_
  rintro e w2 ⟨⟨i, rfl, hi⟩, K2⟩
  have HD := hid hi
  clear hi
  go_wp2
  go_ret
  exact ⟨congrArg (fun z => Ending.returned (Value.bool z)) HD.out, K2⟩
set_option maxHeartbeats 1000000 in
theorem a_isGap (h : SH w b q m) (s a n : Nat) (ha : a ≤ 100000) (hn : n ≤ 100000) :
    Calls Try.prog 105 #[.agg #[.pointer (some ⟨b.g, 0, none⟩), .int .i64 (s : Int)], .int .i64 (a : Int), .int .i64 (n : Int)] w fun e w' => e = .returned (.bool (m.isGapB s a n)) ∧ Kp [] w w' := by
  have U0 := RD.start h 27 #[.pointer (some ⟨b.g, 0, none⟩), .int .i64 (s : Int)]
  have K1 := Kp.new (w.alloc (.cells #[.pointer (some ⟨b.g, 0, none⟩), .int .i64 (s : Int)] 27)) (.cells #[.int .i64 (a : Int)] 3)
  have K2 := Kp.new ((w.alloc (.cells #[.pointer (some ⟨b.g, 0, none⟩), .int .i64 (s : Int)] 27)).alloc (.cells #[.int .i64 (a : Int)] 3)) (.cells #[.int .i64 (n : Int)] 3)
  have B1 := (Blk.new (w.alloc (.cells #[.pointer (some ⟨b.g, 0, none⟩), .int .i64 (s : Int)] 27)) 3 #[.int .i64 (a : Int)]).kp K2 (by simp)
  have B2 := Blk.new ((w.alloc (.cells #[.pointer (some ⟨b.g, 0, none⟩), .int .i64 (s : Int)] 27)).alloc (.cells #[.int .i64 (a : Int)] 3)) 3 #[.int .i64 (n : Int)]
  have U := (U0.step K1).step K2
  simp only [World.size_alloc] at B1 B2
  have b0 := U.bx.cell 0
  have b1 := B1.cell 0
  have HU := hid U
  have HB1 := hid B1
  have HB2 := hid B2
  have hd : ((a / 64 : Nat) : Int) = (a : Int) / 64 := by omega
  have HD := hid hd
  clear U0 K1 K2 B1 B2 U hd
  rcases ho : ownS m s (a / 64)
  · have e : m.isGapB s a n = false := by unfold HM.isGapB; rw [ho]; rfl
    rw [e]
    have HO := hid (a_owns HU.out.sh s (a / 64))
    rw [HD.out, ho] at HO
    clear h ho e
    go_enter Try.func105, Try.ntmps105
    go_wp2_with (go_at_call 93; refine HO.out.mono ?_; rintro e w5 ⟨rfl, K5⟩; have HK5 := hid (HU.out.kp.chain K5))
    go_ret
    exact ⟨rfl, HK5.out⟩
  · have e : m.isGapB s a n = (m.gapL ((a / 64 : Nat) : Int)).any (inGap a n) := by unfold HM.isGapB; rw [ho, Bool.true_and]; rfl
    rw [e]
    have hl := gaps_len h.inv (k := a / 64)
    have hb : ∀ i, i < (m.gapL ((a / 64 : Nat) : Int)).length → ((m.gapL ((a / 64 : Nat) : Int)).getD i (0, 0)).1 ≤ 100000 ∧ ((m.gapL ((a / 64 : Nat) : Int)).getD i (0, 0)).2 ≤ 100000 := fun i hi => by
      have := gap_bd h.inv hi
      have := h.inv.len64
      omega
    have HO := hid (a_owns HU.out.sh s (a / 64))
    rw [HD.out, ho] at HO
    generalize hgs : m.gapL ((a / 64 : Nat) : Int) = gs at hl hb ⊢
    rw [HD.out] at hgs
    have HGS := hid hgs
    have HB := hid hb
    clear h ho e hgs hb
    go_enter Try.func105, Try.ntmps105
    go_wp2_with (first
      | (go_at_call 93; refine HO.out.mono ?_; rintro e w5 ⟨rfl, K5⟩; have U5 := HU.out.step K5; have b2 := hid (HB1.out.kp K5 (by simp)); have b3 := hid (HB2.out.kp K5 (by simp)); have t5 := U5.bx.cell 0; clear K5)
      | (go_at_call 92; refine (h_gaps U5.sh _).mono ?_; rintro e w6 ⟨v, rfl, own, bel⟩; have K6 := Kp.of_below bel; rw [HGS.out] at own; have U6 := U5.step K6; have HRU := hid (RunsAt.of_own own); have b4 := hid (b2.out.kp K6 (by simp)); have b5 := hid (b3.out.kp K6 (by simp)); clear own bel K6)
      | (go_at_call 106; refine (a_contains a n ha hn (by omega) HB.out b4.out b5.out HRU.out).mono ?_; rintro e w7 ⟨rfl, K7⟩; have U7 := U6.step K7; clear K7))
    go_ret
    exact ⟨rfl, U7.kp⟩
end
end Go.Proofs.Ytkkmlllajfafcaa
