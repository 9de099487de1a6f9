/-
  The contract of package alloc's bump. Conditions: those that stand in each theorem.
-/
import Derived.Test.YtkkmlllajfafcaaPXB
import Derived.Stop.RegionWithIn
import Derived.Sort.QuietIn
namespace Go.Proofs.Ytkkmlllajfafcaa
set_option linter.unusedVariables false
set_option linter.unusedSimpArgs false
open Go.RowKit Go.Deep Go.Maps

theorem two_set {w W : World} {g : Nat} {t : TypeId} {u v : Value} (B : Blk W g t #[u, v]) (hg : w.heap.size ≤ g) (K : Kp [] w W) (x y : Value) :
    ((W.setCell ⟨g, 0, none⟩ x).setCell ⟨g, 1, none⟩ y).cell? ⟨g, 0, none⟩ = some x ∧ ((W.setCell ⟨g, 0, none⟩ x).setCell ⟨g, 1, none⟩ y).cell? ⟨g, 1, none⟩ = some y ∧ Kp [] w ((W.setCell ⟨g, 0, none⟩ x).setCell ⟨g, 1, none⟩ y) := by
  have B9 := (B.set_ 0 x).set_ 1 y
  exact ⟨B9.cell 0, B9.cell 1, (K.trans (Kp.cell _ ⟨g, 0, none⟩ x) (U := []) (by simp) (by simp; omega)).trans (Kp.cell _ ⟨g, 1, none⟩ y) (U := []) (by simp) (by simp; omega)⟩
section
variable {w W V : World} {b : HB} {m : HM} {q : Nat}
set_option maxHeartbeats 1000000 in
theorem a_bump (h : SH w b q m) (s x y n : Nat) (hx : x ≤ 10000) (hy : y ≤ 10000) (hn : n ≤ 10000) :
    Calls Try.prog 102 #[.agg #[.pointer (some ⟨b.g, 0, none⟩), .int .i64 (s : Int)], .agg #[.int .i64 (x : Int), .int .i64 (y : Int)], .int .i64 (n : Int)] w fun e w' => e = .returned (.tuple #[.int .i64 ((m.bumpA s (x, y) n).1 : Int), .agg #[.int .i64 ((m.bumpA s (x, y) n).2.1 : Int), .int .i64 ((m.bumpA s (x, y) n).2.2 : Int)]]) ∧ Kp [] w w' := by
  have hf := freeB_le m 1 h.inv
  have U0 := RD.start h 27 #[.pointer (some ⟨b.g, 0, none⟩), .int .i64 (s : Int)]
  obtain ⟨w1, hw1⟩ : ∃ w1, w1 = w.alloc (.cells #[.pointer (some ⟨b.g, 0, none⟩), .int .i64 (s : Int)] 27) := ⟨_, rfl⟩
  rw [← hw1] at U0
  have K1 := Kp.new w1 (.cells #[.int .i64 (x : Int), .int .i64 (y : Int)] 29)
  have K2 := Kp.new (w1.alloc (.cells #[.int .i64 (x : Int), .int .i64 (y : Int)] 29)) (.cells #[.int .i64 0, .int .i64 0] 29)
  have B1 := (Blk.new w1 29 #[.int .i64 (x : Int), .int .i64 (y : Int)]).kp K2 (by simp)
  have B2 := Blk.new (w1.alloc (.cells #[.int .i64 (x : Int), .int .i64 (y : Int)] 29)) 29 #[.int .i64 0, .int .i64 0]
  have U := (U0.step K1).step K2
  rw [hw1] at U B1 B2
  simp only [World.size_alloc] at B1 B2
  have b0 := U.bx.cell 0
  have b1 := U.bx.cell 1
  have c0 := B1.cell 0
  have c1 := B1.cell 1
  have HU := hid U
  have HB1 := hid B1
  have HB2 := hid B2
  have HSZ : Hid (w.heap.size ≤ w.heap.size + 1 + 1) := by show _ ≤ _; omega
  have hz : ((0 : Nat) : Int) = 0 := rfl
  clear U0 K1 K2 B1 B2 U hw1 w1
  rcases hfit : fitA (x, y) n
  · have e : m.bumpA s (x, y) n = (m.freeB 1, (m.freeB 1 + n, m.freeB 1 + 64)) := by unfold HM.bumpA; rw [hfit]; rfl
    rw [e]
    have e1 : ((m.freeB 1 + n : Nat) : Int) = (m.freeB 1 : Int) + (n : Int) := by omega
    have e2 : ((m.freeB 1 + 64 : Nat) : Int) = (m.freeB 1 : Int) + 64 := by omega
    simp only [e1, e2]
    have HF := hid hfit
    clear e e1 e2 hfit
    go_enter Try.func102, Try.ntmps102
    go_wp2_with (first
      | (go_at_call 83; refine (a_fits x y n _ (by omega) (by omega)).mono ?_; rintro e w5 ⟨rfl, K5⟩; rw [HF.out]; have U5 := HU.out.step K5; have t5 := U5.bx.cell 0; have t6 := U5.bx.cell 1; have HA5 := hid (HB1.out.kp K5 (by simp)); have z0 := HA5.out.cell 0; have z1 := HA5.out.cell 1; have HB5 := hid (HB2.out.kp K5 (by simp)); clear K5)
      | (go_at_call 103; refine (a_freeBlock U5.sh s).mono ?_; rintro e w6 ⟨rfl, K6⟩; have U6 := U5.step K6; have HB6 := hid (HB5.out.kp K6 (by simp)); clear K6; dsimp only [HM.freeA])
      | (go_at_call 104; refine (a_take (m.freeB 1) (m.freeB 1 + 64) n _ (by omega) (by omega)).mono ?_; rintro e w7 ⟨rfl, K7⟩; have U7 := U6.step K7; have B7 := HB6.out.kp K7 (by simp); have HB7 := hid B7; have q0 := B7.cell 0; have q1 := B7.cell 1; have g0 := B7.frozen 0; have g1 := B7.frozen 1; clear K7 B7))
    obtain ⟨r0, r1, K9⟩ := two_set HB7.out HSZ.out U7.kp (.int .i64 ((m.freeB 1 : Int) + (n : Int))) (.int .i64 ((m.freeB 1 : Int) + 64))
    generalize ((w7.setCell ⟨w.heap.size + 1 + 1, 0, none⟩ (.int .i64 ((m.freeB 1 : Int) + (n : Int)))).setCell ⟨w.heap.size + 1 + 1, 1, none⟩ (.int .i64 ((m.freeB 1 : Int) + 64))) = W9 at r0 r1 K9 ⊢
    refine bodyPost_ret (v := .tuple #[.int .i64 (m.freeB 1 : Int), .agg #[.int .i64 ((m.freeB 1 : Int) + (n : Int)), .int .i64 ((m.freeB 1 : Int) + 64)]]) ?_ rfl ⟨rfl, K9⟩
    simp [results, Try.results102, r0, r1, go_sem]
  · rcases hg : m.isGapB s x n
    · have e : m.bumpA s (x, y) n = (0, (x, y)) := by unfold HM.bumpA; rw [hfit, if_pos rfl]; simp only; rw [hg]; rfl
      rw [e]
      simp only [hz]
      have HF := hid hfit
      have HG := hid hg
      clear e hfit hg
      go_enter Try.func102, Try.ntmps102
      go_wp2_with (first
        | (go_at_call 83; refine (a_fits x y n _ (by omega) (by omega)).mono ?_; rintro e w5 ⟨rfl, K5⟩; rw [HF.out]; have U5 := HU.out.step K5; have t5 := U5.bx.cell 0; have t6 := U5.bx.cell 1; have HA5 := hid (HB1.out.kp K5 (by simp)); have z0 := HA5.out.cell 0; have z1 := HA5.out.cell 1; have HB5 := hid (HB2.out.kp K5 (by simp)); clear K5)
        | (go_at_call 105; refine (a_isGap U5.sh s x n (by omega) (by omega)).mono ?_; rintro e w6 ⟨rfl, K6⟩; rw [HG.out]; have U6 := U5.step K6; have HA6 := hid (HA5.out.kp K6 (by simp)); have z2 := HA6.out.cell 0; have z3 := HA6.out.cell 1; have B6 := HB5.out.kp K6 (by simp); have HB6 := hid B6; have q0 := B6.cell 0; have q1 := B6.cell 1; have g0 := B6.frozen 0; have g1 := B6.frozen 1; clear K6 B6))
      go_region
      all_goals (
        go_wp2
        obtain ⟨r0, r1, K9⟩ := two_set HB6.out HSZ.out U6.kp (.int .i64 (x : Int)) (.int .i64 (y : Int))
        generalize ((w6.setCell ⟨w.heap.size + 1 + 1, 0, none⟩ (.int .i64 (x : Int))).setCell ⟨w.heap.size + 1 + 1, 1, none⟩ (.int .i64 (y : Int))) = W9 at r0 r1 K9 ⊢
        refine bodyPost_ret (v := .tuple #[.int .i64 0, .agg #[.int .i64 (x : Int), .int .i64 (y : Int)]]) ?_ rfl ⟨rfl, (K9.drewN 1)⟩
        simp [results, Try.results102, r0, r1, go_sem])
    · have e : m.bumpA s (x, y) n = (x, (x + n, y)) := by unfold HM.bumpA; rw [hfit, if_pos rfl]; simp only; rw [hg]; rfl
      rw [e]
      have e1 : ((x + n : Nat) : Int) = (x : Int) + (n : Int) := by omega
      simp only [e1]
      have HF := hid hfit
      have HG := hid hg
      clear e e1 hfit hg
      go_enter Try.func102, Try.ntmps102
      go_wp2_with (first
        | (go_at_call 83; refine (a_fits x y n _ (by omega) (by omega)).mono ?_; rintro e w5 ⟨rfl, K5⟩; rw [HF.out]; have U5 := HU.out.step K5; have t5 := U5.bx.cell 0; have t6 := U5.bx.cell 1; have HA5 := hid (HB1.out.kp K5 (by simp)); have z0 := HA5.out.cell 0; have z1 := HA5.out.cell 1; have HB5 := hid (HB2.out.kp K5 (by simp)); clear K5)
        | (go_at_call 105; refine (a_isGap U5.sh s x n (by omega) (by omega)).mono ?_; rintro e w6 ⟨rfl, K6⟩; rw [HG.out]; have U6 := U5.step K6; have HA6 := hid (HA5.out.kp K6 (by simp)); have z2 := HA6.out.cell 0; have z3 := HA6.out.cell 1; have B6 := HB5.out.kp K6 (by simp); have HB6 := hid B6; clear K6 B6)
        | (go_at_call 104; refine (a_take x y n _ (by omega) (by omega)).mono ?_; rintro e w7 ⟨rfl, K7⟩; have U7 := U6.step K7; have B7 := HB6.out.kp K7 (by simp); have HB7 := hid B7; have q0 := B7.cell 0; have q1 := B7.cell 1; have g0 := B7.frozen 0; have g1 := B7.frozen 1; clear K7 B7))
      obtain ⟨r0, r1, K9⟩ := two_set HB7.out HSZ.out U7.kp (.int .i64 ((x : Int) + (n : Int))) (.int .i64 (y : Int))
      generalize ((w7.setCell ⟨w.heap.size + 1 + 1, 0, none⟩ (.int .i64 ((x : Int) + (n : Int)))).setCell ⟨w.heap.size + 1 + 1, 1, none⟩ (.int .i64 (y : Int))) = W9 at r0 r1 K9 ⊢
      refine bodyPost_ret (v := .tuple #[.int .i64 (x : Int), .agg #[.int .i64 ((x : Int) + (n : Int)), .int .i64 (y : Int)]]) ?_ rfl ⟨rfl, K9⟩
      simp [results, Try.results102, r0, r1, go_sem]
end
end Go.Proofs.Ytkkmlllajfafcaa
/-
  What package alloc's blocks owes as an iterator. Conditions: those that stand in each theorem.
-/
namespace Go.Proofs.Ytkkmlllajfafcaa
set_option linter.unusedVariables false
set_option linter.unusedSimpArgs false
open Go.RowKit Go.Deep Go.Maps Go.Shelf
attribute [local go_sem] Oper.semAt_some

theorem Bears.at_ {α : Type} {J : List α → List Nat → World → Prop} (hB : Bears J) {s : List α} {S : List Nat} {W W' : World} (h : J s S W) (k : Kp [] W W') : J s (nwBl W W' ++ S) W' := hB _ _ _ _ h (k.mono (by simp))
section
variable {w W V : World} {b : HB} {m : HM} {q n : Nat}
set_option maxRecDepth 100000 in
set_option maxHeartbeats 4000000 in
theorem blocks_yields (s : Nat) : Yields Fence.wide n Try.prog 91 #[.agg #[.pointer (some ⟨b.g, 0, none⟩), .int .i64 (s : Int)]] #[] (fun k : Nat => #[.int .i64 (k : Int)]) (fun W => SH W b q m) (blkS m s m.bl.length) := by
  intro l J Jx W hB hBx hP hY h0
  have HB := hid hB
  have HP := hid hP
  have HY := hid hY
  have h := hP _ _ _ h0
  have hl64 := h.inv.len64
  have KA := Kp.new W (.cells #[.pointer (some ⟨b.g, 0, none⟩), .int .i64 (s : Int)] 27)
  have HJ1 := hid (hB.at_ h0 KA)
  have HBX := hid (Blk.new W 27 #[.pointer (some ⟨b.g, 0, none⟩), .int .i64 (s : Int)])
  have HS1 := hid (h.k0 KA)
  have b0 := HBX.out.cell 0
  have b1 := HBX.out.cell 1
  have HIN : Hid (W.heap.size ∈ nwBl W (W.alloc (.cells #[.pointer (some ⟨b.g, 0, none⟩), .int .i64 (s : Int)] 27)) ++ []) := by
    show _ ∈ _
    rw [List.append_nil, mem_nwBl]; exact ⟨Nat.le_refl _, by simp⟩
  obtain ⟨N, hN⟩ : ∃ N, N = m.bl.length := ⟨_, rfl⟩
  rw [← hN] at hl64
  have HN := hid hN
  obtain ⟨W0, hW0⟩ : ∃ x, x = W := ⟨_, rfl⟩
  subst hW0
  clear hB hP hY h h0 KA hN
  refine callsIn_of_wp Try.func91 rfl trivial ?_ rfl
  simp only [Try.ntmps91, List.size_toArray, List.length_cons, List.length_nil, Nat.reduceAdd, Nat.reduceSub, Array.replicate_succ, Array.replicate_zero, List.push_toArray, List.append_toArray, List.nil_append, List.cons_append, List.append_nil, Array.append_empty]
  gi_wp2
  refine ⟨trivial, (fun h => by cases h), ?_⟩
  refine (callsIn_wide.2 (nb_k HS1.out)).mono ?_
  rintro e w1 ⟨rfl, K1⟩
  rw [← HN.out]
  have HJ2 := hid (HB.out.at_ HJ1.out K1)
  have HB2 := hid (HBX.out.kp K1 (by simp))
  have HI2 : Hid (W0.heap.size ∈ _) := List.mem_append_right (nwBl (W0.alloc (.cells #[.pointer (some ⟨b.g, 0, none⟩), .int .i64 (s : Int)] 27)) w1) HIN.out
  clear K1
  gi_wp2
  gi_loopw [8] (fun c wr => ∃ (j : Nat) (S : List Nat), j ≤ N ∧ c = .int .i64 (j : Int) ∧ J (blkS m s j) S wr ∧ W0.heap.size ∈ S ∧ Blk wr W0.heap.size 27 #[.pointer (some ⟨b.g, 0, none⟩), .int .i64 (s : Int)]) (fun c _ => N - (intOf c).toNat)
  case atStart => exact ⟨0, _, by omega, rfl, HJ2.out, HI2.out, HB2.out⟩
  case round =>
    clear HJ2 HB2 HI2 b0 b1
    obtain ⟨j, S, hj, rfl, hJ, hin, hbx⟩ := hrel
    have HJ := hid hJ
    have HI := hid hin
    have HX := hid hbx
    have b0 := hbx.cell 0
    have b1 := hbx.cell 1
    have HS := hid (HP.out _ _ _ hJ)
    clear hJ hin hbx
    by_cases hlt : j < N
    · have HO := hid (a_owns HS.out s j)
      rcases ho : ownS m s j
      · have HE : Hid (blkS m s (j + 1) = blkS m s j) := by show _ = _; rw [blkS_succ, ho]; simp
        rw [ho] at HO
        clear ho
        gi_wp2
        refine ⟨trivial, (fun h => by cases h), ?_⟩
        refine (callsIn_wide.2 HO.out).mono ?_
        rintro e w5 ⟨rfl, K5⟩
        have HJ5 := hid (HB.out.at_ HJ.out K5)
        have HX5 := hid (HX.out.kp K5 (by simp))
        clear K5
        gi_wp2
        refine ⟨(fun f hf => by cases hf), ?_⟩
        gi_wp2
        go_roundw
        case rel => exact ⟨j + 1, _, by omega, by go_num, by rw [HE.out]; exact HJ5.out, List.mem_append_right _ HI.out, HX5.out⟩
        case measure => simp [intOf]; omega
      · have HE : Hid (blkS m s (j + 1) = blkS m s j ++ [j]) := by show _ = _; rw [blkS_succ, ho]; simp
        have HPRE : Hid (blkS m s j ++ [j] <+: blkS m s m.bl.length) := by show _ <+: _; rw [← HE.out]; exact blkS_pre m s (by have := HN.out; omega)
        rw [ho] at HO
        clear ho
        gi_wp2
        refine ⟨trivial, (fun h => by cases h), ?_⟩
        refine (callsIn_wide.2 HO.out).mono ?_
        rintro e w5 ⟨rfl, K5⟩
        have HJ5 := hid (HB.out.at_ HJ.out K5)
        have HX5 := hid (HX.out.kp K5 (by simp))
        have HI5 : Hid (W0.heap.size ∈ nwBl wr w5 ++ S) := List.mem_append_right _ HI.out
        obtain ⟨fn, tmps, assign, body, hy, hR⟩ := HY.out _ j _ _ HJ5.out HPRE.out
        have HR := hid hR
        clear K5 hR
        gi_wp2
        refine ⟨(fun h => by cases h), ?_⟩
        refine HR.out.mono ?_
        rintro e W6 ⟨hK, hcase⟩
        have hx6 : Blk W6 W0.heap.size 27 #[.pointer (some ⟨b.g, 0, none⟩), .int .i64 (s : Int)] := (hK.2 _ HI5.out HX5.out.lt).trans HX5.out
        have HX6 := hid hx6
        clear hK hx6
        rcases hcase with ⟨rfl, hJ6⟩ | ⟨rfl, hJ6⟩
        · have HJ6 := hid hJ6
          clear hJ6
          gi_wp2
          go_roundw
          case rel => exact ⟨j + 1, _, by omega, by go_num, by rw [HE.out]; exact HJ6.out, HI5.out, HX6.out⟩
          case measure => simp [intOf]; omega
        · have HJ6 := hid hJ6
          clear hJ6
          gi_wp2
          refine bodyPost_ret (results_none rfl _ _ _) rfl ?_
          exact ⟨⟨_, rfl⟩, _, .inr ⟨_, HPRE.out, HJ6.out⟩⟩
    · obtain ⟨j9, rfl⟩ : ∃ x, x = j := ⟨_, rfl⟩
      have hje : j9 = N := by omega
      subst hje
      have hJ9 := HJ.out
      rw [HN.out] at hJ9
      have HJ9 := hid hJ9
      clear hJ9
      gi_wp2
      go_end0
      exact ⟨⟨_, rfl⟩, _, .inl HJ9.out⟩
end
end Go.Proofs.Ytkkmlllajfafcaa
