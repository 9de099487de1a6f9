/-
  The contract of package heap's Release. Conditions: those that stand in the theorem.
-/
import Derived.Test.YtkhemendnoeciaaGreatHr
namespace Go.Proofs.YtkhemendnoeciaaGreat
set_option linter.unusedVariables false
set_option linter.unusedSimpArgs false
open Go.RowKit Go.Deep Go.Maps

theorem zeroBlock (w : World) : (zeroValue 74).run Tryz.prog w = .ok (.agg #[.int .i64 0, .int .i64 0]) w := by kernel_rfl
theorem run_clear_two (w : World) (ty : TypeId) (b o n c : Nat) (hn : 0 < n) (hc : ∀ j, j < n * 2 → (w.cell? ⟨b, o + j, none⟩).isSome = true) (hf : ∀ j, j < n * 2 → w.frozen? ⟨b, o + j, none⟩ = false) :
    (Builtin.clear_ #[41] ty #[.slice (some ⟨b, o, none⟩) n c]).run Tryz.prog w = .ok (.tuple #[]) (w.setCells b o (List.replicate (n * 2) (.int .i64 0))) := by
  have hzc : (Builtin.zeroCells (Value.agg #[.int .i64 0, .int .i64 0]).cells n).toList = List.replicate (n * 2) (.int .i64 0) := by
    apply List.ext_getElem
    · simp [Builtin.zeroCells, Value.cells]
    · intro i h1 h2
      have hi : i % 2 = 0 ∨ i % 2 = 1 := by omega
      simp only [Builtin.zeroCells, Value.cells, Array.toList_map, List.getElem_map, List.getElem_replicate]
      simp
      rcases hi with h | h <;> simp [h]
  have hst := run_storeCells_cells (P := Tryz.prog) b o (List.replicate (n * 2) (.int .i64 0)) 0 w (by simpa using hc) (by simpa using hf) (by intro v hv'; rw [List.eq_of_mem_replicate hv']; rfl)
  simp only [Nat.add_zero] at hst
  obtain ⟨m, rfl⟩ : ∃ m, n = m + 1 := ⟨n - 1, by omega⟩
  simp only [Builtin.clear_]
  simp [run_underlying Tryz.underlying41, zeroBlock, hzc, hst]
theorem ext_getD {a c : List (Nat × Nat)} (hl : a.length = c.length) (h : ∀ j, a.getD j (0, 0) = c.getD j (0, 0)) : a = c := by
  apply List.ext_getElem hl
  intro j h1 h2
  have := h j
  rw [List.getD_eq_getElem?_getD, List.getD_eq_getElem?_getD, List.getElem?_eq_getElem h1, List.getElem?_eq_getElem h2] at this
  exact this
theorem Blk.clear2 {w : World} {g : Nat} {t : TypeId} {bl : List (Nat × Nat)} {sp : List Value} (k n : Nat) (h : Blk w g t (bcells bl ++ sp).toArray) (hk : k + n ≤ bl.length) :
    Blk (w.setCells g (k * 2) (List.replicate (n * 2) (.int .i64 0))) g t (bcells (rangeL bl k (0, 0) n) ++ sp).toArray := by
  have key : ∀ (n k : Nat) (w : World) (bl : List (Nat × Nat)), Blk w g t (bcells bl ++ sp).toArray → k + n ≤ bl.length →
      ∃ bl', bl'.length = bl.length ∧ (∀ j, bl'.getD j (0, 0) = if k ≤ j ∧ j < k + n then (0, 0) else bl.getD j (0, 0)) ∧ Blk (w.setCells g (k * 2) (List.replicate (n * 2) (.int .i64 0))) g t (bcells bl' ++ sp).toArray := by
    intro n
    induction n with
    | zero => exact fun k w bl h hk => ⟨bl, rfl, fun j => by rw [if_neg (by omega)], h⟩
    | succ n ih =>
      intro k w bl h hk
      have h1 := (h.set_ (k * 2) (.int .i64 0)).set_ (k * 2 + 1) (.int .i64 0)
      have h2 := bcells_set bl sp k 0 0 (by omega)
      have h3 : Blk ((w.setCell ⟨g, k * 2, none⟩ (.int .i64 0)).setCell ⟨g, k * 2 + 1, none⟩ (.int .i64 0)) g t (bcells (bl.set k (0, 0)) ++ sp).toArray := by
        rw [← h2]; exact h1
      obtain ⟨bl', e1, e2, e3⟩ := ih (k + 1) _ _ h3 (by simp; omega)
      refine ⟨bl', by rw [e1]; simp, fun j => ?_, ?_⟩
      · rw [e2, getD_set _ _ _ _ (by omega)]
        by_cases h4 : k + 1 ≤ j ∧ j < k + 1 + n
        · rw [if_pos h4, if_pos (by omega)]
        · rw [if_neg h4]
          by_cases h5 : j = k
          · rw [if_pos h5, if_pos (by omega)]
          · rw [if_neg h5, if_neg (by omega)]
      · have e4 : List.replicate ((n + 1) * 2) (Value.int .i64 0) = .int .i64 0 :: .int .i64 0 :: List.replicate (n * 2) (.int .i64 0) := by
          rw [show (n + 1) * 2 = n * 2 + 1 + 1 by omega]; rfl
        rw [e4]
        have e5 : (k + 1) * 2 = k * 2 + 1 + 1 := by omega
        rw [e5] at e3
        exact e3
  obtain ⟨bl', e1, e2, e3⟩ := key n k w bl h hk
  have : bl' = rangeL bl k (0, 0) n := ext_getD (by rw [e1, rangeL_length]) (fun j => by rw [e2, rangeL_get _ _ _ _ _ hk])
  rw [← this]
  exact e3
def HM.releaseE (m : HM) (i : Int) : Int := if blkB m.bl.length i then (if clmB (m.st i.toNat) then (if (m.objL i).length = 0 then 0 else 8) else 5) else 1
def HM.releaseM (m : HM) (i : Int) : HM := if m.releaseE i = 0 then m.setBl (rangeL m.bl i.toNat (0, 0) (grpEnd m.bl i.toNat - i.toNat)) else m
section
variable {w w' : World} {b : HB} {r : RM} {m : HM} {q : Nat}
theorem objL_none {k : Nat} (hk : k < m.bl.length) (h : (m.objL (k : Int)).length = 0) (I : m.Inv) : ∀ a o, m.ob a = some o → a / 64 ≠ k := by
  intro a o ho he
  have hb : inB m.bl.length (k : Int) = true := decide_eq_true ⟨by omega, by omega⟩
  have e : m.objL (k : Int) = fpL m (k * 32) 32 := by simp [HM.objL, hb]
  have hev := I.even _ _ ho
  have : ((a : Nat) : Int) ∈ fpL m (k * 32) 32 := (fpL_mem _ _ _ _).2 ⟨a / 2 - k * 32, by omega, by congr 1; omega, by rw [show 2 * (k * 32 + (a / 2 - k * 32)) = a by omega, ho]; rfl⟩
  rw [← e, List.eq_nil_of_length_eq_zero h] at this
  cases this
set_option maxHeartbeats 2000000 in
theorem h_release (h : SH w b q m) (i : Int) :
    Calls Tryz.prog 30 #[.pointer (some ⟨b.g, 0, none⟩), .int .i64 i] w fun e w' => e = .returned (.int .i64 (m.releaseE i)) ∧ SH w' b q (m.releaseM i) ∧ Kp b.all w w' := by
  have h0 := h
  have I := h.inv
  obtain ⟨r, R, A, hq1, hq2⟩ := h
  have hbl := A.bl
  rcases hx : blkB m.bl.length i
  · have e0 : m.releaseE i = 1 := by simp [HM.releaseE, hx]
    have e1 : m.releaseM i = m := by simp [HM.releaseM, e0]
    rw [e0, e1]
    rw [← hbl] at hx
    have HX := hid hx
    clear e0 e1 hx hbl A
    go_enter Tryz.func30, Tryz.ntmps30
    go_wp2_with (first | (go_at_call 33; refine (h_made R).mono ?_; rintro e w' ⟨rfl, n1, rfl⟩) | (go_at_call 103; refine (h_canBeUsed (R.drewN _) _).mono ?_; rintro e w' ⟨rfl, n2, rfl⟩; rw [HX.out]))
    go_ret
    exact ⟨rfl, h0.drewN _, (Kp.draw w _).mono (by simp)⟩
  obtain ⟨k, rfl, hk1, hk2⟩ := blkB_nat hx
  have HX : Hid (blkB r.bl.length (k : Int) = true) := by rw [hbl]; exact hx
  have hk2' : k < r.bl.length := by rw [hbl]; exact hk2
  have HC : Hid (∀ n, Calls Tryz.prog 104 #[.pointer (some ⟨b.g, 0, none⟩), .int .i64 (k : Int)] (w.drewN n) fun e w' => e = .returned (.bool (clmB (m.st k))) ∧ ∃ n2, w' = (w.drewN n).drewN n2) := fun n => by
    have := h_isClaimed (R.drewN n) k hk2'
    rw [hbl] at this
    exact this
  rcases hc : clmB (m.st k)
  · have e0 : m.releaseE (k : Int) = 5 := by simp [HM.releaseE, hx, hc]
    have e1 : m.releaseM (k : Int) = m := by simp [HM.releaseM, e0]
    rw [e0, e1]
    rw [hc] at HC
    clear e0 e1 hx hbl A hc
    go_enter Tryz.func30, Tryz.ntmps30
    go_wp2_with (first | (go_at_call 33; refine (h_made R).mono ?_; rintro e w' ⟨rfl, n1, rfl⟩) | (go_at_call 103; refine (h_canBeUsed (R.drewN _) _).mono ?_; rintro e w' ⟨rfl, n2, rfl⟩; rw [HX.out]) | (go_at_call 104; refine (HC.out _).mono ?_; rintro e w' ⟨rfl, n3, rfl⟩))
    go_ret
    exact ⟨rfl, h0.drewN _, (Kp.draw w _).mono (by simp)⟩
  have hcs : m.st k = 1 ∨ m.st k = 2 := of_decide_eq_true hc
  have HCS := hid hcs
  clear hcs
  rw [hc] at HC
  have hol : (m.objL (k : Int)).length ≤ 32 := by
    unfold HM.objL
    split
    · exact fpL_le _ _ _
    · simp
  by_cases hz : (m.objL (k : Int)).length = 0
  · have e0 : m.releaseE (k : Int) = 0 := by simp [HM.releaseE, hx, hc, hz]
    have e1 : m.releaseM (k : Int) = m.setBl (rangeL m.bl k (0, 0) (grpEnd m.bl k - k)) := by unfold HM.releaseM; rw [e0]; rfl
    rw [e0, e1]
    have hno := objL_none hk2 hz I
    have A2 := A.setBl (rangeL_length m.bl k (0, 0) (grpEnd m.bl k - k)) (release_inv I hk1 hk2 HCS.out hno)
    have HA2 := hid A2
    have hge := (grpEnd_iff m.bl k _ hk2).1 rfl
    have HGP : Hid (∀ W, Raw W b r → Calls Tryz.prog 105 #[.pointer (some ⟨b.g, 0, none⟩), .int .i64 (k : Int)] W fun e w' => e = .returned (.slice (some ⟨b.hb, k * 2, none⟩) (grpEnd m.bl k - k) (r.cb - k)) ∧ ∃ n, w' = W.drewN n) := fun W RW => by
      have := h_group RW k hk2'
      rw [hbl] at this
      exact this
    have hgl : k + (grpEnd m.bl k - k) ≤ r.bl.length := by rw [hbl]; omega
    have hgp : 0 < grpEnd m.bl k - k := by omega
    have hg64 : grpEnd m.bl k - k ≤ 64 := by have := R.bl64; omega
    have HZ := hid hz
    have HBL := hid hbl
    clear e0 e1 hx hbl A hc hno A2 hge hz
    generalize hgn : grpEnd m.bl k - k = gn at HGP hgl hgp hg64
    have HGN := hid hgn
    clear hgn
    go_enter Tryz.func30, Tryz.ntmps30
    go_wp2_with (first | (go_at_call 33; refine (h_made R).mono ?_; rintro e w' ⟨rfl, n1, rfl⟩) | (go_at_call 103; refine (h_canBeUsed (R.drewN _) _).mono ?_; rintro e w' ⟨rfl, n2, rfl⟩; rw [HX.out]) | (go_at_call 104; refine (HC.out _).mono ?_; rintro e w' ⟨rfl, n3, rfl⟩))
    refine (h_objects (h0.drewN _) _).mono ?_
    rintro e w3 ⟨v3, rfl, own3, bel3⟩
    obtain ⟨A3, cap3, rfl, hc3a, hc3b, _⟩ := FarI.of_own own3
    rw [HZ.out]
    have K3 : Kp [] w w3 := (Kp.of_below bel3).from_drewN
    have R3 := R.kp0 K3
    have HK3 := hid K3
    have HR3 := hid R3
    clear own3 bel3 K3 hc3a hc3b
    go_wp2_with (fail)
    refine (HGP.out _ R3).mono ?_
    rintro e w' ⟨rfl, n5, rfl⟩
    obtain ⟨W4, hW4⟩ : ∃ W4, W4 = (w3.drewN n5).setCells b.hb (k * 2) (List.replicate (gn * 2) (.int .i64 0)) := ⟨_, rfl⟩
    have hcl : ∀ ty, (Builtin.clear_ #[41] ty #[.slice (some ⟨b.hb, k * 2, none⟩) gn (r.cb - k)]).run Tryz.prog (w3.drewN n5) = .ok (.tuple #[]) W4 := fun ty => by
      rw [hW4]
      refine run_clear_two (w3.drewN n5) ty b.hb (k * 2) gn (r.cb - k) hgp (fun j hj => ?_) (fun j hj => (HR3.out.drewN n5).Bb.frozen _)
      rw [(HR3.out.drewN n5).Bb.cell]
      have hl : k * 2 + j < (bcells r.bl ++ r.spb).toArray.size := by simp [bcells_length]; omega
      rw [Array.getElem?_eq_getElem hl]
      rfl
    have hB4 : Blk W4 b.hb 74 (bcells (rangeL r.bl k (0, 0) gn) ++ r.spb).toArray := by
      rw [hW4]; exact (HR3.out.drewN n5).Bb.clear2 k gn hgl
    have K4 : Kp [b.hb] (w3.drewN n5) W4 := by rw [hW4]; exact Kp.setCells _ _ _ _
    have R4 := (HR3.out.drewN n5).setB hB4 (rangeL_length _ _ _ _) K4
    have HR4 := hid R4
    have HK4 := hid (HK3.out.chain0 K4.from_drewN)
    clear hW4 hB4 K4 R4 R3
    go_wp2
    go_ret
    refine ⟨rfl, ⟨_, HR4.out, ?_, hq1, hq2⟩, HK4.out.all b (by simp [HB.all])⟩
    have := HA2.out
    rw [HGN.out] at this
    rw [HBL.out]
    exact this
  · have e0 : m.releaseE (k : Int) = 8 := by simp [HM.releaseE, hx, hc, hz]
    have e1 : m.releaseM (k : Int) = m := by simp [HM.releaseM, e0]
    rw [e0, e1]
    have hz' : 0 < (m.objL (k : Int)).length := by omega
    generalize hzs : (m.objL (k : Int)).length = zl at hz' hol
    have HZS := hid hzs
    clear e0 e1 hx hbl A hc hz hzs
    go_enter Tryz.func30, Tryz.ntmps30
    go_wp2_with (first | (go_at_call 33; refine (h_made R).mono ?_; rintro e w' ⟨rfl, n1, rfl⟩) | (go_at_call 103; refine (h_canBeUsed (R.drewN _) _).mono ?_; rintro e w' ⟨rfl, n2, rfl⟩; rw [HX.out]) | (go_at_call 104; refine (HC.out _).mono ?_; rintro e w' ⟨rfl, n3, rfl⟩))
    refine (h_objects (h0.drewN _) _).mono ?_
    rintro e w3 ⟨v3, rfl, own3, bel3⟩
    obtain ⟨A3, cap3, rfl, hc3a, hc3b, _⟩ := FarI.of_own own3
    rw [HZS.out]
    have K3 : Kp [] w w3 := (Kp.of_below bel3).from_drewN
    have HK3 := hid K3
    clear own3 bel3 K3 hc3a hc3b
    go_wp2
    go_ret
    exact ⟨rfl, h0.kp0 HK3.out, HK3.out.mono (by simp)⟩
end
end Go.Proofs.YtkhemendnoeciaaGreat
