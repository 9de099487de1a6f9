/-
  The contract of package heap's Release. Conditions: those that stand in the theorem.
-/
import Derived.Test.YtkkmlllajfafcaaPG8
namespace Go.Proofs.Ytkkmlllajfafcaa
set_option linter.unusedVariables false
set_option linter.unusedSimpArgs false
open Go.RowKit Go.Deep Go.Maps

theorem zeroBlock (w : World) : (zeroValue 94).run Try.prog w = .ok (.agg #[.int .i64 0, .int .i64 0]) w := by kernel_rfl
theorem run_clear_two (w : World) (ty : TypeId) (b o n c : Nat) (hn : 0 < n) (hc : ∀ j, j < n * 2 → (w.cell? ⟨b, o + j, none⟩).isSome = true) (hf : ∀ j, j < n * 2 → w.frozen? ⟨b, o + j, none⟩ = false) :
    (Builtin.clear_ #[34] ty #[.slice (some ⟨b, o, none⟩) n c]).run Try.prog w = .ok (.tuple #[]) (w.setCells b o (List.replicate (n * 2) (.int .i64 0))) := by
  have hzc : (Builtin.zeroCells (Value.agg #[.int .i64 0, .int .i64 0]).cells n).toList = List.replicate (n * 2) (.int .i64 0) := by
    apply List.ext_getElem
    · simp [Builtin.zeroCells, Value.cells]
    · intro i h1 h2
      have hi : i % 2 = 0 ∨ i % 2 = 1 := by omega
      simp only [Builtin.zeroCells, Value.cells, Array.toList_map, List.getElem_map, List.getElem_replicate]
      simp
      rcases hi with h | h <;> simp [h]
  have hst := run_storeCells_cells (P := Try.prog) b o (List.replicate (n * 2) (.int .i64 0)) 0 w (by simpa using hc) (by simpa using hf) (by intro v hv'; rw [List.eq_of_mem_replicate hv']; rfl)
  simp only [Nat.add_zero] at hst
  obtain ⟨m, rfl⟩ : ∃ m, n = m + 1 := ⟨n - 1, by omega⟩
  simp only [Builtin.clear_]
  simp [run_underlying Try.underlying34, zeroBlock, hzc, hst]
theorem ext_getD {a c : List (Nat × Nat)} (hl : a.length = c.length) (h : ∀ j, a.getD j (0, 0) = c.getD j (0, 0)) : a = c := by
  apply List.ext_getElem hl
  intro j h1 h2
  have := h j
  rw [List.getD_eq_getElem?_getD, List.getD_eq_getElem?_getD, List.getElem?_eq_getElem h1, List.getElem?_eq_getElem h2] at this
  exact this
theorem Blk.clear2 {w : World} {g : Nat} {t : TypeId} {bl : List (Nat × Nat)} {sp : List Value} (k n : Nat) (h : Blk w g t (bcells bl ++ sp).toArray) (hk : k + n ≤ bl.length) :
    Blk (w.setCells g (k * 2) (List.replicate (n * 2) (.int .i64 0))) g t (bcells (rangeL bl k (0, 0) n) ++ sp).toArray := by
  have key : ∀ (n k : Nat) (w : World) (bl : List (Nat × Nat)), Blk w g t (bcells bl ++ sp).toArray → k + n ≤ bl.length →
      ∃ bl', bl'.length = bl.length ∧ (∀ j, bl'.getD j (0, 0) = if k ≤ j ∧ j < k + n then (0, 0) else bl.getD j (0, 0)) ∧ Blk (w.setCells g (k * 2) (List.replicate (n * 2) (.int .i64 0))) g t (bcells bl' ++ sp).toArray := by
    intro n
    induction n with
    | zero => exact fun k w bl h hk => ⟨bl, rfl, fun j => by rw [if_neg (by omega)], h⟩
    | succ n ih =>
      intro k w bl h hk
      have h1 := (h.set_ (k * 2) (.int .i64 0)).set_ (k * 2 + 1) (.int .i64 0)
      have h2 := bcells_set bl sp k 0 0 (by omega)
      have h3 : Blk ((w.setCell ⟨g, k * 2, none⟩ (.int .i64 0)).setCell ⟨g, k * 2 + 1, none⟩ (.int .i64 0)) g t (bcells (bl.set k (0, 0)) ++ sp).toArray := by
        rw [← h2]; exact h1
      obtain ⟨bl', e1, e2, e3⟩ := ih (k + 1) _ _ h3 (by simp; omega)
      refine ⟨bl', by rw [e1]; simp, fun j => ?_, ?_⟩
      · rw [e2, getD_set _ _ _ _ (by omega)]
        by_cases h4 : k + 1 ≤ j ∧ j < k + 1 + n
        · rw [if_pos h4, if_pos (by omega)]
        · rw [if_neg h4]
          by_cases h5 : j = k
          · rw [if_pos h5, if_pos (by omega)]
          · rw [if_neg h5, if_neg (by omega)]
      · have e4 : List.replicate ((n + 1) * 2) (Value.int .i64 0) = .int .i64 0 :: .int .i64 0 :: List.replicate (n * 2) (.int .i64 0) := by
          rw [show (n + 1) * 2 = n * 2 + 1 + 1 by omega]; rfl
        rw [e4]
        have e5 : (k + 1) * 2 = k * 2 + 1 + 1 := by omega
        rw [e5] at e3
        exact e3
  obtain ⟨bl', e1, e2, e3⟩ := key n k w bl h hk
  have : bl' = rangeL bl k (0, 0) n := ext_getD (by rw [e1, rangeL_length]) (fun j => by rw [e2, rangeL_get _ _ _ _ _ hk])
  rw [← this]
  exact e3
def HM.releaseE (m : HM) (i : Int) : Int := if blkB m.bl.length i then (if clmB (m.st i.toNat) then (if (m.objL i).length = 0 then 0 else 8) else 5) else 1
def HM.releaseM (m : HM) (i : Int) : HM := if m.releaseE i = 0 then m.setBl (rangeL m.bl i.toNat (0, 0) (grpEnd m.bl i.toNat - i.toNat)) else m
section
variable {w w' : World} {b : HB} {r : RM} {m : HM} {q : Nat}
theorem objL_none {k : Nat} (hk : k < m.bl.length) (h : (m.objL (k : Int)).length = 0) (I : m.Inv) : ∀ a o, m.ob a = some o → a / 64 ≠ k := by
  intro a o ho he
  have hb : inB m.bl.length (k : Int) = true := decide_eq_true ⟨by omega, by omega⟩
  have e : m.objL (k : Int) = fpL m (k * 32) 32 := by simp [HM.objL, hb]
  have hev := I.even _ _ ho
  have : ((a : Nat) : Int) ∈ fpL m (k * 32) 32 := (fpL_mem _ _ _ _).2 ⟨a / 2 - k * 32, by omega, by congr 1; omega, by rw [show 2 * (k * 32 + (a / 2 - k * 32)) = a by omega, ho]; rfl⟩
  rw [← e, List.eq_nil_of_length_eq_zero h] at this
  cases this
end
end Go.Proofs.Ytkkmlllajfafcaa
/-
  What a new heap's memory reads as. No condition but those stated.
-/
namespace Go.Proofs.Ytkkmlllajfafcaa
set_option linter.unusedVariables false
set_option linter.unusedSimpArgs false
open Go.RowKit Go.Deep Go.Maps

theorem infoBlock : (Try.prog.info? 94).map (fun i => (i.zero, i.size, i.bytes)) = some (some (.agg #[.int .i64 0, .int .i64 0]), 2, 16) := by kernel_rfl
def HM.new (n : Nat) : HM := { bl := List.replicate n (0, 0), ob := fun _ => none, fw := fun _ => none, fn := 0, born := 0 }
theorem made_b (n : Nat) : madeCells #[.int .i64 0, .int .i64 0] (n * 2) = (bcells (List.replicate n (0, 0)) ++ []).toArray := by
  apply Array.toList_inj.1
  simp only [List.append_nil]
  apply List.ext_getElem
  · simp [madeCells, bcells_length]
  · intro i h1 h2
    have hi : i / 2 < n := by simp [madeCells] at h1; omega
    have a0 := bcells_get0 (bl := List.replicate n (0, 0)) (sp := []) (q := i / 2) (by simpa using hi)
    have a1 := bcells_get1 (bl := List.replicate n (0, 0)) (sp := []) (q := i / 2) (by simpa using hi)
    simp only [List.append_nil, List.getElem?_toArray] at a0 a1
    have e : (List.replicate n ((0, 0) : Nat × Nat)).getD (i / 2) (0, 0) = (0, 0) := by
      rw [List.getD_eq_getElem?_getD, List.getElem?_replicate]; split <;> rfl
    rw [e] at a0 a1
    have l1 : (madeCells #[.int .i64 0, .int .i64 0] (n * 2)).toList[i] = Value.int .i64 0 := by
      simp only [madeCells, Array.toList_map, List.getElem_map]
      simp
      rcases (show i % 2 = 0 ∨ i % 2 = 1 by omega) with h | h <;> simp [h]
    rw [l1]
    have h2' : i < (bcells (List.replicate n (0, 0))).length := h2
    have l2 : (bcells (List.replicate n (0, 0)))[i]? = some (Value.int .i64 0) := by
      rcases (show i = i / 2 * 2 ∨ i = i / 2 * 2 + 1 by omega) with h | h
      · rw [h]; exact a0
      · rw [h]; exact a1
    rw [List.getElem?_eq_getElem h2'] at l2
    injection l2 with l2
    exact l2.symm
theorem made_z (n : Nat) : madeCells #[.int .i64 0] n = (zcells (List.replicate n 0) ++ []).toArray := by
  apply Array.toList_inj.1
  rw [toList_madeCells_one]
  simp [zcells]
theorem map_fresh {w : World} {b : Nat} (h : w.heap[b]? = some (.map #[] 0)) : w.ownsMap Try.prog 3 (plainElem (H := Unit) Try.prog 3) b 0 (.map []) :=
  ⟨#[], 0, h, ⟨by simp, Go.MapKept.stamped_empty 0, by simp⟩, Nat.le_refl _, rfl⟩
theorem getD_zero (n k : Nat) : (List.replicate n (0 : Int)).getD k 0 = 0 := by
  rw [List.getD_eq_getElem?_getD, List.getElem?_replicate]; split <;> rfl
theorem bl_zero (n k : Nat) : (List.replicate n ((0, 0) : Nat × Nat)).getD k (0, 0) = (0, 0) := by
  rw [List.getD_eq_getElem?_getD, List.getElem?_replicate]; split <;> rfl
theorem new_inv (n : Nat) (h1 : 2 ≤ n) (h2 : n ≤ 64) : (HM.new n).Inv :=
  ⟨by simpa [HM.new] using h1, by simpa [HM.new] using h2, by show ((List.replicate n ((0, 0) : Nat × Nat)).getD 0 (0, 0)).1 = 0; rw [bl_zero], fun b _ => by show ((List.replicate n ((0, 0) : Nat × Nat)).getD b (0, 0)).2 = 0; rw [bl_zero],
    fun _ _ h => (by cases h), fun _ _ h => (by cases h), fun _ _ h => (by cases h), fun _ _ h => (by cases h), fun _ _ _ _ h => (by cases h), fun _ _ _ _ h => (by cases h)⟩
theorem new5 (w : World) (a b c d e : Obj) : Kp [] w (((((w.alloc a).alloc b).alloc c).alloc d).alloc e) := ((((Kp.new w a).chain (Kp.new _ b)).chain (Kp.new _ c)).chain (Kp.new _ d)).chain (Kp.new _ e)
section
variable (h : Array Obj) (a b c d e : Obj)
theorem at0 : (((((h.push a).push b).push c).push d).push e)[h.size]? = some a := by
  rw [Array.getElem?_push, if_neg (by simp only [Array.size_push]; omega)]
  rw [Array.getElem?_push, if_neg (by simp only [Array.size_push]; omega)]
  rw [Array.getElem?_push, if_neg (by simp only [Array.size_push]; omega)]
  rw [Array.getElem?_push, if_neg (by simp only [Array.size_push]; omega)]
  rw [Array.getElem?_push, if_pos rfl]
theorem at1 : (((((h.push a).push b).push c).push d).push e)[h.size + 1]? = some b := by
  rw [Array.getElem?_push, if_neg (by simp only [Array.size_push]; omega)]
  rw [Array.getElem?_push, if_neg (by simp only [Array.size_push]; omega)]
  rw [Array.getElem?_push, if_neg (by simp only [Array.size_push]; omega)]
  rw [Array.getElem?_push, if_pos (by simp only [Array.size_push])]
theorem at2 : (((((h.push a).push b).push c).push d).push e)[h.size + 1 + 1]? = some c := by
  rw [Array.getElem?_push, if_neg (by simp only [Array.size_push]; omega)]
  rw [Array.getElem?_push, if_neg (by simp only [Array.size_push]; omega)]
  rw [Array.getElem?_push, if_pos (by simp only [Array.size_push])]
theorem at3 : (((((h.push a).push b).push c).push d).push e)[h.size + 1 + 1 + 1]? = some d := by
  rw [Array.getElem?_push, if_neg (by simp only [Array.size_push]; omega)]
  rw [Array.getElem?_push, if_pos (by simp only [Array.size_push])]
end
theorem SH_new {W : World} {b : HB} (n : Nat) (h1 : 2 ≤ n) (h2 : n ≤ 64)
    (G : Blk W b.g 39 #[.slice (some ⟨b.hb, 0, none⟩) n n, .slice (some ⟨b.hw, 0, none⟩) (n * 64) (n * 64), .pointer (some ⟨b.pg, 0, none⟩), .pointer (some ⟨b.ng, 0, none⟩), .map (some b.mp), .map (some b.mf), .int .i64 0])
    (TP : STab W b.pg b.ph 2 (List.replicate (n * 32) 0)) (TN : STab W b.ng b.nh 1 (List.replicate (n * 32) 0))
    (Bb : Blk W b.hb 94 (madeCells #[.int .i64 0, .int .i64 0] (n * 2))) (Bw : Blk W b.hw 3 (madeCells #[.int .i64 0] (n * 64)))
    (MP : W.heap[b.mp]? = some (.map #[] 0)) (MF : W.heap[b.mf]? = some (.map #[] 0)) (d1 : b.pg ≠ b.ng) (d2 : b.ph ≠ b.nh) (d3 : b.mp ≠ b.mf) : SH W b 0 (HM.new n) := by
  refine ⟨⟨List.replicate n (0, 0), n, [], List.replicate (n * 64) 0, n * 64, [], List.replicate (n * 32) 0, List.replicate (n * 32) 0, 0, .map [], .map [], 0⟩, ?_, ?_, Nat.le_refl _, Nat.le_refl _⟩
  · rw [made_b] at Bb
    rw [made_z] at Bw
    refine ⟨by simp, by show n ≤ maxLen; unfold maxLen; omega, by simp [bcells_length]; omega, by simp, by show n * 64 ≤ maxLen; unfold maxLen; omega, by simp [zcells_length], by simpa using h1, by simpa using h2, by simp; omega, by simp; omega, by simp; omega, ?_, Bb, Bw, TP, TN, map_fresh MP, map_fresh MF, d1, d2, d3⟩
    simpa using G
  · have hcv : ∀ k, ¬ (HM.new n).cv k := by
      rintro k ⟨a, o, h, _⟩
      cases h
    have I := new_inv n h1 h2
    refine ⟨I, rfl, rfl, ⟨fun _ _ h => (by cases h), fun k _ => getD_zero _ _, fun _ _ h => (by cases h), fun _ _ h => (by cases h), fun j _ => ent_replicate _ _, fun _ _ h => (by cases h), fun j _ => ent_replicate _ _⟩, ?_, ?_, rfl⟩
    · intro i _ _
      have : (HM.new n).atI i = none := by
        unfold HM.atI
        rw [(at_none I i).2 (fun a o h => (by cases h))]
        rfl
      rw [this]
      exact ⟨rfl, fun v hv => nomatch hv⟩
    · intro i _ _
      have : (HM.new n).fwI i = none := by unfold HM.fwI; split <;> rfl
      rw [this]
      exact ⟨rfl, fun v hv => nomatch hv⟩
theorem SH.drew {w : World} {b : HB} {q : Nat} {m : HM} (h : SH w b q m) : SH w.drew b q m := h.kp0 (Kp.draw w 1)
theorem new_close {w w1 w2 : World} (n : Nat) (h1 : 2 ≤ n) (h2 : n ≤ 64) (T1 : STab w1 (w.heap.size + 1) w.heap.size 2 (List.replicate (n * 32) 0)) (K1 : Kp [] w w1) (T2 : STab w2 (w1.heap.size + 1) w1.heap.size 1 (List.replicate (n * 32) 0)) (K2 : Kp [] w1 w2)
    (oa ob oc od : Obj) (hb hw mp mf : Nat)
    (pb : (((((w2.heap.push oa).push ob).push oc).push od).push (.cells #[.slice (some ⟨hb, 0, none⟩) n n, .slice (some ⟨hw, 0, none⟩) (n * 64) (n * 64), .pointer (some ⟨w.heap.size + 1, 0, none⟩), .pointer (some ⟨w1.heap.size + 1, 0, none⟩), .map (some mp), .map (some mf), .int .i64 0] 39))[hb]? = some (.cells (madeCells #[.int .i64 0, .int .i64 0] (n * 2)) 94))
    (pw : (((((w2.heap.push oa).push ob).push oc).push od).push (.cells #[.slice (some ⟨hb, 0, none⟩) n n, .slice (some ⟨hw, 0, none⟩) (n * 64) (n * 64), .pointer (some ⟨w.heap.size + 1, 0, none⟩), .pointer (some ⟨w1.heap.size + 1, 0, none⟩), .map (some mp), .map (some mf), .int .i64 0] 39))[hw]? = some (.cells (madeCells #[.int .i64 0] (n * 64)) 3))
    (pm : (((((w2.heap.push oa).push ob).push oc).push od).push (.cells #[.slice (some ⟨hb, 0, none⟩) n n, .slice (some ⟨hw, 0, none⟩) (n * 64) (n * 64), .pointer (some ⟨w.heap.size + 1, 0, none⟩), .pointer (some ⟨w1.heap.size + 1, 0, none⟩), .map (some mp), .map (some mf), .int .i64 0] 39))[mp]? = some (.map #[] 0))
    (pf : (((((w2.heap.push oa).push ob).push oc).push od).push (.cells #[.slice (some ⟨hb, 0, none⟩) n n, .slice (some ⟨hw, 0, none⟩) (n * 64) (n * 64), .pointer (some ⟨w.heap.size + 1, 0, none⟩), .pointer (some ⟨w1.heap.size + 1, 0, none⟩), .map (some mp), .map (some mf), .int .i64 0] 39))[mf]? = some (.map #[] 0))
    (hne : mp ≠ mf) (lb : w2.heap.size ≤ hb) (lw : w2.heap.size ≤ hw) (lp : w2.heap.size ≤ mp) (lf : w2.heap.size ≤ mf) :
    ∃ b : HB, Ending.returned (.tuple #[.pointer (some ⟨w2.heap.size + 1 + 1 + 1 + 1, 0, none⟩), .int .i64 0]) = .returned (.tuple #[.pointer (some ⟨b.g, 0, none⟩), .int .i64 0]) ∧
      SH (((((w2.alloc oa).alloc ob).alloc oc).alloc od).alloc (.cells #[.slice (some ⟨hb, 0, none⟩) n n, .slice (some ⟨hw, 0, none⟩) (n * 64) (n * 64), .pointer (some ⟨w.heap.size + 1, 0, none⟩), .pointer (some ⟨w1.heap.size + 1, 0, none⟩), .map (some mp), .map (some mf), .int .i64 0] 39)).drew b 0 (HM.new n) ∧
      Kp [] w (((((w2.alloc oa).alloc ob).alloc oc).alloc od).alloc (.cells #[.slice (some ⟨hb, 0, none⟩) n n, .slice (some ⟨hw, 0, none⟩) (n * 64) (n * 64), .pointer (some ⟨w.heap.size + 1, 0, none⟩), .pointer (some ⟨w1.heap.size + 1, 0, none⟩), .map (some mp), .map (some mf), .int .i64 0] 39)).drew ∧
      ∀ x ∈ b.all, w.heap.size ≤ x := by
  have hs1 : w.heap.size + 1 < w1.heap.size := T1.g_lt
  have hs2 : w1.heap.size + 1 < w2.heap.size := T2.g_lt
  refine ⟨⟨w2.heap.size + 1 + 1 + 1 + 1, hb, hw, w.heap.size + 1, w.heap.size, w1.heap.size + 1, w1.heap.size, mp, mf⟩, rfl, SH.drew (SH_new n h1 h2 (Blk.at_end (by simp)) (T1.kp (K2.chain (new5 _ _ _ _ _ _)) (by simp) (by simp)) (T2.kp (new5 _ _ _ _ _ _) (by simp) (by simp)) pb pw pm pf ?_ ?_ hne), ((K1.chain K2).chain (new5 _ _ _ _ _ _)).drewN 1, ?_⟩
  · show w.heap.size + 1 ≠ w1.heap.size + 1
    omega
  · show w.heap.size ≠ w1.heap.size
    omega
  · intro x hx
    simp only [HB.all, List.mem_cons, List.not_mem_nil, or_false] at hx
    omega
end Go.Proofs.Ytkkmlllajfafcaa
/-
  The contract of package heap's New. Conditions: those that stand in each theorem.
-/
namespace Go.Proofs.Ytkkmlllajfafcaa
set_option linter.unusedVariables false
set_option linter.unusedSimpArgs false
open Go.RowKit Go.Deep Go.Maps

section
variable {w w' : World} {b : HB} {r : RM} {m : HM} {q : Nat}
theorem h_new_bad (n : Int) (w : World) (hn : ¬ (2 ≤ n ∧ n ≤ 64)) :
    Calls Try.prog 5 #[.int .i64 n] w fun e w' => e = .returned (.tuple #[.pointer none, .int .i64 1]) ∧ ∃ m, w' = w.drewN m := by
  by_cases h1 : n < 2
  · clear hn
    go_enter Try.func5, Try.ntmps5
    go_wp2
    go_ret2
    exact ⟨rfl, 0, rfl⟩
  · have h2 : 64 < n := by omega
    clear hn
    go_enter Try.func5, Try.ntmps5
    go_wp2
    go_ret2
    exact ⟨rfl, 0, rfl⟩
set_option maxHeartbeats 8000000 in
set_option maxRecDepth 100000 in
theorem h_new_ok (n : Nat) (w : World) (h1 : 2 ≤ n) (h2 : n ≤ 64) :
    Calls Try.prog 5 #[.int .i64 (n : Int)] w fun e w' => ∃ b : HB, e = .returned (.tuple #[.pointer (some ⟨b.g, 0, none⟩), .int .i64 0]) ∧ SH w' b 0 (HM.new n) ∧ Kp [] w w' ∧ ∀ x ∈ b.all, w.heap.size ≤ x := by
  obtain ⟨i0, hi0, hz0, hz1, hz2⟩ := info_parts infoBlock
  have hmk1 : ∀ W : World, (Instr.makeSlice 34 (.int .i64 (n : Int)) (.int .i64 (n : Int))).run Try.prog W = .ok (.slice (some ⟨W.heap.size, 0, none⟩) n n) (W.alloc (.cells (madeCells #[.int .i64 0, .int .i64 0] (n * 2)) 94)) := fun W => by
    have := run_make_rowN (P := Try.prog) 34 94 i0 _ Try.underlying34 hi0 hz0 .i64 .i64 n n (Nat.le_refl _) (by rw [hz2]; omega) (by omega) W
    rw [hz1] at this
    exact this
  have hmk2 : ∀ W : World, (Instr.makeSlice 35 (.int .i64 ((n : Int) * 64)) (.int .i64 ((n : Int) * 64))).run Try.prog W = .ok (.slice (some ⟨W.heap.size, 0, none⟩) (n * 64) (n * 64)) (W.alloc (.cells (madeCells #[.int .i64 0] (n * 64)) 3)) := fun W => by
    rw [show ((n : Int) * 64) = ((n * 64 : Nat) : Int) by omega]
    exact run_make_row' (P := Try.prog) 35 3 (.int .i64 0) 8 Try.underlying35 infoInt rfl .i64 .i64 (n * 64) (by omega) (by omega) W
  have hmm := @run_makeMap Try.prog
  have HN1 := hid (fun W : World => new_ok (n * 32) 2 W (by omega) (by omega) (by unfold Wd; omega))
  have HN2 := hid (fun W : World => new_ok (n * 32) 1 W (by omega) (by omega) (by unfold Wd; omega))
  have HE := hid (show ((n : Int) * 32) = ((n * 32 : Nat) : Int) by omega)
  clear hi0 hz0 hz1 hz2
  go_enter Try.func5, Try.ntmps5
  go_wp2_with (fail)
  rw [HE.out]
  refine (HN1.out _).mono ?_
  rintro e w1 ⟨rfl, T1, K1⟩
  have HT1 := hid T1
  have HK1 := hid K1
  clear T1 K1
  go_wp2_with (fail)
  rw [HE.out]
  refine (HN2.out _).mono ?_
  rintro e w2 ⟨rfl, T2, K2⟩
  have HT2 := hid T2
  have HK2 := hid K2
  clear T2 K2
  have hs1 : w.heap.size + 1 < w1.heap.size := HT1.out.g_lt
  have hs2 : w1.heap.size + 1 < w2.heap.size := HT2.out.g_lt
  go_wp2
  go_region
  all_goals (
    go_wp2
    go_ret2
    refine new_close n h1 h2 HT1.out HK1.out HT2.out HK2.out _ _ _ _ _ _ _ _ ?_ ?_ ?_ ?_ ?_ ?_ ?_ ?_ ?_
    · first | exact at0 w2.heap _ _ _ _ _ | exact at1 w2.heap _ _ _ _ _ | exact at2 w2.heap _ _ _ _ _ | exact at3 w2.heap _ _ _ _ _
    · first | exact at0 w2.heap _ _ _ _ _ | exact at1 w2.heap _ _ _ _ _ | exact at2 w2.heap _ _ _ _ _ | exact at3 w2.heap _ _ _ _ _
    · first | exact at0 w2.heap _ _ _ _ _ | exact at1 w2.heap _ _ _ _ _ | exact at2 w2.heap _ _ _ _ _ | exact at3 w2.heap _ _ _ _ _
    · first | exact at0 w2.heap _ _ _ _ _ | exact at1 w2.heap _ _ _ _ _ | exact at2 w2.heap _ _ _ _ _ | exact at3 w2.heap _ _ _ _ _
    all_goals omega)
end
end Go.Proofs.Ytkkmlllajfafcaa
