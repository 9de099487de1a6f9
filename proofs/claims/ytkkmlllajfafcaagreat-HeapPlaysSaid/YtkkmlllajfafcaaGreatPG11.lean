/-
  What a new heap's memory reads as. No condition but those stated.
-/
import Derived.Test.YtkkmlllajfafcaaGreatPG9
namespace Go.Proofs.YtkkmlllajfafcaaGreat
set_option linter.unusedVariables false
set_option linter.unusedSimpArgs false
open Go.RowKit Go.Deep Go.Maps

theorem infoBlock : (Tryz.prog.info? 104).map (fun i => (i.zero, i.size, i.bytes)) = some (some (.agg #[.int .i64 0, .int .i64 0]), 2, 16) := by kernel_rfl
def HM.new (n : Nat) : HM := { bl := List.replicate n (0, 0), ob := fun _ => none, fw := fun _ => none, fn := 0, born := 0 }
theorem made_b (n : Nat) : madeCells #[.int .i64 0, .int .i64 0] (n * 2) = (bcells (List.replicate n (0, 0)) ++ []).toArray := by
  apply Array.toList_inj.1
  simp only [List.append_nil]
  apply List.ext_getElem
  · simp [madeCells, bcells_length]
  · intro i h1 h2
    have hi : i / 2 < n := by simp [madeCells] at h1; omega
    have a0 := bcells_get0 (bl := List.replicate n (0, 0)) (sp := []) (q := i / 2) (by simpa using hi)
    have a1 := bcells_get1 (bl := List.replicate n (0, 0)) (sp := []) (q := i / 2) (by simpa using hi)
    simp only [List.append_nil, List.getElem?_toArray] at a0 a1
    have e : (List.replicate n ((0, 0) : Nat × Nat)).getD (i / 2) (0, 0) = (0, 0) := by
      rw [List.getD_eq_getElem?_getD, List.getElem?_replicate]; split <;> rfl
    rw [e] at a0 a1
    have l1 : (madeCells #[.int .i64 0, .int .i64 0] (n * 2)).toList[i] = Value.int .i64 0 := by
      simp only [madeCells, Array.toList_map, List.getElem_map]
      simp
      rcases (show i % 2 = 0 ∨ i % 2 = 1 by omega) with h | h <;> simp [h]
    rw [l1]
    have h2' : i < (bcells (List.replicate n (0, 0))).length := h2
    have l2 : (bcells (List.replicate n (0, 0)))[i]? = some (Value.int .i64 0) := by
      rcases (show i = i / 2 * 2 ∨ i = i / 2 * 2 + 1 by omega) with h | h
      · rw [h]; exact a0
      · rw [h]; exact a1
    rw [List.getElem?_eq_getElem h2'] at l2
    injection l2 with l2
    exact l2.symm
theorem made_z (n : Nat) : madeCells #[.int .i64 0] n = (zcells (List.replicate n 0) ++ []).toArray := by
  apply Array.toList_inj.1
  rw [toList_madeCells_one]
  simp [zcells]
theorem map_fresh {w : World} {b : Nat} (h : w.heap[b]? = some (.map #[] 0)) : w.ownsMap Tryz.prog 3 (plainElem (H := Unit) Tryz.prog 3) b 0 (.map []) :=
  ⟨#[], 0, h, ⟨by simp, Go.MapKept.stamped_empty 0, by simp⟩, Nat.le_refl _, rfl⟩
theorem getD_zero (n k : Nat) : (List.replicate n (0 : Int)).getD k 0 = 0 := by
  rw [List.getD_eq_getElem?_getD, List.getElem?_replicate]; split <;> rfl
theorem bl_zero (n k : Nat) : (List.replicate n ((0, 0) : Nat × Nat)).getD k (0, 0) = (0, 0) := by
  rw [List.getD_eq_getElem?_getD, List.getElem?_replicate]; split <;> rfl
theorem new_inv (n : Nat) (h1 : 2 ≤ n) (h2 : n ≤ 64) : (HM.new n).Inv :=
  ⟨by simpa [HM.new] using h1, by simpa [HM.new] using h2, by show ((List.replicate n ((0, 0) : Nat × Nat)).getD 0 (0, 0)).1 = 0; rw [bl_zero], fun b _ => by show ((List.replicate n ((0, 0) : Nat × Nat)).getD b (0, 0)).2 = 0; rw [bl_zero],
    fun _ _ h => (by cases h), fun _ _ h => (by cases h), fun _ _ h => (by cases h), fun _ _ h => (by cases h), fun _ _ _ _ h => (by cases h), fun _ _ _ _ h => (by cases h)⟩
theorem new5 (w : World) (a b c d e : Obj) : Kp [] w (((((w.alloc a).alloc b).alloc c).alloc d).alloc e) := ((((Kp.new w a).chain (Kp.new _ b)).chain (Kp.new _ c)).chain (Kp.new _ d)).chain (Kp.new _ e)
section
variable (h : Array Obj) (a b c d e : Obj)
theorem at0 : (((((h.push a).push b).push c).push d).push e)[h.size]? = some a := by
  rw [Array.getElem?_push, if_neg (by simp only [Array.size_push]; omega)]
  rw [Array.getElem?_push, if_neg (by simp only [Array.size_push]; omega)]
  rw [Array.getElem?_push, if_neg (by simp only [Array.size_push]; omega)]
  rw [Array.getElem?_push, if_neg (by simp only [Array.size_push]; omega)]
  rw [Array.getElem?_push, if_pos rfl]
theorem at1 : (((((h.push a).push b).push c).push d).push e)[h.size + 1]? = some b := by
  rw [Array.getElem?_push, if_neg (by simp only [Array.size_push]; omega)]
  rw [Array.getElem?_push, if_neg (by simp only [Array.size_push]; omega)]
  rw [Array.getElem?_push, if_neg (by simp only [Array.size_push]; omega)]
  rw [Array.getElem?_push, if_pos (by simp only [Array.size_push])]
theorem at2 : (((((h.push a).push b).push c).push d).push e)[h.size + 1 + 1]? = some c := by
  rw [Array.getElem?_push, if_neg (by simp only [Array.size_push]; omega)]
  rw [Array.getElem?_push, if_neg (by simp only [Array.size_push]; omega)]
  rw [Array.getElem?_push, if_pos (by simp only [Array.size_push])]
theorem at3 : (((((h.push a).push b).push c).push d).push e)[h.size + 1 + 1 + 1]? = some d := by
  rw [Array.getElem?_push, if_neg (by simp only [Array.size_push]; omega)]
  rw [Array.getElem?_push, if_pos (by simp only [Array.size_push])]
end
theorem SH_new {W : World} {b : HB} (n : Nat) (h1 : 2 ≤ n) (h2 : n ≤ 64)
    (G : Blk W b.g 96 #[.slice (some ⟨b.hb, 0, none⟩) n n, .slice (some ⟨b.hw, 0, none⟩) (n * 64) (n * 64), .pointer (some ⟨b.pg, 0, none⟩), .pointer (some ⟨b.ng, 0, none⟩), .map (some b.mp), .map (some b.mf), .int .i64 0])
    (TP : STab W b.pg b.ph 2 (List.replicate (n * 32) 0)) (TN : STab W b.ng b.nh 1 (List.replicate (n * 32) 0))
    (Bb : Blk W b.hb 104 (madeCells #[.int .i64 0, .int .i64 0] (n * 2))) (Bw : Blk W b.hw 3 (madeCells #[.int .i64 0] (n * 64)))
    (MP : W.heap[b.mp]? = some (.map #[] 0)) (MF : W.heap[b.mf]? = some (.map #[] 0)) (d1 : b.pg ≠ b.ng) (d2 : b.ph ≠ b.nh) (d3 : b.mp ≠ b.mf) : SH W b 0 (HM.new n) := by
  refine ⟨⟨List.replicate n (0, 0), n, [], List.replicate (n * 64) 0, n * 64, [], List.replicate (n * 32) 0, List.replicate (n * 32) 0, 0, .map [], .map [], 0⟩, ?_, ?_, Nat.le_refl _, Nat.le_refl _⟩
  · rw [made_b] at Bb
    rw [made_z] at Bw
    refine ⟨by simp, by show n ≤ maxLen; unfold maxLen; omega, by simp [bcells_length]; omega, by simp, by show n * 64 ≤ maxLen; unfold maxLen; omega, by simp [zcells_length], by simpa using h1, by simpa using h2, by simp; omega, by simp; omega, by simp; omega, ?_, Bb, Bw, TP, TN, map_fresh MP, map_fresh MF, d1, d2, d3⟩
    simpa using G
  · have hcv : ∀ k, ¬ (HM.new n).cv k := by
      rintro k ⟨a, o, h, _⟩
      cases h
    have I := new_inv n h1 h2
    refine ⟨I, rfl, rfl, ⟨fun _ _ h => (by cases h), fun k _ => getD_zero _ _, fun _ _ h => (by cases h), fun _ _ h => (by cases h), fun j _ => ent_replicate _ _, fun _ _ h => (by cases h), fun j _ => ent_replicate _ _⟩, ?_, ?_, rfl⟩
    · intro i _ _
      have : (HM.new n).atI i = none := by
        unfold HM.atI
        rw [(at_none I i).2 (fun a o h => (by cases h))]
        rfl
      rw [this]
      exact ⟨rfl, fun v hv => nomatch hv⟩
    · intro i _ _
      have : (HM.new n).fwI i = none := by unfold HM.fwI; split <;> rfl
      rw [this]
      exact ⟨rfl, fun v hv => nomatch hv⟩
theorem SH.drew {w : World} {b : HB} {q : Nat} {m : HM} (h : SH w b q m) : SH w.drew b q m := h.kp0 (Kp.draw w 1)
theorem new_close {w w1 w2 : World} (n : Nat) (h1 : 2 ≤ n) (h2 : n ≤ 64) (T1 : STab w1 (w.heap.size + 1) w.heap.size 2 (List.replicate (n * 32) 0)) (K1 : Kp [] w w1) (T2 : STab w2 (w1.heap.size + 1) w1.heap.size 1 (List.replicate (n * 32) 0)) (K2 : Kp [] w1 w2)
    (oa ob oc od : Obj) (hb hw mp mf : Nat)
    (pb : (((((w2.heap.push oa).push ob).push oc).push od).push (.cells #[.slice (some ⟨hb, 0, none⟩) n n, .slice (some ⟨hw, 0, none⟩) (n * 64) (n * 64), .pointer (some ⟨w.heap.size + 1, 0, none⟩), .pointer (some ⟨w1.heap.size + 1, 0, none⟩), .map (some mp), .map (some mf), .int .i64 0] 96))[hb]? = some (.cells (madeCells #[.int .i64 0, .int .i64 0] (n * 2)) 104))
    (pw : (((((w2.heap.push oa).push ob).push oc).push od).push (.cells #[.slice (some ⟨hb, 0, none⟩) n n, .slice (some ⟨hw, 0, none⟩) (n * 64) (n * 64), .pointer (some ⟨w.heap.size + 1, 0, none⟩), .pointer (some ⟨w1.heap.size + 1, 0, none⟩), .map (some mp), .map (some mf), .int .i64 0] 96))[hw]? = some (.cells (madeCells #[.int .i64 0] (n * 64)) 3))
    (pm : (((((w2.heap.push oa).push ob).push oc).push od).push (.cells #[.slice (some ⟨hb, 0, none⟩) n n, .slice (some ⟨hw, 0, none⟩) (n * 64) (n * 64), .pointer (some ⟨w.heap.size + 1, 0, none⟩), .pointer (some ⟨w1.heap.size + 1, 0, none⟩), .map (some mp), .map (some mf), .int .i64 0] 96))[mp]? = some (.map #[] 0))
    (pf : (((((w2.heap.push oa).push ob).push oc).push od).push (.cells #[.slice (some ⟨hb, 0, none⟩) n n, .slice (some ⟨hw, 0, none⟩) (n * 64) (n * 64), .pointer (some ⟨w.heap.size + 1, 0, none⟩), .pointer (some ⟨w1.heap.size + 1, 0, none⟩), .map (some mp), .map (some mf), .int .i64 0] 96))[mf]? = some (.map #[] 0))
    (hne : mp ≠ mf) (lb : w2.heap.size ≤ hb) (lw : w2.heap.size ≤ hw) (lp : w2.heap.size ≤ mp) (lf : w2.heap.size ≤ mf) :
    ∃ b : HB, Ending.returned (.tuple #[.pointer (some ⟨w2.heap.size + 1 + 1 + 1 + 1, 0, none⟩), .int .i64 0]) = .returned (.tuple #[.pointer (some ⟨b.g, 0, none⟩), .int .i64 0]) ∧
      SH (((((w2.alloc oa).alloc ob).alloc oc).alloc od).alloc (.cells #[.slice (some ⟨hb, 0, none⟩) n n, .slice (some ⟨hw, 0, none⟩) (n * 64) (n * 64), .pointer (some ⟨w.heap.size + 1, 0, none⟩), .pointer (some ⟨w1.heap.size + 1, 0, none⟩), .map (some mp), .map (some mf), .int .i64 0] 96)).drew b 0 (HM.new n) ∧
      Kp [] w (((((w2.alloc oa).alloc ob).alloc oc).alloc od).alloc (.cells #[.slice (some ⟨hb, 0, none⟩) n n, .slice (some ⟨hw, 0, none⟩) (n * 64) (n * 64), .pointer (some ⟨w.heap.size + 1, 0, none⟩), .pointer (some ⟨w1.heap.size + 1, 0, none⟩), .map (some mp), .map (some mf), .int .i64 0] 96)).drew ∧
      ∀ x ∈ b.all, w.heap.size ≤ x := by
  have hs1 : w.heap.size + 1 < w1.heap.size := T1.g_lt
  have hs2 : w1.heap.size + 1 < w2.heap.size := T2.g_lt
  refine ⟨⟨w2.heap.size + 1 + 1 + 1 + 1, hb, hw, w.heap.size + 1, w.heap.size, w1.heap.size + 1, w1.heap.size, mp, mf⟩, rfl, SH.drew (SH_new n h1 h2 (Blk.at_end (by simp)) (T1.kp (K2.chain (new5 _ _ _ _ _ _)) (by simp) (by simp)) (T2.kp (new5 _ _ _ _ _ _) (by simp) (by simp)) pb pw pm pf ?_ ?_ hne), ((K1.chain K2).chain (new5 _ _ _ _ _ _)).drewN 1, ?_⟩
  · show w.heap.size + 1 ≠ w1.heap.size + 1
    omega
  · show w.heap.size ≠ w1.heap.size
    omega
  · intro x hx
    simp only [HB.all, List.mem_cons, List.not_mem_nil, or_false] at hx
    omega
end Go.Proofs.YtkkmlllajfafcaaGreat
/-
  The contract of package heap's New. Conditions: those that stand in each theorem.
-/
namespace Go.Proofs.YtkkmlllajfafcaaGreat
set_option linter.unusedVariables false
set_option linter.unusedSimpArgs false
open Go.RowKit Go.Deep Go.Maps

section
variable {w w' : World} {b : HB} {r : RM} {m : HM} {q : Nat}
theorem h_new_bad (n : Int) (w : World) (hn : ¬ (2 ≤ n ∧ n ≤ 64)) :
    Calls Tryz.prog 12 #[.int .i64 n] w fun e w' => e = .returned (.tuple #[.pointer none, .int .i64 1]) ∧ ∃ m, w' = w.drewN m := by
  by_cases h1 : n < 2
  · clear hn
    go_enter Tryz.func12, Tryz.ntmps12
    go_wp2
    go_ret2
    exact ⟨rfl, 0, rfl⟩
  · have h2 : 64 < n := by omega
    clear hn
    go_enter Tryz.func12, Tryz.ntmps12
    go_wp2
    go_ret2
    exact ⟨rfl, 0, rfl⟩
set_option maxHeartbeats 8000000 in
set_option maxRecDepth 100000 in
theorem h_new_ok (n : Nat) (w : World) (h1 : 2 ≤ n) (h2 : n ≤ 64) :
    Calls Tryz.prog 12 #[.int .i64 (n : Int)] w fun e w' => ∃ b : HB, e = .returned (.tuple #[.pointer (some ⟨b.g, 0, none⟩), .int .i64 0]) ∧ SH w' b 0 (HM.new n) ∧ Kp [] w w' ∧ ∀ x ∈ b.all, w.heap.size ≤ x := by
  obtain ⟨i0, hi0, hz0, hz1, hz2⟩ := info_parts infoBlock
  have hmk1 : ∀ W : World, (Instr.makeSlice 93 (.int .i64 (n : Int)) (.int .i64 (n : Int))).run Tryz.prog W = .ok (.slice (some ⟨W.heap.size, 0, none⟩) n n) (W.alloc (.cells (madeCells #[.int .i64 0, .int .i64 0] (n * 2)) 104)) := fun W => by
    have := run_make_rowN (P := Tryz.prog) 93 104 i0 _ Tryz.underlying93 hi0 hz0 .i64 .i64 n n (Nat.le_refl _) (by rw [hz2]; omega) (by omega) W
    rw [hz1] at this
    exact this
  have hmk2 : ∀ W : World, (Instr.makeSlice 59 (.int .i64 ((n : Int) * 64)) (.int .i64 ((n : Int) * 64))).run Tryz.prog W = .ok (.slice (some ⟨W.heap.size, 0, none⟩) (n * 64) (n * 64)) (W.alloc (.cells (madeCells #[.int .i64 0] (n * 64)) 3)) := fun W => by
    rw [show ((n : Int) * 64) = ((n * 64 : Nat) : Int) by omega]
    exact run_make_row' (P := Tryz.prog) 59 3 (.int .i64 0) 8 Tryz.underlying59 infoInt rfl .i64 .i64 (n * 64) (by omega) (by omega) W
  have hmm := @run_makeMap Tryz.prog
  have HN1 := hid (fun W : World => new_ok (n * 32) 2 W (by omega) (by omega) (by unfold Wd; omega))
  have HN2 := hid (fun W : World => new_ok (n * 32) 1 W (by omega) (by omega) (by unfold Wd; omega))
  have HE := hid (show ((n : Int) * 32) = ((n * 32 : Nat) : Int) by omega)
  clear hi0 hz0 hz1 hz2
  go_enter Tryz.func12, Tryz.ntmps12
  go_wp2_with (fail)
  rw [HE.out]
  refine (HN1.out _).mono ?_
  rintro e w1 ⟨rfl, T1, K1⟩
  have HT1 := hid T1
  have HK1 := hid K1
  clear T1 K1
  go_wp2_with (fail)
  rw [HE.out]
  refine (HN2.out _).mono ?_
  rintro e w2 ⟨rfl, T2, K2⟩
  have HT2 := hid T2
  have HK2 := hid K2
  clear T2 K2
  have hs1 : w.heap.size + 1 < w1.heap.size := HT1.out.g_lt
  have hs2 : w1.heap.size + 1 < w2.heap.size := HT2.out.g_lt
  go_wp2
  go_region
  all_goals (
    go_wp2
    go_ret2
    refine new_close n h1 h2 HT1.out HK1.out HT2.out HK2.out _ _ _ _ _ _ _ _ ?_ ?_ ?_ ?_ ?_ ?_ ?_ ?_ ?_
    · first | exact at0 w2.heap _ _ _ _ _ | exact at1 w2.heap _ _ _ _ _ | exact at2 w2.heap _ _ _ _ _ | exact at3 w2.heap _ _ _ _ _
    · first | exact at0 w2.heap _ _ _ _ _ | exact at1 w2.heap _ _ _ _ _ | exact at2 w2.heap _ _ _ _ _ | exact at3 w2.heap _ _ _ _ _
    · first | exact at0 w2.heap _ _ _ _ _ | exact at1 w2.heap _ _ _ _ _ | exact at2 w2.heap _ _ _ _ _ | exact at3 w2.heap _ _ _ _ _
    · first | exact at0 w2.heap _ _ _ _ _ | exact at1 w2.heap _ _ _ _ _ | exact at2 w2.heap _ _ _ _ _ | exact at3 w2.heap _ _ _ _ _
    all_goals omega)
end
end Go.Proofs.YtkkmlllajfafcaaGreat
/-
  The contract of the law's alive: it returns true. No condition.
-/
namespace Go.Proofs.YtkkmlllajfafcaaGreat
set_option linter.unusedVariables false
set_option linter.unusedSimpArgs false
open Go.RowKit Go.Deep Go.Maps

def al0 : HM := HM.new 4
def al1 : HM := al0.claimM 1 1 0 1
def al2 : HM := al1.placeM 64 1 2 0
def al3 : HM := al2.placeM 70 0 0 0
def al4 : HM := al3.moveM 70 100
def al5 : HM := al4.moveM 64 66
def al6 : HM := al5.claimM 2 2 1 2
def al7 : HM := al6.placeM 128 0 100 0
def al8 : HM := al7.killM 128
def al9 : HM := al8.releaseM 2
theorem av1 : al0.claimE 1 1 0 = 0 := by decide +kernel
theorem av2 : al1.placeE 64 1 2 0 = 0 ∧ al1.placeV 64 1 2 0 = 1 := by decide +kernel
theorem av2g : al2.gapL 1 = [(70, 58)] := by decide +kernel
theorem av2w : al2.wordV 65 = 33 ∧ inB al2.n 65 = true := by decide +kernel
theorem av3 : al2.placeE 70 0 0 0 = 0 ∧ al2.placeV 70 0 0 0 = 2 := by decide +kernel
theorem av4 : al3.moveE 70 100 = 0 := by decide +kernel
theorem av4f : optV (al4.fwI 70) = 100 ∧ optE (al4.fwI 70) = 0 := by decide +kernel
theorem av4a : optV (al4.atI 2) = 100 ∧ optE (al4.atI 2) = 0 := by decide +kernel
theorem av5 : al4.moveE 64 66 = 0 := by decide +kernel
theorem av6 : al5.claimE 2 2 1 = 0 := by decide +kernel
theorem av7 : al6.placeE 128 0 100 0 = 0 ∧ al6.placeV 128 0 100 0 = 3 := by decide +kernel
theorem av8 : al7.lackE 128 = 0 := by decide +kernel
theorem av9 : al8.releaseE 3 = 5 ∧ al8.releaseE 2 = 0 := by decide +kernel
theorem av10 : al9.gapL 1 = [(64, 2), (72, 28), (102, 26)] := by decide +kernel

/-- The heap of alive. -/
structure Al (w W : World) (b : HB) (q : Nat) (m : HM) : Prop where
  sh : SH W b q m
  kp : Kp [] w W
  new : ∀ x ∈ b.all, w.heap.size ≤ x
/-- A slice of runs in blocks from B on. -/
def RunsFar (w : World) (B : Nat) (v : Value) (rs : List (Nat × Nat)) : Prop :=
  ∃ A cap, v = .slice A rs.length cap ∧ ∀ i, i < rs.length → ∃ g, A = some ⟨g, 0, none⟩ ∧ B ≤ g ∧ w.cell? ⟨g, i * 2, none⟩ = some (.int .i64 ((rs.getD i (0, 0)).1 : Int)) ∧ w.cell? ⟨g, i * 2 + 1, none⟩ = some (.int .i64 ((rs.getD i (0, 0)).2 : Int))
theorem RunsFar.at_ {w : World} {B : Nat} {v : Value} {rs : List (Nat × Nat)} (h : RunsFar w B v rs) : RunsAt w v rs := by
  obtain ⟨A, cap, rfl, hA⟩ := h
  exact ⟨A, cap, rfl, fun i hi => by obtain ⟨g, h1, _, h2⟩ := hA i hi; exact ⟨g, h1, h2⟩⟩
theorem RunsFar.of_own {w : World} {B : Nat} {v : Value} {rs : List (Nat × Nat)} (own : w.ownsRow B 76 2 v rs.length (rcells rs)) : RunsFar w B v rs := by
  obtain ⟨A, cap, h1, h2⟩ := RunsAt.of_own own
  refine ⟨A, cap, h1, fun i hi => ?_⟩
  obtain ⟨g, h3, h4⟩ := h2 i hi
  refine ⟨g, h3, ?_, h4⟩
  rcases own.2 with ⟨rfl, h0⟩ | ⟨g', cap', cur, rfl, hg, _⟩
  · omega
  · injection h1 with h1
    rw [h3] at h1
    injection h1 with h1
    injection h1 with h1
    omega
theorem RunsFar.kp {w W : World} {B : Nat} {S : List Nat} {v : Value} {rs : List (Nat × Nat)} (h : RunsFar w B v rs) (k : Kp S w W) (hS : ∀ x ∈ S, x < B) : RunsFar W B v rs := by
  obtain ⟨A, cap, rfl, hA⟩ := h
  refine ⟨A, cap, rfl, fun i hi => ?_⟩
  obtain ⟨g, h1, hB, h2, h3⟩ := hA i hi
  have hn : g ∉ S := fun hm => by have := hS g hm; omega
  have hb := k.block g (cell_lt h2) hn
  exact ⟨g, h1, hB, by rw [World.cell?_of_block hb]; exact h2, by rw [World.cell?_of_block hb]; exact h3⟩
section
variable {w W W' : World} {b : HB} {q q' : Nat} {m m' : HM}
theorem Al.step (a : Al w W b q m) (S : SH W' b q' m') (K : Kp b.all W W') : Al w W' b q' m' := ⟨S, a.kp.trans K (by simp) (fun x hx => .inr (a.new x hx)), a.new⟩
theorem Al.drewN (a : Al w W b q m) (n : Nat) : Al w (W.drewN n) b q m := ⟨a.sh.drewN n, a.kp.drewN n, a.new⟩
theorem Al.below (a : Al w W b q m) (k : Below W.heap.size W W') : Al w W' b q m := ⟨a.sh.below k a.sh.lt, a.kp.trans (Kp.of_below k) (by simp) (by simp), a.new⟩
theorem Al.alloc (a : Al w W b q m) (o : Obj) : Al w (W.alloc o) b q m := a.below ((Below.refl _ _).alloc (Nat.le_refl _) o)
theorem one_run (W : World) (s z : Nat) : RunsAt (W.alloc (.cells #[.int .i64 (s : Int), .int .i64 (z : Int)] 76)) (.slice (some ⟨W.heap.size, 0, none⟩) 1 1) [(s, z)] := by
  have b := Blk.new W 76 #[.int .i64 (s : Int), .int .i64 (z : Int)]
  refine ⟨_, 1, rfl, fun i hi => ⟨W.heap.size, rfl, ?_⟩⟩
  obtain rfl : i = 0 := by simpa using hi
  exact ⟨b.cell 0, b.cell 1⟩
theorem three_runs (W : World) (s z s1 z1 s2 z2 : Nat) : RunsAt (W.alloc (.cells #[.int .i64 (s : Int), .int .i64 (z : Int), .int .i64 (s1 : Int), .int .i64 (z1 : Int), .int .i64 (s2 : Int), .int .i64 (z2 : Int)] 76)) (.slice (some ⟨W.heap.size, 0, none⟩) 3 3) [(s, z), (s1, z1), (s2, z2)] := by
  have b := Blk.new W 76 #[.int .i64 (s : Int), .int .i64 (z : Int), .int .i64 (s1 : Int), .int .i64 (z1 : Int), .int .i64 (s2 : Int), .int .i64 (z2 : Int)]
  refine ⟨_, 3, rfl, fun i hi => ⟨W.heap.size, rfl, ?_⟩⟩
  have hi : i = 0 ∨ i = 1 ∨ i = 2 := by simp at hi; omega
  rcases hi with rfl | rfl | rfl
  · exact ⟨b.cell 0, b.cell 1⟩
  · exact ⟨b.cell 2, b.cell 3⟩
  · exact ⟨b.cell 4, b.cell 5⟩
theorem al_1 {w : World} (h : SH w b q al0) (hq : q ≤ 1000) : Calls Tryz.prog 43 #[.pointer (some ⟨b.g, 0, none⟩), .int .i64 1, .int .i64 0] w fun e w' => e = .returned (.int .i64 0) ∧ SH w' b q al1 ∧ Kp b.all w w' := by
  have H := h_Claim h 1 0
  rw [av1] at H
  exact H
theorem al_2 {w : World} (h : SH w b q al1) (hq : q ≤ 1000) : Calls Tryz.prog 44 #[.pointer (some ⟨b.g, 0, none⟩), .int .i64 64, .agg #[.int .i64 1, .int .i64 2, .int .i64 0]] w fun e w' => e = .returned (.tuple #[.int .i64 1, .int .i64 0]) ∧ SH w' b (q + 1) al2 ∧ Kp b.all w w' := by
  have H := h_place h 64 1 2 0 ⟨by omega, by omega⟩ (by omega)
  rw [av2.1, av2.2] at H
  exact H
theorem al_3 {w : World} (h : SH w b q al2) (hq : q ≤ 1000) : Calls Tryz.prog 44 #[.pointer (some ⟨b.g, 0, none⟩), .int .i64 70, .agg #[.int .i64 0, .int .i64 0, .int .i64 0]] w fun e w' => e = .returned (.tuple #[.int .i64 2, .int .i64 0]) ∧ SH w' b (q + 1) al3 ∧ Kp b.all w w' := by
  have H := h_place h 70 0 0 0 ⟨by omega, by omega⟩ (by omega)
  rw [av3.1, av3.2] at H
  exact H
theorem al_4 {w : World} (h : SH w b q al3) (hq : q ≤ 1000) : Calls Tryz.prog 47 #[.pointer (some ⟨b.g, 0, none⟩), .int .i64 70, .int .i64 100] w fun e w' => e = .returned (.int .i64 0) ∧ SH w' b (q + 2) al4 ∧ Kp b.all w w' := by
  have H := h_move h 70 100 ⟨by omega, by omega⟩ ⟨by omega, by omega⟩ (by omega)
  rw [av4] at H
  exact H
theorem al_5 {w : World} (h : SH w b q al4) (hq : q ≤ 1000) : Calls Tryz.prog 47 #[.pointer (some ⟨b.g, 0, none⟩), .int .i64 64, .int .i64 66] w fun e w' => e = .returned (.int .i64 0) ∧ SH w' b (q + 2) al5 ∧ Kp b.all w w' := by
  have H := h_move h 64 66 ⟨by omega, by omega⟩ ⟨by omega, by omega⟩ (by omega)
  rw [av5] at H
  exact H
theorem al_6 {w : World} (h : SH w b q al5) (hq : q ≤ 1000) : Calls Tryz.prog 50 #[.pointer (some ⟨b.g, 0, none⟩), .int .i64 2, .int .i64 2, .int .i64 1] w fun e w' => e = .returned (.int .i64 0) ∧ SH w' b q al6 ∧ Kp b.all w w' := by
  have H := h_ClaimLarge h 2 2 1
  rw [av6] at H
  exact H
theorem al_7 {w : World} (h : SH w b q al6) (hq : q ≤ 1000) : Calls Tryz.prog 44 #[.pointer (some ⟨b.g, 0, none⟩), .int .i64 128, .agg #[.int .i64 0, .int .i64 100, .int .i64 0]] w fun e w' => e = .returned (.tuple #[.int .i64 3, .int .i64 0]) ∧ SH w' b (q + 1) al7 ∧ Kp b.all w w' := by
  have H := h_place h 128 0 100 0 ⟨by omega, by omega⟩ (by omega)
  rw [av7.1, av7.2] at H
  exact H
theorem al_8 {w : World} (h : SH w b q al7) (hq : q ≤ 1000) : Calls Tryz.prog 51 #[.pointer (some ⟨b.g, 0, none⟩), .int .i64 128] w fun e w' => e = .returned (.int .i64 0) ∧ SH w' b q al8 ∧ Kp b.all w w' := by
  have H := h_kill h 128 ⟨by omega, by omega⟩ (by omega)
  rw [av8] at H
  exact H
theorem al_9 {w : World} (h : SH w b q al8) (hq : q ≤ 1000) : Calls Tryz.prog 52 #[.pointer (some ⟨b.g, 0, none⟩), .int .i64 3] w fun e w' => e = .returned (.int .i64 5) ∧ SH w' b q al8 ∧ Kp b.all w w' := by
  have H := h_release h 3
  rw [av9.1, show al8.releaseM 3 = al8 by unfold HM.releaseM; rw [av9.1]; rfl] at H
  exact H
theorem al_10 {w : World} (h : SH w b q al8) (hq : q ≤ 1000) : Calls Tryz.prog 52 #[.pointer (some ⟨b.g, 0, none⟩), .int .i64 2] w fun e w' => e = .returned (.int .i64 0) ∧ SH w' b q al9 ∧ Kp b.all w w' := by
  have H := h_release h 2
  rw [av9.2] at H
  exact H
theorem al_gaps {w : World} (h : SH w b q al2) : Calls Tryz.prog 45 #[.pointer (some ⟨b.g, 0, none⟩), .int .i64 1] w (Grows w.heap.size w [(70, 58)]) := by
  have H := h_gaps h 1
  rw [av2g] at H
  exact H
theorem al_gaps2 {w : World} (h : SH w b q al9) : Calls Tryz.prog 45 #[.pointer (some ⟨b.g, 0, none⟩), .int .i64 1] w (Grows w.heap.size w [(64, 2), (72, 28), (102, 26)]) := by
  have H := h_gaps h 1
  rw [av10] at H
  exact H
theorem al_word {w : World} (h : SH w b q al2) : Calls Tryz.prog 46 #[.pointer (some ⟨b.g, 0, none⟩), .int .i64 65] w fun e w' => e = .returned (.tuple #[.int .i64 33, .int .i64 0]) ∧ ∃ n, w' = w.drewN n := by
  have H := h_word h 65
  rw [av2w.1, av2w.2, if_pos rfl] at H
  exact H
theorem al_fwd {w : World} (h : SH w b q al4) : Calls Tryz.prog 48 #[.pointer (some ⟨b.g, 0, none⟩), .int .i64 70] w fun e w' => e = .returned (.tuple #[.int .i64 100, .int .i64 0]) ∧ ∃ n, w' = w.drewN n := by
  have H := h_forward h 70 ⟨by omega, by omega⟩
  rw [av4f.1, av4f.2] at H
  exact H
theorem al_at {w : World} (h : SH w b q al4) : Calls Tryz.prog 49 #[.pointer (some ⟨b.g, 0, none⟩), .int .i64 2] w fun e w' => e = .returned (.tuple #[.int .i64 100, .int .i64 0]) ∧ ∃ n, w' = w.drewN n := by
  have H := h_at h 2 ⟨by omega, by omega⟩
  rw [av4a.1, av4a.2] at H
  exact H
set_option maxRecDepth 100000 in
set_option maxHeartbeats 8000000 in
theorem alive_ok (w : World) : Calls Tryz.prog 11 #[] w (TrueP w) := by
  go_enter Tryz.func11, Tryz.ntmps11
  go_wp2_with (fail)
  refine (h_new_ok 4 w (by omega) (by omega)).mono ?_
  rintro e w1 ⟨b, rfl, S0, K0, N0⟩
  have A0 := hid (show Al w w1 b 0 al0 from ⟨S0, K0, N0⟩)
  clear S0 K0 N0
  go_wp2_with (fail)
  refine (al_1 A0.out.sh (by omega)).mono ?_
  rintro e w1 ⟨rfl, S1, K1⟩
  have A1 := hid (A0.out.step S1 K1)
  clear S1 K1
  go_wp2_with (fail)
  refine (al_2 A1.out.sh (by omega)).mono ?_
  rintro e w2 ⟨rfl, S1, K1⟩
  have A2 := hid (A1.out.step S1 K1)
  clear S1 K1
  go_wp2_with (fail)
  refine (al_gaps A2.out.sh).mono ?_
  rintro e wg ⟨v4, rfl, own, bel⟩
  have A3 := hid (A2.out.below bel)
  have R3 := hid (RunsFar.of_own own)
  have LT := hid A2.out.sh.lt
  clear own bel
  go_wp2_with (fail)
  refine (al_word A3.out.sh).mono ?_
  rintro e w' ⟨rfl, n5, rfl⟩
  have A4 := hid (A3.out.drewN n5)
  go_wp2_with (fail)
  refine (al_3 A4.out.sh (by omega)).mono ?_
  rintro e w5 ⟨rfl, S1, K1⟩
  have A5 := hid (A4.out.step S1 K1)
  have R5 := hid (R3.out.kp K1.from_drewN LT.out)
  clear S1 K1
  go_wp2_with (fail)
  refine (al_4 A5.out.sh (by omega)).mono ?_
  rintro e w6 ⟨rfl, S1, K1⟩
  have A6 := hid (A5.out.step S1 K1)
  have R6 := hid (R5.out.kp K1 LT.out)
  clear S1 K1
  go_wp2_with (fail)
  refine (al_fwd A6.out.sh).mono ?_
  rintro e w' ⟨rfl, n7, rfl⟩
  go_wp2_with (fail)
  refine (al_at (A6.out.drewN n7).sh).mono ?_
  rintro e w' ⟨rfl, n8, rfl⟩
  have A7 := hid (A6.out.drewN (n7 + n8))
  go_wp2_with (fail)
  refine (al_5 A7.out.sh (by omega)).mono ?_
  rintro e w8 ⟨rfl, S1, K1⟩
  have A8 := hid (A7.out.step S1 K1)
  have R8 := hid (R6.out.kp K1.from_drewN LT.out)
  clear S1 K1
  go_wp2_with (fail)
  refine (al_6 A8.out.sh (by omega)).mono ?_
  rintro e w9 ⟨rfl, S1, K1⟩
  have A9 := hid (A8.out.step S1 K1)
  have R9 := hid (R8.out.kp K1 LT.out)
  clear S1 K1
  go_wp2_with (fail)
  refine (al_7 A9.out.sh (by omega)).mono ?_
  rintro e w10 ⟨rfl, S1, K1⟩
  have A10 := hid (A9.out.step S1 K1)
  have R10 := hid (R9.out.kp K1 LT.out)
  clear S1 K1
  go_wp2_with (fail)
  refine (al_8 A10.out.sh (by omega)).mono ?_
  rintro e w11 ⟨rfl, S1, K1⟩
  have A11 := hid (A10.out.step S1 K1)
  have R11 := hid (R10.out.kp K1 LT.out)
  clear S1 K1
  go_wp2_with (fail)
  refine (al_9 A11.out.sh (by omega)).mono ?_
  rintro e w12 ⟨rfl, S1, K1⟩
  have A12 := hid (A11.out.step S1 K1)
  have R12 := hid (R11.out.kp K1 LT.out)
  clear S1 K1
  go_wp2_with (fail)
  refine (al_10 A12.out.sh (by omega)).mono ?_
  rintro e w13 ⟨rfl, S1, K1⟩
  have A13 := hid (A12.out.step S1 K1)
  have R13 := hid (R12.out.kp K1 LT.out)
  clear S1 K1
  go_wp2_with (fail)
  refine (sameRuns_yes (rs := [(70, 58)]) (R13.out.kp (Kp.new _ _) (by simp)).at_ (one_run _ 70 58) (by decide)).mono ?_
  rintro e w' ⟨rfl, n14, rfl⟩
  go_wp2_with (fail)
  refine (al_gaps2 ((A13.out.alloc _).drewN n14).sh).mono ?_
  rintro e w15 ⟨v15, rfl, own, bel⟩
  have A15 := hid (((A13.out.alloc _).drewN n14).below bel)
  have R15 := hid (RunsFar.of_own own)
  clear own bel
  go_wp2_with (fail)
  refine (sameRuns_yes (rs := [(64, 2), (72, 28), (102, 26)]) (R15.out.kp (Kp.new _ _) (by simp)).at_ (three_runs _ 64 2 72 28 102 26) (by decide)).mono ?_
  rintro e w' ⟨rfl, n16, rfl⟩
  go_wp2
  go_ret
  exact ⟨rfl, ((A15.out.alloc _).drewN n16).kp⟩
end
end Go.Proofs.YtkkmlllajfafcaaGreat
