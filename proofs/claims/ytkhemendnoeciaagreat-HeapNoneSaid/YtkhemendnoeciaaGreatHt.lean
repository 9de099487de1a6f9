/-
  What a new heap's memory reads as. No condition but those stated.
-/
import Derived.Test.YtkhemendnoeciaaGreatHs
namespace Go.Proofs.YtkhemendnoeciaaGreat
set_option linter.unusedVariables false
set_option linter.unusedSimpArgs false
open Go.RowKit Go.Deep Go.Maps

theorem infoBlock : (Tryz.prog.info? 74).map (fun i => (i.zero, i.size, i.bytes)) = some (some (.agg #[.int .i64 0, .int .i64 0]), 2, 16) := by kernel_rfl
def HM.new (n : Nat) : HM := { bl := List.replicate n (0, 0), ob := fun _ => none, fw := fun _ => none, fn := 0, born := 0 }
theorem made_b (n : Nat) : madeCells #[.int .i64 0, .int .i64 0] (n * 2) = (bcells (List.replicate n (0, 0)) ++ []).toArray := by
  apply Array.toList_inj.1
  simp only [List.append_nil]
  apply List.ext_getElem
  · simp [madeCells, bcells_length]
  · intro i h1 h2
    have hi : i / 2 < n := by simp [madeCells] at h1; omega
    have a0 := bcells_get0 (bl := List.replicate n (0, 0)) (sp := []) (q := i / 2) (by simpa using hi)
    have a1 := bcells_get1 (bl := List.replicate n (0, 0)) (sp := []) (q := i / 2) (by simpa using hi)
    simp only [List.append_nil, List.getElem?_toArray] at a0 a1
    have e : (List.replicate n ((0, 0) : Nat × Nat)).getD (i / 2) (0, 0) = (0, 0) := by
      rw [List.getD_eq_getElem?_getD, List.getElem?_replicate]; split <;> rfl
    rw [e] at a0 a1
    have l1 : (madeCells #[.int .i64 0, .int .i64 0] (n * 2)).toList[i] = Value.int .i64 0 := by
      simp only [madeCells, Array.toList_map, List.getElem_map]
      simp
      rcases (show i % 2 = 0 ∨ i % 2 = 1 by omega) with h | h <;> simp [h]
    rw [l1]
    have h2' : i < (bcells (List.replicate n (0, 0))).length := h2
    have l2 : (bcells (List.replicate n (0, 0)))[i]? = some (Value.int .i64 0) := by
      rcases (show i = i / 2 * 2 ∨ i = i / 2 * 2 + 1 by omega) with h | h
      · rw [h]; exact a0
      · rw [h]; exact a1
    rw [List.getElem?_eq_getElem h2'] at l2
    injection l2 with l2
    exact l2.symm
theorem made_z (n : Nat) : madeCells #[.int .i64 0] n = (zcells (List.replicate n 0) ++ []).toArray := by
  apply Array.toList_inj.1
  rw [toList_madeCells_one]
  simp [zcells]
theorem map_fresh {w : World} {b : Nat} (h : w.heap[b]? = some (.map #[] 0)) : w.ownsMap Tryz.prog 3 (plainElem (H := Unit) Tryz.prog 3) b 0 (.map []) :=
  ⟨#[], 0, h, ⟨by simp, Go.MapKept.stamped_empty 0, by simp⟩, Nat.le_refl _, rfl⟩
theorem getD_zero (n k : Nat) : (List.replicate n (0 : Int)).getD k 0 = 0 := by
  rw [List.getD_eq_getElem?_getD, List.getElem?_replicate]; split <;> rfl
theorem bl_zero (n k : Nat) : (List.replicate n ((0, 0) : Nat × Nat)).getD k (0, 0) = (0, 0) := by
  rw [List.getD_eq_getElem?_getD, List.getElem?_replicate]; split <;> rfl
theorem new_inv (n : Nat) (h1 : 2 ≤ n) (h2 : n ≤ 64) : (HM.new n).Inv :=
  ⟨by simpa [HM.new] using h1, by simpa [HM.new] using h2, by show ((List.replicate n ((0, 0) : Nat × Nat)).getD 0 (0, 0)).1 = 0; rw [bl_zero], fun b _ => by show ((List.replicate n ((0, 0) : Nat × Nat)).getD b (0, 0)).2 = 0; rw [bl_zero],
    fun _ _ h => (by cases h), fun _ _ h => (by cases h), fun _ _ h => (by cases h), fun _ _ h => (by cases h), fun _ _ _ _ h => (by cases h), fun _ _ _ _ h => (by cases h)⟩
theorem new5 (w : World) (a b c d e : Obj) : Kp [] w (((((w.alloc a).alloc b).alloc c).alloc d).alloc e) := ((((Kp.new w a).chain (Kp.new _ b)).chain (Kp.new _ c)).chain (Kp.new _ d)).chain (Kp.new _ e)
section
variable (h : Array Obj) (a b c d e : Obj)
theorem at0 : (((((h.push a).push b).push c).push d).push e)[h.size]? = some a := by
  rw [Array.getElem?_push, if_neg (by simp only [Array.size_push]; omega)]
  rw [Array.getElem?_push, if_neg (by simp only [Array.size_push]; omega)]
  rw [Array.getElem?_push, if_neg (by simp only [Array.size_push]; omega)]
  rw [Array.getElem?_push, if_neg (by simp only [Array.size_push]; omega)]
  rw [Array.getElem?_push, if_pos rfl]
theorem at1 : (((((h.push a).push b).push c).push d).push e)[h.size + 1]? = some b := by
  rw [Array.getElem?_push, if_neg (by simp only [Array.size_push]; omega)]
  rw [Array.getElem?_push, if_neg (by simp only [Array.size_push]; omega)]
  rw [Array.getElem?_push, if_neg (by simp only [Array.size_push]; omega)]
  rw [Array.getElem?_push, if_pos (by simp only [Array.size_push])]
theorem at2 : (((((h.push a).push b).push c).push d).push e)[h.size + 1 + 1]? = some c := by
  rw [Array.getElem?_push, if_neg (by simp only [Array.size_push]; omega)]
  rw [Array.getElem?_push, if_neg (by simp only [Array.size_push]; omega)]
  rw [Array.getElem?_push, if_pos (by simp only [Array.size_push])]
theorem at3 : (((((h.push a).push b).push c).push d).push e)[h.size + 1 + 1 + 1]? = some d := by
  rw [Array.getElem?_push, if_neg (by simp only [Array.size_push]; omega)]
  rw [Array.getElem?_push, if_pos (by simp only [Array.size_push])]
end
theorem SH_new {W : World} {b : HB} (n : Nat) (h1 : 2 ≤ n) (h2 : n ≤ 64)
    (G : Blk W b.g 46 #[.slice (some ⟨b.hb, 0, none⟩) n n, .slice (some ⟨b.hw, 0, none⟩) (n * 64) (n * 64), .pointer (some ⟨b.pg, 0, none⟩), .pointer (some ⟨b.ng, 0, none⟩), .map (some b.mp), .map (some b.mf), .int .i64 0])
    (TP : STab W b.pg b.ph 2 (List.replicate (n * 32) 0)) (TN : STab W b.ng b.nh 1 (List.replicate (n * 32) 0))
    (Bb : Blk W b.hb 74 (madeCells #[.int .i64 0, .int .i64 0] (n * 2))) (Bw : Blk W b.hw 3 (madeCells #[.int .i64 0] (n * 64)))
    (MP : W.heap[b.mp]? = some (.map #[] 0)) (MF : W.heap[b.mf]? = some (.map #[] 0)) (d1 : b.pg ≠ b.ng) (d2 : b.ph ≠ b.nh) (d3 : b.mp ≠ b.mf) : SH W b 0 (HM.new n) := by
  refine ⟨⟨List.replicate n (0, 0), n, [], List.replicate (n * 64) 0, n * 64, [], List.replicate (n * 32) 0, List.replicate (n * 32) 0, 0, .map [], .map [], 0⟩, ?_, ?_, Nat.le_refl _, Nat.le_refl _⟩
  · rw [made_b] at Bb
    rw [made_z] at Bw
    refine ⟨by simp, by show n ≤ maxLen; unfold maxLen; omega, by simp [bcells_length]; omega, by simp, by show n * 64 ≤ maxLen; unfold maxLen; omega, by simp [zcells_length], by simpa using h1, by simpa using h2, by simp; omega, by simp; omega, by simp; omega, ?_, Bb, Bw, TP, TN, map_fresh MP, map_fresh MF, d1, d2, d3⟩
    simpa using G
  · have hcv : ∀ k, ¬ (HM.new n).cv k := by
      rintro k ⟨a, o, h, _⟩
      cases h
    have I := new_inv n h1 h2
    refine ⟨I, rfl, rfl, ⟨fun _ _ h => (by cases h), fun k _ => getD_zero _ _, fun _ _ h => (by cases h), fun _ _ h => (by cases h), fun j _ => ent_replicate _ _, fun _ _ h => (by cases h), fun j _ => ent_replicate _ _⟩, ?_, ?_, rfl⟩
    · intro i _ _
      have : (HM.new n).atI i = none := by
        unfold HM.atI
        rw [(at_none I i).2 (fun a o h => (by cases h))]
        rfl
      rw [this]
      exact ⟨rfl, fun v hv => nomatch hv⟩
    · intro i _ _
      have : (HM.new n).fwI i = none := by unfold HM.fwI; split <;> rfl
      rw [this]
      exact ⟨rfl, fun v hv => nomatch hv⟩
theorem SH.drew {w : World} {b : HB} {q : Nat} {m : HM} (h : SH w b q m) : SH w.drew b q m := h.kp0 (Kp.draw w 1)
theorem new_close {w w1 w2 : World} (n : Nat) (h1 : 2 ≤ n) (h2 : n ≤ 64) (T1 : STab w1 (w.heap.size + 1) w.heap.size 2 (List.replicate (n * 32) 0)) (K1 : Kp [] w w1) (T2 : STab w2 (w1.heap.size + 1) w1.heap.size 1 (List.replicate (n * 32) 0)) (K2 : Kp [] w1 w2)
    (oa ob oc od : Obj) (hb hw mp mf : Nat)
    (pb : (((((w2.heap.push oa).push ob).push oc).push od).push (.cells #[.slice (some ⟨hb, 0, none⟩) n n, .slice (some ⟨hw, 0, none⟩) (n * 64) (n * 64), .pointer (some ⟨w.heap.size + 1, 0, none⟩), .pointer (some ⟨w1.heap.size + 1, 0, none⟩), .map (some mp), .map (some mf), .int .i64 0] 46))[hb]? = some (.cells (madeCells #[.int .i64 0, .int .i64 0] (n * 2)) 74))
    (pw : (((((w2.heap.push oa).push ob).push oc).push od).push (.cells #[.slice (some ⟨hb, 0, none⟩) n n, .slice (some ⟨hw, 0, none⟩) (n * 64) (n * 64), .pointer (some ⟨w.heap.size + 1, 0, none⟩), .pointer (some ⟨w1.heap.size + 1, 0, none⟩), .map (some mp), .map (some mf), .int .i64 0] 46))[hw]? = some (.cells (madeCells #[.int .i64 0] (n * 64)) 3))
    (pm : (((((w2.heap.push oa).push ob).push oc).push od).push (.cells #[.slice (some ⟨hb, 0, none⟩) n n, .slice (some ⟨hw, 0, none⟩) (n * 64) (n * 64), .pointer (some ⟨w.heap.size + 1, 0, none⟩), .pointer (some ⟨w1.heap.size + 1, 0, none⟩), .map (some mp), .map (some mf), .int .i64 0] 46))[mp]? = some (.map #[] 0))
    (pf : (((((w2.heap.push oa).push ob).push oc).push od).push (.cells #[.slice (some ⟨hb, 0, none⟩) n n, .slice (some ⟨hw, 0, none⟩) (n * 64) (n * 64), .pointer (some ⟨w.heap.size + 1, 0, none⟩), .pointer (some ⟨w1.heap.size + 1, 0, none⟩), .map (some mp), .map (some mf), .int .i64 0] 46))[mf]? = some (.map #[] 0))
    (hne : mp ≠ mf) (lb : w2.heap.size ≤ hb) (lw : w2.heap.size ≤ hw) (lp : w2.heap.size ≤ mp) (lf : w2.heap.size ≤ mf) :
    ∃ b : HB, Ending.returned (.tuple #[.pointer (some ⟨w2.heap.size + 1 + 1 + 1 + 1, 0, none⟩), .int .i64 0]) = .returned (.tuple #[.pointer (some ⟨b.g, 0, none⟩), .int .i64 0]) ∧
      SH (((((w2.alloc oa).alloc ob).alloc oc).alloc od).alloc (.cells #[.slice (some ⟨hb, 0, none⟩) n n, .slice (some ⟨hw, 0, none⟩) (n * 64) (n * 64), .pointer (some ⟨w.heap.size + 1, 0, none⟩), .pointer (some ⟨w1.heap.size + 1, 0, none⟩), .map (some mp), .map (some mf), .int .i64 0] 46)).drew b 0 (HM.new n) ∧
      Kp [] w (((((w2.alloc oa).alloc ob).alloc oc).alloc od).alloc (.cells #[.slice (some ⟨hb, 0, none⟩) n n, .slice (some ⟨hw, 0, none⟩) (n * 64) (n * 64), .pointer (some ⟨w.heap.size + 1, 0, none⟩), .pointer (some ⟨w1.heap.size + 1, 0, none⟩), .map (some mp), .map (some mf), .int .i64 0] 46)).drew ∧
      ∀ x ∈ b.all, w.heap.size ≤ x := by
  have hs1 : w.heap.size + 1 < w1.heap.size := T1.g_lt
  have hs2 : w1.heap.size + 1 < w2.heap.size := T2.g_lt
  refine ⟨⟨w2.heap.size + 1 + 1 + 1 + 1, hb, hw, w.heap.size + 1, w.heap.size, w1.heap.size + 1, w1.heap.size, mp, mf⟩, rfl, SH.drew (SH_new n h1 h2 (Blk.at_end (by simp)) (T1.kp (K2.chain (new5 _ _ _ _ _ _)) (by simp) (by simp)) (T2.kp (new5 _ _ _ _ _ _) (by simp) (by simp)) pb pw pm pf ?_ ?_ hne), ((K1.chain K2).chain (new5 _ _ _ _ _ _)).drewN 1, ?_⟩
  · show w.heap.size + 1 ≠ w1.heap.size + 1
    omega
  · show w.heap.size ≠ w1.heap.size
    omega
  · intro x hx
    simp only [HB.all, List.mem_cons, List.not_mem_nil, or_false] at hx
    omega
end Go.Proofs.YtkhemendnoeciaaGreat
