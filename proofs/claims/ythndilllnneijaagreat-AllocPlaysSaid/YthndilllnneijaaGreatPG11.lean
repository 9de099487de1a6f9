/-
  What a new heap's memory reads as. No condition but those stated.
-/
import Derived.Test.YthndilllnneijaaGreatPG9
set_option linter.unusedSimpArgs false
set_option linter.unusedVariables false
set_option maxRecDepth 100000
set_option maxHeartbeats 8000000
namespace Go.Proofs.YthndilllnneijaaGreat
open Go.RowKit Go.Deep Go.Maps
theorem infoBlock : (Tryz.prog.info? 104).map (fun i => (i.zero, i.size, i.bytes)) = some (some (.agg #[.int .i64 0, .int .i64 0]), 2, 16) := by kernel_rfl
def HM.new (n : Nat) : HM := { bl := List.replicate n (0, 0), ob := fun _ => none, fw := fun _ => none, fn := 0, born := 0 }
theorem made_b (n : Nat) : madeCells #[.int .i64 0, .int .i64 0] (n * 2) = (bcells (List.replicate n (0, 0)) ++ []).toArray := by
 apply Array.toList_inj.1
 simp only [List.append_nil]
 apply List.ext_getElem
 · simp [madeCells, bcells_length]
 · intro i h1 h2
   have hi : i / 2 < n := by simp [madeCells] at h1; omega
   have a0 := bcells_get0 (bl := List.replicate n (0, 0)) (sp := []) (q := i / 2) (by simpa using hi)
   have a1 := bcells_get1 (bl := List.replicate n (0, 0)) (sp := []) (q := i / 2) (by simpa using hi)
   simp only [List.append_nil, List.getElem?_toArray] at a0 a1
   have e : (List.replicate n ((0, 0) : Nat × Nat)).getD (i / 2) (0, 0) = (0, 0) := by
     rw [List.getD_eq_getElem?_getD, List.getElem?_replicate]; split <;> rfl
   rw [e] at a0 a1
   have l1 : (madeCells #[.int .i64 0, .int .i64 0] (n * 2)).toList[i] = Value.int .i64 0 := by
     simp only [madeCells, Array.toList_map, List.getElem_map]
     simp
     rcases (show i % 2 = 0 ∨ i % 2 = 1 by omega) with h | h <;> simp [h]
   rw [l1]
   have h2' : i < (bcells (List.replicate n (0, 0))).length := h2
   have l2 : (bcells (List.replicate n (0, 0)))[i]? = some (Value.int .i64 0) := by
     rcases (show i = i / 2 * 2 ∨ i = i / 2 * 2 + 1 by omega) with h | h
     · rw [h]; exact a0
     · rw [h]; exact a1
   rw [List.getElem?_eq_getElem h2'] at l2
   injection l2 with l2
   exact l2.symm
theorem made_z (n : Nat) : madeCells #[.int .i64 0] n = (zcells (List.replicate n 0) ++ []).toArray := by
 apply Array.toList_inj.1
 rw [toList_madeCells_one]
 simp [zcells]
theorem map_fresh {w : World} {b : Nat} (h : w.heap[b]? = some (.map #[] 0)) : w.ownsMap Tryz.prog 3 (plainElem (H := Unit) Tryz.prog 3) b 0 (.map []) :=
 ⟨#[], 0, h, ⟨by simp, Go.MapKept.stamped_empty 0, by simp⟩, Nat.le_refl _, rfl⟩
theorem getD_zero (n k : Nat) : (List.replicate n (0 : Int)).getD k 0 = 0 := by
 rw [List.getD_eq_getElem?_getD, List.getElem?_replicate]; split <;> rfl
theorem bl_zero (n k : Nat) : (List.replicate n ((0, 0) : Nat × Nat)).getD k (0, 0) = (0, 0) := by
 rw [List.getD_eq_getElem?_getD, List.getElem?_replicate]; split <;> rfl
theorem new_inv (n : Nat) (h1 : 2 ≤ n) (h2 : n ≤ 64) : (HM.new n).Inv :=
 ⟨by simpa [HM.new] using h1, by simpa [HM.new] using h2, by show ((List.replicate n ((0, 0) : Nat × Nat)).getD 0 (0, 0)).1 = 0; rw [bl_zero], fun b _ => by show ((List.replicate n ((0, 0) : Nat × Nat)).getD b (0, 0)).2 = 0; rw [bl_zero],
   fun _ _ h => (by cases h), fun _ _ h => (by cases h), fun _ _ h => (by cases h), fun _ _ h => (by cases h), fun _ _ _ _ h => (by cases h), fun _ _ _ _ h => (by cases h)⟩
theorem new5 (w : World) (a b c d e : Obj) : Kp [] w (((((w.alloc a).alloc b).alloc c).alloc d).alloc e) := ((((Kp.new w a).chain (Kp.new _ b)).chain (Kp.new _ c)).chain (Kp.new _ d)).chain (Kp.new _ e)
section
variable (h : Array Obj) (a b c d e : Obj)
theorem at0 : (((((h.push a).push b).push c).push d).push e)[h.size]? = some a := by
 rw [Array.getElem?_push, if_neg (by simp only [Array.size_push]; omega)]
 rw [Array.getElem?_push, if_neg (by simp only [Array.size_push]; omega)]
 rw [Array.getElem?_push, if_neg (by simp only [Array.size_push]; omega)]
 rw [Array.getElem?_push, if_neg (by simp only [Array.size_push]; omega)]
 rw [Array.getElem?_push, if_pos rfl]
theorem at1 : (((((h.push a).push b).push c).push d).push e)[h.size + 1]? = some b := by
 rw [Array.getElem?_push, if_neg (by simp only [Array.size_push]; omega)]
 rw [Array.getElem?_push, if_neg (by simp only [Array.size_push]; omega)]
 rw [Array.getElem?_push, if_neg (by simp only [Array.size_push]; omega)]
 rw [Array.getElem?_push, if_pos (by simp only [Array.size_push])]
theorem at2 : (((((h.push a).push b).push c).push d).push e)[h.size + 1 + 1]? = some c := by
 rw [Array.getElem?_push, if_neg (by simp only [Array.size_push]; omega)]
 rw [Array.getElem?_push, if_neg (by simp only [Array.size_push]; omega)]
 rw [Array.getElem?_push, if_pos (by simp only [Array.size_push])]
theorem at3 : (((((h.push a).push b).push c).push d).push e)[h.size + 1 + 1 + 1]? = some d := by
 rw [Array.getElem?_push, if_neg (by simp only [Array.size_push]; omega)]
 rw [Array.getElem?_push, if_pos (by simp only [Array.size_push])]
end
theorem SH_new {W : World} {b : HB} (n : Nat) (h1 : 2 ≤ n) (h2 : n ≤ 64)
   (G : Blk W b.g 96 #[.slice (some ⟨b.hb, 0, none⟩) n n, .slice (some ⟨b.hw, 0, none⟩) (n * 64) (n * 64), .pointer (some ⟨b.pg, 0, none⟩), .pointer (some ⟨b.ng, 0, none⟩), .map (some b.mp), .map (some b.mf), .int .i64 0])
   (TP : STab W b.pg b.ph 2 (List.replicate (n * 32) 0)) (TN : STab W b.ng b.nh 1 (List.replicate (n * 32) 0))
   (Bb : Blk W b.hb 104 (madeCells #[.int .i64 0, .int .i64 0] (n * 2))) (Bw : Blk W b.hw 3 (madeCells #[.int .i64 0] (n * 64)))
   (MP : W.heap[b.mp]? = some (.map #[] 0)) (MF : W.heap[b.mf]? = some (.map #[] 0)) (d1 : b.pg ≠ b.ng) (d2 : b.ph ≠ b.nh) (d3 : b.mp ≠ b.mf) : SH W b 0 (HM.new n) := by
 refine ⟨⟨List.replicate n (0, 0), n, [], List.replicate (n * 64) 0, n * 64, [], List.replicate (n * 32) 0, List.replicate (n * 32) 0, 0, .map [], .map [], 0⟩, ?_, ?_, Nat.le_refl _, Nat.le_refl _⟩
 · rw [made_b] at Bb
   rw [made_z] at Bw
   refine ⟨by simp, by show n ≤ maxLen; unfold maxLen; omega, by simp [bcells_length]; omega, by simp, by show n * 64 ≤ maxLen; unfold maxLen; omega, by simp [zcells_length], by simpa using h1, by simpa using h2, by simp; omega, by simp; omega, by simp; omega, ?_, Bb, Bw, TP, TN, map_fresh MP, map_fresh MF, d1, d2, d3⟩
   simpa using G
 · have hcv : ∀ k, ¬ (HM.new n).cv k := by
     rintro k ⟨a, o, h, _⟩
     cases h
   have I := new_inv n h1 h2
   refine ⟨I, rfl, rfl, ⟨fun _ _ h => (by cases h), fun k _ => getD_zero _ _, fun _ _ h => (by cases h), fun _ _ h => (by cases h), fun j _ => ent_replicate _ _, fun _ _ h => (by cases h), fun j _ => ent_replicate _ _⟩, ?_, ?_, rfl⟩
   · intro i _ _
     have : (HM.new n).atI i = none := by
       unfold HM.atI
       rw [(at_none I i).2 (fun a o h => (by cases h))]
       rfl
     rw [this]
     exact ⟨rfl, fun v hv => nomatch hv⟩
   · intro i _ _
     have : (HM.new n).fwI i = none := by unfold HM.fwI; split <;> rfl
     rw [this]
     exact ⟨rfl, fun v hv => nomatch hv⟩
theorem SH.drew {w : World} {b : HB} {q : Nat} {m : HM} (h : SH w b q m) : SH w.drew b q m := h.kp0 (Kp.draw w 1)
theorem new_close {w w1 w2 : World} (n : Nat) (h1 : 2 ≤ n) (h2 : n ≤ 64) (T1 : STab w1 (w.heap.size + 1) w.heap.size 2 (List.replicate (n * 32) 0)) (K1 : Kp [] w w1) (T2 : STab w2 (w1.heap.size + 1) w1.heap.size 1 (List.replicate (n * 32) 0)) (K2 : Kp [] w1 w2)
   (oa ob oc od : Obj) (hb hw mp mf : Nat)
   (pb : (((((w2.heap.push oa).push ob).push oc).push od).push (.cells #[.slice (some ⟨hb, 0, none⟩) n n, .slice (some ⟨hw, 0, none⟩) (n * 64) (n * 64), .pointer (some ⟨w.heap.size + 1, 0, none⟩), .pointer (some ⟨w1.heap.size + 1, 0, none⟩), .map (some mp), .map (some mf), .int .i64 0] 96))[hb]? = some (.cells (madeCells #[.int .i64 0, .int .i64 0] (n * 2)) 104))
   (pw : (((((w2.heap.push oa).push ob).push oc).push od).push (.cells #[.slice (some ⟨hb, 0, none⟩) n n, .slice (some ⟨hw, 0, none⟩) (n * 64) (n * 64), .pointer (some ⟨w.heap.size + 1, 0, none⟩), .pointer (some ⟨w1.heap.size + 1, 0, none⟩), .map (some mp), .map (some mf), .int .i64 0] 96))[hw]? = some (.cells (madeCells #[.int .i64 0] (n * 64)) 3))
   (pm : (((((w2.heap.push oa).push ob).push oc).push od).push (.cells #[.slice (some ⟨hb, 0, none⟩) n n, .slice (some ⟨hw, 0, none⟩) (n * 64) (n * 64), .pointer (some ⟨w.heap.size + 1, 0, none⟩), .pointer (some ⟨w1.heap.size + 1, 0, none⟩), .map (some mp), .map (some mf), .int .i64 0] 96))[mp]? = some (.map #[] 0))
   (pf : (((((w2.heap.push oa).push ob).push oc).push od).push (.cells #[.slice (some ⟨hb, 0, none⟩) n n, .slice (some ⟨hw, 0, none⟩) (n * 64) (n * 64), .pointer (some ⟨w.heap.size + 1, 0, none⟩), .pointer (some ⟨w1.heap.size + 1, 0, none⟩), .map (some mp), .map (some mf), .int .i64 0] 96))[mf]? = some (.map #[] 0))
   (hne : mp ≠ mf) (lb : w2.heap.size ≤ hb) (lw : w2.heap.size ≤ hw) (lp : w2.heap.size ≤ mp) (lf : w2.heap.size ≤ mf) :
   ∃ b : HB, Ending.returned (.tuple #[.pointer (some ⟨w2.heap.size + 1 + 1 + 1 + 1, 0, none⟩), .int .i64 0]) = .returned (.tuple #[.pointer (some ⟨b.g, 0, none⟩), .int .i64 0]) ∧
     SH (((((w2.alloc oa).alloc ob).alloc oc).alloc od).alloc (.cells #[.slice (some ⟨hb, 0, none⟩) n n, .slice (some ⟨hw, 0, none⟩) (n * 64) (n * 64), .pointer (some ⟨w.heap.size + 1, 0, none⟩), .pointer (some ⟨w1.heap.size + 1, 0, none⟩), .map (some mp), .map (some mf), .int .i64 0] 96)).drew b 0 (HM.new n) ∧
     Kp [] w (((((w2.alloc oa).alloc ob).alloc oc).alloc od).alloc (.cells #[.slice (some ⟨hb, 0, none⟩) n n, .slice (some ⟨hw, 0, none⟩) (n * 64) (n * 64), .pointer (some ⟨w.heap.size + 1, 0, none⟩), .pointer (some ⟨w1.heap.size + 1, 0, none⟩), .map (some mp), .map (some mf), .int .i64 0] 96)).drew ∧
     ∀ x ∈ b.all, w.heap.size ≤ x := by
 have hs1 : w.heap.size + 1 < w1.heap.size := T1.g_lt
 have hs2 : w1.heap.size + 1 < w2.heap.size := T2.g_lt
 refine ⟨⟨w2.heap.size + 1 + 1 + 1 + 1, hb, hw, w.heap.size + 1, w.heap.size, w1.heap.size + 1, w1.heap.size, mp, mf⟩, rfl, SH.drew (SH_new n h1 h2 (Blk.at_end (by simp)) (T1.kp (K2.chain (new5 _ _ _ _ _ _)) (by simp) (by simp)) (T2.kp (new5 _ _ _ _ _ _) (by simp) (by simp)) pb pw pm pf ?_ ?_ hne), ((K1.chain K2).chain (new5 _ _ _ _ _ _)).drewN 1, ?_⟩
 · show w.heap.size + 1 ≠ w1.heap.size + 1
   omega
 · show w.heap.size ≠ w1.heap.size
   omega
 · intro x hx
   simp only [HB.all, List.mem_cons, List.not_mem_nil, or_false] at hx
   omega
section
variable {w w' : World} {b : HB} {r : RM} {m : HM} {q : Nat}
theorem h_new_bad (n : Int) (w : World) (hn : ¬ (2 ≤ n ∧ n ≤ 64)) :
   Calls Tryz.prog 12 #[.int .i64 n] w fun e w' => e = .returned (.tuple #[.pointer none, .int .i64 1]) ∧ ∃ m, w' = w.drewN m := by
 by_cases h1 : n < 2
 · clear hn
   go_enter Tryz.func12, Tryz.ntmps12
   go_wp2
   go_ret2
   exact ⟨rfl, 0, rfl⟩
 · have h2 : 64 < n := by omega
   clear hn
   go_enter Tryz.func12, Tryz.ntmps12
   go_wp2
   go_ret2
   exact ⟨rfl, 0, rfl⟩
theorem h_new_ok (n : Nat) (w : World) (h1 : 2 ≤ n) (h2 : n ≤ 64) :
   Calls Tryz.prog 12 #[.int .i64 (n : Int)] w fun e w' => ∃ b : HB, e = .returned (.tuple #[.pointer (some ⟨b.g, 0, none⟩), .int .i64 0]) ∧ SH w' b 0 (HM.new n) ∧ Kp [] w w' ∧ ∀ x ∈ b.all, w.heap.size ≤ x := by
 obtain ⟨i0, hi0, hz0, hz1, hz2⟩ := info_parts infoBlock
 have hmk1 : ∀ W : World, (Instr.makeSlice 93 (.int .i64 (n : Int)) (.int .i64 (n : Int))).run Tryz.prog W = .ok (.slice (some ⟨W.heap.size, 0, none⟩) n n) (W.alloc (.cells (madeCells #[.int .i64 0, .int .i64 0] (n * 2)) 104)) := fun W => by
   have := run_make_rowN (P := Tryz.prog) 93 104 i0 _ Tryz.underlying93 hi0 hz0 .i64 .i64 n n (Nat.le_refl _) (by rw [hz2]; omega) (by omega) W
   rw [hz1] at this
   exact this
 have hmk2 : ∀ W : World, (Instr.makeSlice 59 (.int .i64 ((n : Int) * 64)) (.int .i64 ((n : Int) * 64))).run Tryz.prog W = .ok (.slice (some ⟨W.heap.size, 0, none⟩) (n * 64) (n * 64)) (W.alloc (.cells (madeCells #[.int .i64 0] (n * 64)) 3)) := fun W => by
   rw [show ((n : Int) * 64) = ((n * 64 : Nat) : Int) by omega]
   exact run_make_row' (P := Tryz.prog) 59 3 (.int .i64 0) 8 Tryz.underlying59 infoInt rfl .i64 .i64 (n * 64) (by omega) (by omega) W
 have hmm := @run_makeMap Tryz.prog
 have HN1 := hid (fun W : World => new_ok (n * 32) 2 W (by omega) (by omega) (by unfold Wd; omega))
 have HN2 := hid (fun W : World => new_ok (n * 32) 1 W (by omega) (by omega) (by unfold Wd; omega))
 have HE := hid (show ((n : Int) * 32) = ((n * 32 : Nat) : Int) by omega)
 clear hi0 hz0 hz1 hz2
 go_enter Tryz.func12, Tryz.ntmps12
 go_wp2_with (fail)
 rw [HE.out]
 refine (HN1.out _).mono ?_
 rintro e w1 ⟨rfl, T1, K1⟩
 have HT1 := hid T1
 have HK1 := hid K1
 clear T1 K1
 go_wp2_with (fail)
 rw [HE.out]
 refine (HN2.out _).mono ?_
 rintro e w2 ⟨rfl, T2, K2⟩
 have HT2 := hid T2
 have HK2 := hid K2
 clear T2 K2
 have hs1 : w.heap.size + 1 < w1.heap.size := HT1.out.g_lt
 have hs2 : w1.heap.size + 1 < w2.heap.size := HT2.out.g_lt
 go_wp2
 go_region
 all_goals (
   go_wp2
   go_ret2
   refine new_close n h1 h2 HT1.out HK1.out HT2.out HK2.out _ _ _ _ _ _ _ _ ?_ ?_ ?_ ?_ ?_ ?_ ?_ ?_ ?_
   · first | exact at0 w2.heap _ _ _ _ _ | exact at1 w2.heap _ _ _ _ _ | exact at2 w2.heap _ _ _ _ _ | exact at3 w2.heap _ _ _ _ _
   · first | exact at0 w2.heap _ _ _ _ _ | exact at1 w2.heap _ _ _ _ _ | exact at2 w2.heap _ _ _ _ _ | exact at3 w2.heap _ _ _ _ _
   · first | exact at0 w2.heap _ _ _ _ _ | exact at1 w2.heap _ _ _ _ _ | exact at2 w2.heap _ _ _ _ _ | exact at3 w2.heap _ _ _ _ _
   · first | exact at0 w2.heap _ _ _ _ _ | exact at1 w2.heap _ _ _ _ _ | exact at2 w2.heap _ _ _ _ _ | exact at3 w2.heap _ _ _ _ _
   all_goals omega)
end
def RunsFar (w : World) (B : Nat) (v : Value) (rs : List (Nat × Nat)) : Prop :=
 ∃ A cap, v = .slice A rs.length cap ∧ ∀ i, i < rs.length → ∃ g, A = some ⟨g, 0, none⟩ ∧ B ≤ g ∧ w.cell? ⟨g, i * 2, none⟩ = some (.int .i64 ((rs.getD i (0, 0)).1 : Int)) ∧ w.cell? ⟨g, i * 2 + 1, none⟩ = some (.int .i64 ((rs.getD i (0, 0)).2 : Int))
theorem RunsFar.at_ {w : World} {B : Nat} {v : Value} {rs : List (Nat × Nat)} (h : RunsFar w B v rs) : RunsAt w v rs := by
 obtain ⟨A, cap, rfl, hA⟩ := h
 exact ⟨A, cap, rfl, fun i hi => by obtain ⟨g, h1, _, h2⟩ := hA i hi; exact ⟨g, h1, h2⟩⟩
theorem RunsFar.of_own {w : World} {B : Nat} {v : Value} {rs : List (Nat × Nat)} (own : w.ownsRow B 76 2 v rs.length (rcells rs)) : RunsFar w B v rs := by
 obtain ⟨A, cap, h1, h2⟩ := RunsAt.of_own own
 refine ⟨A, cap, h1, fun i hi => ?_⟩
 obtain ⟨g, h3, h4⟩ := h2 i hi
 refine ⟨g, h3, ?_, h4⟩
 rcases own.2 with ⟨rfl, h0⟩ | ⟨g', cap', cur, rfl, hg, _⟩
 · omega
 · injection h1 with h1
   rw [h3] at h1
   injection h1 with h1
   injection h1 with h1
   omega
theorem RunsFar.kp {w W : World} {B : Nat} {S : List Nat} {v : Value} {rs : List (Nat × Nat)} (h : RunsFar w B v rs) (k : Kp S w W) (hS : ∀ x ∈ S, x < B) : RunsFar W B v rs := by
 obtain ⟨A, cap, rfl, hA⟩ := h
 refine ⟨A, cap, rfl, fun i hi => ?_⟩
 obtain ⟨g, h1, hB, h2, h3⟩ := hA i hi
 have hn : g ∉ S := fun hm => by have := hS g hm; omega
 have hb := k.block g (cell_lt h2) hn
 exact ⟨g, h1, hB, by rw [World.cell?_of_block hb]; exact h2, by rw [World.cell?_of_block hb]; exact h3⟩
section
variable {w W W' : World} {b : HB} {q q' : Nat} {m m' : HM}
end
end Go.Proofs.YthndilllnneijaaGreat
