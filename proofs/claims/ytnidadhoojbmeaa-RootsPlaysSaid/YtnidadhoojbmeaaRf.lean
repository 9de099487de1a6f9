/-
  The contract of package roots' New. Conditions: those that stand in each theorem.
-/
import Derived.Test.YtnidadhoojbmeaaRe
namespace Go.Proofs.Ytnidadhoojbmeaa
set_option linter.unusedVariables false
set_option linter.unusedSimpArgs false
open Go.RowKit Go.Deep Go.Maps

def RT.new (n : Nat) : RT := ⟨n, List.replicate (16 * n) 0, List.replicate 16 0, []⟩
theorem infoArr : (Try.prog.info? 57).map (fun i => (i.zero, i.size, i.bytes)) = some (some (.agg (Array.replicate 16 (.int .i64 0))), 16, 128) := by kernel_rfl
theorem zeroRoots (w : World) : (zeroValue 59).run Try.prog w = .ok (.agg #[.slice none 0 0, .int .i64 0, .int .i64 0, .int .i64 0, .int .i64 0, .int .i64 0, .int .i64 0, .int .i64 0, .int .i64 0, .int .i64 0, .int .i64 0, .int .i64 0, .int .i64 0, .int .i64 0, .int .i64 0, .int .i64 0, .int .i64 0, .slice none 0 0]) w := by kernel_rfl
theorem made_arr {n : Nat} (h1 : 1 ≤ n) (h2 : n ≤ 4) : madeCells (Array.replicate 16 (.int .i64 0)) (n * 16) = (zcells (RT.new n).sl ++ []).toArray := by
  apply Array.toList_inj.1
  apply List.ext_getElem
  · simp [madeCells, zcells, RT.new]; omega
  · intro i h3 h4
    have hi : i % 16 < 16 := Nat.mod_lt _ (by decide)
    simp [madeCells, zcells, RT.new, hi]
section
variable {w w' W : World}
theorem r_new_bad (n : Int) (h : ¬ (1 ≤ n ∧ n ≤ 4)) :
    Calls Try.prog 7 #[.int .i64 n] w fun e w' => e = .returned (.tuple #[.pointer none, .int .i64 1]) ∧ ∃ m, w' = w.drewN m := by
  by_cases h1 : n < 1
  · clear h
    go_enter Try.func7, Try.ntmps7
    go_wp2
    go_ret2
    exact ⟨rfl, 0, rfl⟩
  · have h2 : 4 < n := by omega
    clear h
    go_enter Try.func7, Try.ntmps7
    go_wp2
    go_ret2
    exact ⟨rfl, 0, rfl⟩
set_option maxRecDepth 100000 in
set_option maxHeartbeats 1000000 in
theorem r_new_ok (n : Nat) (h1 : 1 ≤ n) (h2 : n ≤ 4) :
    Calls Try.prog 7 #[.int .i64 (n : Int)] w fun e w' => ∃ b : RB, e = .returned (.tuple #[.pointer (some ⟨b.g, 0, none⟩), .int .i64 0]) ∧ RR w' b (RT.new n) ∧ Kp [] w w' ∧ ∀ x ∈ b.all, w.heap.size ≤ x := by
  obtain ⟨i0, hi0, hz0, hz1, hz2⟩ := info_parts infoArr
  have hmk : ∀ W : World, (Instr.makeSlice 56 (.int .i64 (n : Int)) (.int .i64 (n : Int))).run Try.prog W = .ok (.slice (some ⟨W.heap.size, 0, none⟩) n n) (W.alloc (.cells (madeCells (Array.replicate 16 (.int .i64 0)) (n * 16)) 57)) := fun W => by
    have := run_make_rowN (P := Try.prog) 56 57 i0 _ Try.underlying56 hi0 hz0 .i64 .i64 n n (Nat.le_refl _) (by rw [hz2]; omega) (by omega) W
    rw [hz1] at this
    exact this
  have hz := zeroRoots
  clear hi0 hz0 hz1 hz2
  go_enter Try.func7, Try.ntmps7
  go_wp2
  go_ret2
  rw [made_arr h1 h2]
  have hb := Blk.new w 57 (zcells (RT.new n).sl ++ []).toArray
  have hg := Blk.new (w.alloc (.cells (zcells (RT.new n).sl ++ []).toArray 57)) 59 #[.slice (some ⟨w.heap.size, 0, none⟩) n n, .int .i64 0, .int .i64 0, .int .i64 0, .int .i64 0, .int .i64 0, .int .i64 0, .int .i64 0, .int .i64 0, .int .i64 0, .int .i64 0, .int .i64 0, .int .i64 0, .int .i64 0, .int .i64 0, .int .i64 0, .int .i64 0, .slice none 0 0]
  rw [World.size_alloc] at hg
  refine ⟨⟨w.heap.size + 1, w.heap.size, .slice none 0 0⟩, rfl, ⟨⟨h1, h2, by simp [RT.new], by simp [RT.new], by simp [RT.new]⟩, ⟨n, [], Nat.le_refl _, by unfold maxLen; omega, by simp [RT.new, zcells], hg, hb.kp (Kp.new _ _) (by simp)⟩, ⟨rfl, .inl ⟨rfl, rfl⟩⟩⟩, (Kp.new _ _).chain (Kp.new _ _), ?_⟩
  intro x hx
  simp [RB.all, Value.ownBlock] at hx
  omega
end
end Go.Proofs.Ytnidadhoojbmeaa
