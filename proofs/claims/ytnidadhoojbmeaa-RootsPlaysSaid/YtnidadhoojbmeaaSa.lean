/-
  The contracts of the laws' Ints, SamePlaces, alive. Conditions: those that stand in each theorem.
-/
import Derived.Test.YtnidadhoojbmeaaRt
import Derived.Test.YtnidadhoojbmeaaRn
import Derived.Test.YtnidadhoojbmeaaRo
import Derived.Test.YtnidadhoojbmeaaRf
namespace Go.Proofs.Ytnidadhoojbmeaa
set_option linter.unusedVariables false
set_option linter.unusedSimpArgs false
open Go.RowKit Go.Deep Go.Maps

theorem IsI.of_own {w : World} {B : Nat} {v : Value} {zs : List Int} (own : w.ownsRow B 3 1 v zs.length (zcells zs)) : IsI w v zs := by
  obtain ⟨A, cap, hv, h1, h2, hA⟩ := FarI.of_own own
  exact ⟨A, cap, hv, Nat.le_trans h1 h2, fun i hi => by obtain ⟨g, e, _, c⟩ := hA i hi; exact ⟨g, 0, e, by rw [Nat.zero_add]; exact c⟩⟩
theorem IsI.kps {w W : World} {S : List Nat} {v : Value} {zs : List Int} (h : IsI w v zs) (k : Kp S w W) (hS : ∀ A n c g o, v = .slice (some ⟨g, o, A⟩) n c → g ∉ S) : IsI W v zs := by
  obtain ⟨A, cap, rfl, h1, hA⟩ := h
  exact ⟨A, cap, rfl, h1, fun i hi => by obtain ⟨g, o, rfl, c⟩ := hA i hi; exact ⟨g, o, rfl, cell_kps k c (hS _ _ _ _ _ rfl)⟩⟩
/-- A slice of numbers in one block, which is this list. -/
theorem IsI.lit {w : World} {g : Nat} (zs : List Int) (h : Blk w g 3 (zcells zs ++ []).toArray) (hl : zs.length ≤ maxLen) : IsI w (.slice (some ⟨g, 0, none⟩) zs.length zs.length) zs :=
  ⟨_, _, rfl, hl, fun i hi => ⟨g, 0, rfl, by rw [Nat.zero_add, h.cell i]; exact zcells_get hi⟩⟩
set_option maxHeartbeats 1000000 in
theorem ints_same {w : World} {v v' : Value} {zs : List Int} (h : IsI w v zs) (h' : IsI w v' zs) :
    Calls Try.prog 18 #[v, v'] w fun e w' => e = .returned (.bool true) ∧ ∃ m, w' = w.drewN m := by
  obtain ⟨A, cap, rfl, hA1, hA⟩ := h
  obtain ⟨A', cap', rfl, hB1, hA'⟩ := h'
  unfold maxLen at hA1
  have HA := hid hA
  have HA' := hid hA'
  clear hA hA' hB1
  go_enter Try.func18, Try.ntmps18
  go_wp2
  go_loopw [5] (fun c wr => ∃ k n : Nat, k ≤ zs.length ∧ c = .int .i64 (k : Int) ∧ wr = w.drewN n) (fun c _ => zs.length - (intOf c).toNat)
  case atStart => exact ⟨0, 0, by omega, rfl, rfl⟩
  case round =>
    obtain ⟨k, n, hk, rfl, rfl⟩ := hrel
    by_cases hlt : k < zs.length
    · obtain ⟨g, o, rfl, c0⟩ := HA.out k hlt
      obtain ⟨g', o', rfl, d0⟩ := HA'.out k hlt
      clear HA HA'
      go_wp2
      go_quiet (fail)
      go_wp2
      go_roundw
      case rel => exact ⟨k + 1, _, by omega, by go_num, rfl⟩
      case measure => simp [intOf]; omega
    · obtain rfl : k = zs.length := by omega
      go_wp2
      go_ret
      exact ⟨rfl, _, rfl⟩
/-- A slice of places, wherever it lies. -/
def IsPl (w : World) (v : Value) (l : List Pl) : Prop :=
  ∃ A cap, v = .slice A l.length cap ∧ l.length ≤ maxLen ∧ ∀ i, i < l.length → ∃ g, A = some ⟨g, 0, none⟩ ∧ w.cell? ⟨g, i * 3, none⟩ = some (.int .i64 ((l.getD i ⟨0, 0, 0⟩).k : Int)) ∧ w.cell? ⟨g, i * 3 + 1, none⟩ = some (.int .i64 ((l.getD i ⟨0, 0, 0⟩).m : Int)) ∧ w.cell? ⟨g, i * 3 + 2, none⟩ = some (.int .i64 ((l.getD i ⟨0, 0, 0⟩).i : Int))
theorem IsPl.kp0 {w W : World} {v : Value} {l : List Pl} (h : IsPl w v l) (k : Kp [] w W) : IsPl W v l := by
  obtain ⟨A, cap, rfl, h1, hA⟩ := h
  exact ⟨A, cap, rfl, h1, fun i hi => by obtain ⟨g, e, c, d, f⟩ := hA i hi; exact ⟨g, e, cell_kp k c, cell_kp k d, cell_kp k f⟩⟩
theorem IsPl.of_own {w : World} {B : Nat} {v : Value} {l : List Pl} (own : w.ownsRow B 33 3 v l.length (plcells l)) : IsPl w v l := by
  rcases own.2 with ⟨rfl, h0⟩ | ⟨g, cap, cur, rfl, hg, _, h1, h2, _⟩
  · exact ⟨none, 0, by rw [h0], by omega, fun i hi => by omega⟩
  · refine ⟨_, cap, rfl, Nat.le_trans h1 h2, fun i hi => ?_⟩
    obtain ⟨a, b, c⟩ := plcells_at l i hi
    exact ⟨g, rfl, by rw [own.cellAt _ (by omega)]; exact a, by rw [own.cellAt _ (by omega)]; exact b, by rw [own.cellAt _ (by omega)]; exact c⟩
set_option maxHeartbeats 1000000 in
theorem places_same {w : World} {v v' : Value} {l : List Pl} (h : IsPl w v l) (h' : IsPl w v' l) (hl : l.length ≤ 100000) :
    Calls Try.prog 17 #[v, v'] w fun e w' => e = .returned (.bool true) ∧ ∃ m, w' = w.drewN m := by
  obtain ⟨A, cap, rfl, hA1, hA⟩ := h
  obtain ⟨A', cap', rfl, hB1, hA'⟩ := h'
  have HA := hid hA
  have HA' := hid hA'
  clear hA hA' hB1 hA1
  go_enter Try.func17, Try.ntmps17
  go_wp2
  go_loopw [5] (fun c wr => ∃ k n : Nat, k ≤ l.length ∧ c = .int .i64 (k : Int) ∧ wr = w.drewN n) (fun c _ => l.length - (intOf c).toNat)
  case atStart => exact ⟨0, 0, by omega, rfl, rfl⟩
  case round =>
    obtain ⟨k, n, hk, rfl, rfl⟩ := hrel
    by_cases hlt : k < l.length
    · obtain ⟨g, rfl, c0, c1, c2⟩ := HA.out k hlt
      obtain ⟨g', rfl, d0, d1, d2⟩ := HA'.out k hlt
      clear HA HA'
      go_wp2
      go_quiet (fail)
      go_wp2
      go_roundw
      case rel => exact ⟨k + 1, _, by omega, by go_num, rfl⟩
      case measure => simp [intOf]; omega
    · obtain rfl : k = l.length := by omega
      go_wp2
      go_ret
      exact ⟨rfl, _, rfl⟩
end Go.Proofs.Ytnidadhoojbmeaa
