/-
  The contracts of the reference's SameRuns and the law's ints, at lists that read alike; of great. Conditions: those that stand in each theorem.
-/
import Derived.Test.YthhgcjbmnkdgjaaO
namespace Go.Proofs.Ythhgcjbmnkdgjaa
set_option linter.unusedVariables false
set_option linter.unusedSimpArgs false
open Go.RowKit Go.Deep

/-- A slice of runs that reads as a list. -/
def RunsAt (w : World) (v : Value) (rs : List (Nat × Nat)) : Prop :=
  ∃ A cap, v = .slice A rs.length cap ∧ ∀ i, i < rs.length → ∃ g, A = some ⟨g, 0, none⟩ ∧ w.cell? ⟨g, i * 2, none⟩ = some (.int .i64 ((rs.getD i (0, 0)).1 : Int)) ∧ w.cell? ⟨g, i * 2 + 1, none⟩ = some (.int .i64 ((rs.getD i (0, 0)).2 : Int))
theorem rcells_at (rs : List (Nat × Nat)) (i : Nat) (hi : i < rs.length) : (rcells rs)[i * 2]? = some (.int .i64 ((rs.getD i (0, 0)).1 : Int)) ∧ (rcells rs)[i * 2 + 1]? = some (.int .i64 ((rs.getD i (0, 0)).2 : Int)) := by
  induction rs generalizing i with
  | nil => simp at hi
  | cons r rs ih =>
    have e : rcells (r :: rs) = .int .i64 (r.1 : Int) :: .int .i64 (r.2 : Int) :: rcells rs := rfl
    rcases i with _ | i
    · rw [e]; exact ⟨rfl, rfl⟩
    · have h := ih i (by simpa using hi)
      rw [e]
      have e1 : (i + 1) * 2 = i * 2 + 1 + 1 := by omega
      rw [e1]
      simp only [List.getElem?_cons_succ, List.getD_cons_succ]
      exact h
theorem RunsAt.of_own {w : World} {B : Nat} {v : Value} {rs : List (Nat × Nat)} (own : w.ownsRow B 62 2 v rs.length (rcells rs)) : RunsAt w v rs := by
  rcases own.2 with ⟨rfl, h0⟩ | ⟨g, cap, cur, rfl, _⟩
  · exact ⟨none, 0, by rw [h0], fun i hi => by omega⟩
  · refine ⟨_, cap, rfl, fun i hi => ⟨g, rfl, ?_⟩⟩
    have h := rcells_at rs i hi
    rw [own.cellAt _ (by omega), own.cellAt _ (by omega)]
    exact h

set_option maxHeartbeats 1000000 in
theorem sameRuns_yes {w : World} {v v' : Value} {rs : List (Nat × Nat)} (h : RunsAt w v rs) (h' : RunsAt w v' rs) (hl : rs.length ≤ 4096) :
    Calls Try.prog 40 #[v, v'] w fun e w' => e = .returned (.bool true) ∧ ∃ m, w' = w.drewN m := by
  obtain ⟨A, cap, rfl, hA⟩ := h
  obtain ⟨A', cap', rfl, hA'⟩ := h'
  have HA := hid hA
  have HA' := hid hA'
  clear hA hA'
  go_enter Try.func40, Try.ntmps40
  go_wp2
  go_loopw [5] (fun c wr => ∃ k n : Nat, k ≤ rs.length ∧ c = .int .i64 (k : Int) ∧ wr = w.drewN n) (fun c _ => rs.length - (intOf c).toNat)
  case atStart => exact ⟨0, 0, by omega, rfl, rfl⟩
  case round =>
    obtain ⟨k, n, hk, rfl, rfl⟩ := hrel
    by_cases hlt : k < rs.length
    · obtain ⟨g, rfl, c0, c1⟩ := HA.out k hlt
      obtain ⟨g', rfl, d0, d1⟩ := HA'.out k hlt
      clear HA HA'
      go_wp2
      go_quiet (fail)
      go_wp2
      go_roundw
      case rel => exact ⟨k + 1, _, by omega, by go_num, rfl⟩
      case measure => simp [intOf]; omega
    · obtain rfl : k = rs.length := by omega
      go_wp2
      go_ret
      exact ⟨rfl, _, rfl⟩

/-- A slice of numbers that reads as a list. -/
def IntsAt (w : World) (v : Value) (L : List Nat) : Prop :=
  ∃ A cap, v = .slice A L.length cap ∧ ∀ i, i < L.length → ∃ g, A = some ⟨g, 0, none⟩ ∧ w.cell? ⟨g, i, none⟩ = some (.int .i64 ((ent L i : Nat) : Int))
set_option maxHeartbeats 1000000 in
theorem ints_yes {w : World} {v v' : Value} {L : List Nat} (h : IntsAt w v L) (h' : IntsAt w v' L) (hl : L.length ≤ 4096) :
    Calls Try.prog 39 #[v, v'] w fun e w' => e = .returned (.bool true) ∧ ∃ m, w' = w.drewN m := by
  obtain ⟨A, cap, rfl, hA⟩ := h
  obtain ⟨A', cap', rfl, hA'⟩ := h'
  have HA := hid hA
  have HA' := hid hA'
  clear hA hA'
  go_enter Try.func39, Try.ntmps39
  go_wp2
  go_loopw [5] (fun c wr => ∃ k n : Nat, k ≤ L.length ∧ c = .int .i64 (k : Int) ∧ wr = w.drewN n) (fun c _ => L.length - (intOf c).toNat)
  case atStart => exact ⟨0, 0, by omega, rfl, rfl⟩
  case round =>
    obtain ⟨k, n, hk, rfl, rfl⟩ := hrel
    by_cases hlt : k < L.length
    · obtain ⟨g, rfl, c0⟩ := HA.out k hlt
      obtain ⟨g', rfl, d0⟩ := HA'.out k hlt
      clear HA HA'
      go_wp2
      go_quiet (fail)
      go_wp2
      go_roundw
      case rel => exact ⟨k + 1, _, by omega, by go_num, rfl⟩
      case measure => simp [intOf]; omega
    · obtain rfl : k = L.length := by omega
      go_wp2
      go_ret
      exact ⟨rfl, _, rfl⟩
theorem great_no (A : Option Addr) (n c : Nat) (w : World) (hn : n ≤ 80) :
    Calls Try.prog 13 #[.slice A n c] w fun e w' => e = .returned (.bool false) ∧ ∃ m, w' = w.drewN m := by
  have h : decide (80 < (n : Int)) = false := decide_eq_false (by omega)
  go_enter Try.func13, Try.ntmps13
  go_wp2
  go_ret
  exact ⟨rfl, 0, rfl⟩
theorem great_yes (A : Option Addr) (n c : Nat) (w : World) (hn : 80 < n) :
    Calls Try.prog 13 #[.slice A n c] w fun e w' => e = .returned (.bool true) ∧ ∃ m, w' = w.drewN m := by
  have h : decide (80 < (n : Int)) = true := decide_eq_true (by omega)
  go_enter Try.func13, Try.ntmps13
  go_wp2
  go_ret
  exact ⟨rfl, 0, rfl⟩
end Go.Proofs.Ythhgcjbmnkdgjaa
