/-
  The contracts of the law's Same over a table and the reference's that read alike, or two that are nil, and of the law's alive. Conditions: those that stand in each theorem.
-/
import Derived.Test.YthhgcjbmnkdgjaaW
namespace Go.Proofs.Ythhgcjbmnkdgjaa
set_option linter.unusedVariables false
set_option linter.unusedSimpArgs false
open Go.RowKit

section
variable {w W W' : World} {g h g' h' wd : Nat} {L : List Nat}
theorem un_nil (W : World) : Unmade W (.pointer none) := .inl rfl
set_option maxHeartbeats 1000000 in
theorem lawSame_any (B : Both w g h g' h' wd L) :
    Calls Try.prog 22 #[.pointer (some ⟨g, 0, none⟩), .pointer (some ⟨g', 0, none⟩)] w (TrueP w) := by
  have HT := hid B.1
  have HR := hid B.2
  have hl := B.1.le
  have e1 : (((L.length : Nat) : Int) != ((L.length : Nat) : Int)) = false := bne_self_eq_false _
  have e2 : (((wd : Nat) : Int) != ((wd : Nat) : Int)) = false := bne_self_eq_false _
  clear B
  go_enter Try.func22, Try.ntmps22
  go_wp2_with (first | (go_at_call 25; refine (entries_any HT.out).mono ?_; rintro e w' ⟨rfl, n1, rfl⟩) | (go_at_call 55; refine (r_entries (HR.out.drewN _)).mono ?_; rintro e w' ⟨rfl, n2, rfl⟩) | (go_at_call 26; refine (width_any (w := w.drewN _) HT.out).mono ?_; rintro e w' ⟨rfl, n3, rfl⟩) | (go_at_call 56; refine (r_width (HR.out.drewN _)).mono ?_; rintro e w' ⟨rfl, n4, rfl⟩))
  go_loopw [5] (fun c wr => ∃ (q : Int) (n : Nat), -1 ≤ q ∧ q ≤ (L.length : Int) + 1 ∧ c = .int .i64 q ∧ wr = w.drewN n) (fun c _ => ((L.length : Int) + 1 - intOf c).toNat)
  case atStart => exact ⟨-1, _, by omega, by omega, rfl, rfl⟩
  case round =>
    obtain ⟨q, n, hq1, hq2, rfl, rfl⟩ := hrel
    by_cases hlt : q ≤ (L.length : Int)
    · have e3 : (getS L q != getS L q) = false := bne_self_eq_false _
      go_wp2_with (first | (go_at_call 55; refine (r_entries (HR.out.drewN _)).mono ?_; rintro e w' ⟨rfl, n5, rfl⟩) | (go_at_call 24; refine (get_any (w := w.drewN _) HT.out _).mono ?_; rintro e w' ⟨rfl, n6, rfl⟩) | (go_at_call 57; refine (r_get (HR.out.drewN _) _).mono ?_; rintro e w' ⟨rfl, n7, rfl⟩))
      go_roundw
      case rel => exact ⟨q + 1, _, by omega, by omega, rfl, rfl⟩
      case measure => simp [intOf]; omega
    · go_wp2_with (first | (go_at_call 55; refine (r_entries (HR.out.drewN _)).mono ?_; rintro e w' ⟨rfl, n5, rfl⟩))
      go_ret
      exact ⟨rfl, (Kp.refl [] w).drewN _⟩
set_option maxHeartbeats 1000000 in
theorem lawSame_nil (w : World) :
    Calls Try.prog 22 #[.pointer none, .pointer none] w (TrueP w) := by
  have HU : Hid (∀ n, Unmade (w.drewN n) (.pointer none)) := fun n => .inl rfl
  go_enter Try.func22, Try.ntmps22
  go_wp2_with (first | (go_at_call 25; refine (entries_un (HU.out 0)).mono ?_; rintro e w' ⟨rfl, n1, rfl⟩) | (go_at_call 55; refine (r_entries_nil _).mono ?_; rintro e w' ⟨rfl, n2, rfl⟩) | (go_at_call 26; refine (width_un (HU.out _)).mono ?_; rintro e w' ⟨rfl, n3, rfl⟩) | (go_at_call 56; refine (r_width_nil _).mono ?_; rintro e w' ⟨rfl, n4, rfl⟩))
  go_loopw [5] (fun c wr => ∃ (q : Int) (n : Nat), -1 ≤ q ∧ q ≤ 1 ∧ c = .int .i64 q ∧ wr = w.drewN n) (fun c _ => (1 - intOf c).toNat)
  case atStart => exact ⟨-1, _, by omega, by omega, rfl, rfl⟩
  case round =>
    obtain ⟨q, n, hq1, hq2, rfl, rfl⟩ := hrel
    by_cases hlt : q ≤ 0
    · go_wp2_with (first | (go_at_call 55; refine (r_entries_nil _).mono ?_; rintro e w' ⟨rfl, n5, rfl⟩) | (go_at_call 24; refine (get_un (HU.out _) _).mono ?_; rintro e w' ⟨rfl, n6, rfl⟩) | (go_at_call 57; refine (r_get_nil _ _).mono ?_; rintro e w' ⟨rfl, n7, rfl⟩))
      go_roundw
      case rel => exact ⟨q + 1, _, by omega, by omega, rfl, rfl⟩
      case measure => simp [intOf]; omega
    · go_wp2_with (first | (go_at_call 55; refine (r_entries_nil _).mono ?_; rintro e w' ⟨rfl, n5, rfl⟩))
      go_ret
      exact ⟨rfl, (Kp.refl [] w).drewN _⟩

def al0 : List Nat := [0, 0, 0, 0, 0, 0, 0, 0, 0, 0]
def al1 : List Nat := [0, 0, 0, 2, 0, 0, 0, 0, 0, 0]
def al2 : List Nat := [0, 0, 0, 2, 2, 2, 2, 0, 0, 0]
def al3 : List Nat := [0, 0, 0, 3, 2, 2, 2, 0, 0, 0]
def al4 : List Nat := [0, 0, 0, 3, 0, 2, 2, 0, 0, 0]
theorem al_new (w : World) : Calls Try.prog 15 #[.int .i64 10, .int .i64 2] w fun e w' => e = .returned (.tuple #[.pointer (some ⟨w.heap.size + 1, 0, none⟩), .int .i64 0]) ∧ STab w' (w.heap.size + 1) w.heap.size 2 al0 ∧ Kp [] w w' :=
  new_ok 10 2 w (by omega) (by omega) (by unfold Wd; omega)
theorem al_set (T : STab w g h 2 al0) : Calls Try.prog 31 #[.pointer (some ⟨g, 0, none⟩), .int .i64 3, .int .i64 2] w fun e w' => e = .returned (.int .i64 0) ∧ STab w' g h 2 al1 ∧ Kp [h] w w' := by
  have H := set_any T 3 2
  rw [show setE 2 al0 3 2 = 0 by decide, show setL 2 al0 3 2 = al1 by decide] at H
  exact H
theorem al_fill (T : STab w g h 2 al1) : Calls Try.prog 32 #[.pointer (some ⟨g, 0, none⟩), .int .i64 4, .int .i64 3, .int .i64 2] w fun e w' => e = .returned (.int .i64 0) ∧ STab w' g h 2 al2 ∧ Kp [h] w w' := by
  have H := fill_any T 4 3 2
  rw [show fillE 2 al1 4 3 2 = 0 by decide, show fillL 2 al1 4 3 2 = al2 by decide] at H
  exact H
theorem al_runs (T : STab w g h 2 al2) : Calls Try.prog 33 #[.pointer (some ⟨g, 0, none⟩), .int .i64 2] w (Grows w.heap.size w [(3, 4)]) := by
  have H := runs_any T 2
  rw [show runsN (isV al2 2) al2.length = [(3, 4)] by decide] at H
  exact H
theorem al_next (T : STab w g h 2 al2) : Calls Try.prog 35 #[.pointer (some ⟨g, 0, none⟩), .int .i64 0, .int .i64 2] w fun e w' => e = .returned (.tuple #[.int .i64 3, .int .i64 0]) ∧ ∃ m, w' = w.drewN m := by
  have H := next_any T 0 2
  rw [show nextV al2 0 2 = 3 by decide, show nextE al2 0 2 = 0 by decide] at H
  exact H
theorem al_last (T : STab w g h 2 al2) : Calls Try.prog 36 #[.pointer (some ⟨g, 0, none⟩), .int .i64 10, .int .i64 2] w fun e w' => e = .returned (.tuple #[.int .i64 6, .int .i64 0]) ∧ ∃ m, w' = w.drewN m := by
  have H := last_any T 10 2
  rw [show lastV al2 10 2 = 6 by decide, show lastE al2 10 2 = 0 by decide] at H
  exact H
theorem al_add5 (T : STab w g h 2 al2) : Calls Try.prog 37 #[.pointer (some ⟨g, 0, none⟩), .int .i64 3, .int .i64 5] w fun e w' => e = .returned (.tuple #[.int .i64 3, .int .i64 0]) ∧ STab w' g h 2 al3 ∧ Kp [h] w w' := by
  have H := add_any T 3 5
  rw [show addV 2 al2 3 5 = 3 by decide, show addE al2 3 5 = 0 by decide, show addL 2 al2 3 5 = al3 by decide] at H
  exact H
theorem al_add1 (T : STab w g h 2 al3) : Calls Try.prog 37 #[.pointer (some ⟨g, 0, none⟩), .int .i64 3, .int .i64 (-1)] w fun e w' => e = .returned (.tuple #[.int .i64 3, .int .i64 0]) ∧ STab w' g h 2 al3 ∧ Kp [h] w w' := by
  have H := add_any T 3 (-1)
  rw [show addV 2 al3 3 (-1) = 3 by decide, show addE al3 3 (-1) = 0 by decide, show addL 2 al3 3 (-1) = al3 by decide] at H
  exact H
theorem al_swap1 (T : STab w g h 2 al3) : Calls Try.prog 38 #[.pointer (some ⟨g, 0, none⟩), .int .i64 4, .int .i64 1, .int .i64 0] w fun e w' => e = .returned (.tuple #[.bool false, .int .i64 0]) ∧ STab w' g h 2 al3 ∧ Kp [h] w w' := by
  have H := swap_any T 4 1 0
  rw [show swapB 2 al3 4 1 0 = false by decide, show swapE 2 al3 4 1 0 = 0 by decide, show swapL 2 al3 4 1 0 = al3 by decide] at H
  exact H
theorem al_swap2 (T : STab w g h 2 al3) : Calls Try.prog 38 #[.pointer (some ⟨g, 0, none⟩), .int .i64 4, .int .i64 2, .int .i64 0] w fun e w' => e = .returned (.tuple #[.bool true, .int .i64 0]) ∧ STab w' g h 2 al4 ∧ Kp [h] w w' := by
  have H := swap_any T 4 2 0
  rw [show swapB 2 al3 4 2 0 = true by decide, show swapE 2 al3 4 2 0 = 0 by decide, show swapL 2 al3 4 2 0 = al4 by decide] at H
  exact H
theorem al_count (T : STab w g h 2 al4) : Calls Try.prog 34 #[.pointer (some ⟨g, 0, none⟩), .int .i64 0] w fun e w' => e = .returned (.int .i64 7) ∧ ∃ m, w' = w.drewN m := by
  have H := count_any T 0
  rw [show ((cntN (isV al4 0) al4.length : Nat) : Int) = 7 by decide] at H
  exact H
end
end Go.Proofs.Ythhgcjbmnkdgjaa
