/-
  The contract of the reference's Same, and the walk of the law SideMerges. Conditions: its slices read as calls.
-/
import Derived.Test.YthhgcjbmnkdgjaaU
namespace Go.Proofs.Ythhgcjbmnkdgjaa
set_option linter.unusedVariables false
set_option linter.unusedSimpArgs false
open Go.RowKit Go.Deep

section
variable {w W W' : World} {g h g' h' wd wd' : Nat} {L L' : List Nat}
set_option maxRecDepth 100000 in
set_option maxHeartbeats 1000000 in
theorem r_same_wd (T : RTab w g h wd L) (T' : RTab w g' h' wd' L') (hw : wd ≠ wd') :
    Calls Try.prog 29 #[.pointer (some ⟨g, 0, none⟩), .pointer (some ⟨g', 0, none⟩)] w fun e w' => e = .returned (.bool false) ∧ ∃ m, w' = w.drewN m := by
  obtain ⟨c, c2⟩ := T.cell2
  obtain ⟨c', d2⟩ := T'.cell2
  have c0 := T.cell0
  have d0 := T'.cell0
  have g2 : (((wd : Nat) : Int) != ((wd' : Nat) : Int)) = true := bne_iff_ne.2 (by omega)
  generalize L.length = n at *
  generalize L'.length = n' at *
  clear hw
  go_enter Try.func29, Try.ntmps29
  go_wp2_with (fail)
  go_quiet ((first | (go_at_call 44; exact Calls.quiet_of (r_made (w := w.drewN _) T)) | (go_at_call 44; exact Calls.quiet_of (r_made (w := w.drewN _) T'))))
  go_wp2
  go_ret
  exact ⟨rfl, _, rfl⟩
set_option maxRecDepth 100000 in
set_option maxHeartbeats 1000000 in
theorem r_same_len (T : RTab w g h wd L) (T' : RTab w g' h' wd L') (hl : L.length ≠ L'.length) :
    Calls Try.prog 29 #[.pointer (some ⟨g, 0, none⟩), .pointer (some ⟨g', 0, none⟩)] w fun e w' => e = .returned (.bool false) ∧ ∃ m, w' = w.drewN m := by
  obtain ⟨c, c2⟩ := T.cell2
  obtain ⟨c', d2⟩ := T'.cell2
  have c0 := T.cell0
  have d0 := T'.cell0
  have g2 : (((L.length : Nat) : Int) != ((L'.length : Nat) : Int)) = true := bne_iff_ne.2 (by omega)
  generalize L.length = n at *
  generalize L'.length = n' at *
  clear hl
  go_enter Try.func29, Try.ntmps29
  go_wp2_with (fail)
  go_quiet ((first | (go_at_call 44; exact Calls.quiet_of (r_made (w := w.drewN _) T)) | (go_at_call 44; exact Calls.quiet_of (r_made (w := w.drewN _) T'))))
  go_wp2
  go_ret
  exact ⟨rfl, _, rfl⟩
set_option maxRecDepth 100000 in
set_option maxHeartbeats 1000000 in
theorem r_same_eq (T : RTab w g h wd L) (T' : RTab w g' h' wd L') (hl : L.length = L'.length) :
    Calls Try.prog 29 #[.pointer (some ⟨g, 0, none⟩), .pointer (some ⟨g', 0, none⟩)] w fun e w' => e = .returned (.bool (decide (L = L'))) ∧ ∃ m, w' = w.drewN m := by
  obtain ⟨c, c2⟩ := T.cell2
  obtain ⟨c', d2⟩ := T'.cell2
  rw [← hl] at d2
  have c0 := T.cell0
  have d0 := T'.cell0
  have HL := hid hl
  have hle := T.le
  clear hl
  go_enter Try.func29, Try.ntmps29
  go_wp2_with (fail)
  go_quiet ((first | (go_at_call 44; exact Calls.quiet_of (r_made (w := w.drewN _) T)) | (go_at_call 44; exact Calls.quiet_of (r_made (w := w.drewN _) T'))))
  go_wp2
  go_loopw [5] (fun c wr => ∃ k n : Nat, k ≤ L.length ∧ Hid (∀ j : Nat, j < k → ent L j = ent L' j) ∧ c = .int .i64 (k : Int) ∧ wr = w.drewN n) (fun c _ => L.length - (intOf c).toNat)
  case atStart => exact ⟨0, _, by omega, (fun j hj => absurd hj (by omega)), rfl, rfl⟩
  case round =>
    obtain ⟨k, n, hk, HE, rfl, rfl⟩ := hrel
    by_cases hlt : k < L.length
    · have x0 := T.at_ hlt
      have x1 := T'.at_ (show k < L'.length by have := HL.out; omega)
      by_cases he : ent L k = ent L' k
      · have HE' : Hid (∀ j : Nat, j < k + 1 → ent L j = ent L' j) := fun j hj => by
          by_cases hj' : j < k
          · exact HE.out j hj'
          · obtain rfl : j = k := by omega
            exact he
        rw [he] at x0
        generalize ent L' k = x at x0 x1
        clear he
        go_wp2
        go_quiet (fail)
        go_wp2
        go_roundw
        case rel => exact ⟨k + 1, _, by omega, HE', by go_num, rfl⟩
        case measure => simp [intOf]; omega
      · have e : decide (L = L') = false := decide_eq_false fun hh => he (by rw [hh])
        have E := hid e
        have hne : (((ent L k : Nat) : Int) != ((ent L' k : Nat) : Int)) = true := bne_iff_ne.2 (by omega)
        generalize ent L' k = x at x1 hne
        generalize ent L k = y at x0 hne
        clear he e
        go_wp2
        go_quiet (fail)
        go_wp2
        go_ret
        rw [E.out]
        exact ⟨rfl, n + nq, by simp⟩
    · obtain rfl : k = L.length := by omega
      have E := hid (show decide (L = L') = true from decide_eq_true (list_ext HL.out HE.out))
      go_wp2
      go_ret
      rw [E.out]
      exact ⟨rfl, _, rfl⟩
theorem r_same (T : RTab w g h wd L) (T' : RTab w g' h' wd' L') :
    Calls Try.prog 29 #[.pointer (some ⟨g, 0, none⟩), .pointer (some ⟨g', 0, none⟩)] w fun e w' => e = .returned (.bool (sameB wd L wd' L')) ∧ ∃ m, w' = w.drewN m := by
  by_cases hw : wd = wd'
  · subst hw
    by_cases hl : L.length = L'.length
    · have e : sameB wd L wd L' = decide (L = L') := by unfold sameB; rw [decide_eq_true hl, decide_eq_true rfl]; rfl
      rw [e]
      exact r_same_eq T T' hl
    · have e : sameB wd L wd L' = false := by unfold sameB; rw [decide_eq_false hl]; rfl
      rw [e]
      exact r_same_len T T' hl
  · have e : sameB wd L wd' L' = false := by unfold sameB; rw [decide_eq_false hw, Bool.and_false]; rfl
    rw [e]
    exact r_same_wd T T' hw
set_option maxRecDepth 100000 in
set_option maxHeartbeats 1000000 in
theorem r_same_nil1 (W : World) (v' : Value) : Calls Try.prog 29 #[.pointer none, v'] W fun e w' => e = .returned (.bool false) ∧ ∃ m, w' = W.drewN m := by
  go_enter Try.func29, Try.ntmps29
  go_wp2_with (fail)
  go_quiet ((go_at_call 44; exact Calls.quiet_of (r_made_nil (W.drewN _))))
  go_wp2
  go_ret
  exact ⟨rfl, _, rfl⟩
set_option maxRecDepth 100000 in
set_option maxHeartbeats 1000000 in
theorem r_same_nil2 (T : RTab W g h wd L) : Calls Try.prog 29 #[.pointer (some ⟨g, 0, none⟩), .pointer none] W fun e w' => e = .returned (.bool false) ∧ ∃ m, w' = W.drewN m := by
  go_enter Try.func29, Try.ntmps29
  go_wp2_with (fail)
  go_quiet ((first | (go_at_call_of 44 (Value.pointer none); exact Calls.quiet_of (r_made_nil (W.drewN _))) | (go_at_call 44; exact Calls.quiet_of (r_made (w := W.drewN _) T))))
  go_wp2
  go_ret
  exact ⟨rfl, _, rfl⟩
end
end Go.Proofs.Ythhgcjbmnkdgjaa
