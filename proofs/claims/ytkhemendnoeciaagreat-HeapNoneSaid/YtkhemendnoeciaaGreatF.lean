/-
  The contracts of package side's Next and Last. Conditions: those that stand in each theorem.
-/
import Derived.Test.YtkhemendnoeciaaGreatC
namespace Go.Proofs.YtkhemendnoeciaaGreat
set_option linter.unusedVariables false
set_option linter.unusedSimpArgs false
open Go.RowKit

section
variable {g h wd : Nat} {L : List Nat} {w : World}
theorem last_any (T : STab w g h wd L) (a v : Int) :
    Calls Tryz.prog 138 #[.pointer (some ⟨g, 0, none⟩), .int .i64 a, .int .i64 v] w fun e w' => e = .returned (.tuple #[.int .i64 (lastV L a v), .int .i64 (lastE L a v)]) ∧ ∃ m, w' = w.drewN m := by
  have hc := T.cell0
  have hle := T.le
  have h3 : a < 0 ∨ (0 ≤ a ∧ a ≤ (L.length : Int)) ∨ (L.length : Int) < a := by omega
  rcases h3 with h0 | ⟨h0, h1⟩ | h0
  all_goals
    go_enter Tryz.func138, Tryz.ntmps138
    go_wp2_with (first | (go_at_call 107; refine (made_yes T).mono ?_; rintro e w' ⟨rfl, n1, rfl⟩))
    go_loopw [8] (fun c wr => ∃ (k n : Nat) (q : Int), Hid (∀ j : Nat, k ≤ j → j < L.length → lastP L a v j = false) ∧ k ≤ L.length ∧ (k = 0 ∨ (k : Int) ≤ a) ∧ q + 1 = (k : Int) ∧ c = .int .i64 q ∧ wr = w.drewN n) (fun c _ => (intOf c + 1).toNat)
    case atStart => first
      | exact ⟨0, _, -1, (fun j hj _ => by unfold lastP; rw [decide_eq_false (by omega)]; rfl), by omega, by omega, by omega, rfl, rfl⟩
      | exact ⟨a.toNat, _, a - 1, (fun j hj _ => by unfold lastP; rw [decide_eq_false (by omega)]; rfl), by omega, by omega, by omega, rfl, rfl⟩
      | exact ⟨L.length, _, (L.length : Int) - 1, (fun j hj hj2 => absurd hj2 (by omega)), by omega, by omega, by omega, rfl, rfl⟩
    case round =>
      obtain ⟨k, n, q, HN, hkl, hka, hq, rfl, rfl⟩ := hrel
      rcases k with _ | k
      · obtain rfl : q = -1 := by omega
        have e : lastN (lastP L a v) L.length = none := lastN_none fun j hj => HN.out j (by omega) hj
        have e1 : lastV L a v = 0 := by unfold lastV; rw [e]; rfl
        have e2 : lastE L a v = 4 := by unfold lastE; rw [e]; rfl
        have E1 := hid e1
        have E2 := hid e2
        clear e e1 e2 hq
        go_wp2
        go_ret2
        rw [E1.out, E2.out]
        exact ⟨rfl, _, rfl⟩
      · obtain rfl : q = (k : Int) := by omega
        have hlt : k < L.length := by omega
        clear hq
        by_cases hv : ((ent L k : Nat) : Int) = v
        · have e : lastN (lastP L a v) L.length = some k := lastN_some hlt (by unfold lastP; rw [decide_eq_true (by omega), decide_eq_true hv]; rfl) (fun j h1 h2 => HN.out j (by omega) h2)
          have e1 : lastV L a v = (k : Int) := by unfold lastV; rw [e]; rfl
          have e2 : lastE L a v = 0 := by unfold lastE; rw [e]; rfl
          have E1 := hid e1
          have E2 := hid e2
          have hv' : (((ent L k : Nat) : Int) == v) = true := by rw [hv]; exact beq_self_eq_true _
          clear e e1 e2 hv hka
          go_wp2_with (go_at_call 130; refine (load_ok (w := w.drewN _) T k hlt).mono ?_; rintro e w' ⟨rfl, n5, rfl⟩)
          go_ret2
          rw [E1.out, E2.out]
          exact ⟨rfl, _, rfl⟩
        · have hv' : (((ent L k : Nat) : Int) == v) = false := beq_eq_false_iff_ne.2 hv
          have HN' : Hid (∀ j : Nat, k ≤ j → j < L.length → lastP L a v j = false) := fun j hj hj2 => by
            by_cases hj' : k + 1 ≤ j
            · exact HN.out j hj' hj2
            · obtain rfl : j = k := by omega
              unfold lastP
              rw [decide_eq_false hv, Bool.and_false]
          have HA := hid hka
          clear hv hka
          go_wp2_with (go_at_call 130; refine (load_ok (w := w.drewN _) T k hlt).mono ?_; rintro e w' ⟨rfl, n5, rfl⟩)
          go_roundw
          case rel => exact ⟨k, _, (k : Int) - 1, HN', by omega, by have := HA.out; omega, by omega, rfl, rfl⟩
          case measure => simp [intOf]
end
end Go.Proofs.YtkhemendnoeciaaGreat
