/-
  The law AllocBumps, for every input. Conditions: those that stand in the theorem.
-/
import Derived.Test.YtkkmlllajfafcaaPJ5
namespace Go.Proofs.Ytkkmlllajfafcaa
set_option linter.unusedVariables false
set_option linter.unusedSimpArgs false
open Go.RowKit Go.Deep Go.Maps

theorem bumps_ok {w : World} (n : Int) (v vk : Value) (hv : IsSh w v) (hk : IsBo w vk) :
    Calls Try.prog 4 #[.int .i64 n, v, vk] w (TrueQ w) := by
  by_cases h1 : 2 ≤ n ∧ n ≤ 64
  · by_cases h2 : 12 < n
    · exact bumps_out n v vk hv hk (.inr (.inl h2))
    · obtain ⟨A, l, cap, rfl, hl, hc⟩ := hv
      by_cases h3 : 60 < l
      · exact bumps_out n _ vk ⟨A, l, cap, rfl, hl, hc⟩ hk (.inr (.inr (fun A' l' c' e => by injection e with _ e2 _; omega)))
      · obtain ⟨k, rfl⟩ : ∃ k : Nat, n = (k : Int) := ⟨n.toNat, by omega⟩
        exact bumps_main k _ vk ⟨A, l, cap, rfl, hl, hc⟩ hk (by omega) (by omega) (fun A' l' c' e => by injection e with _ e2 _; omega)
  · exact bumps_out n v vk hv hk (.inl h1)
end Go.Proofs.Ytkkmlllajfafcaa
