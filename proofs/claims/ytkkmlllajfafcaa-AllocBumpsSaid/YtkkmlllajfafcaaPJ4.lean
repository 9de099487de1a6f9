/-
  The law AllocBumps, walked. Conditions: those that stand in each theorem.
-/
import Derived.Test.YtkkmlllajfafcaaPJ3
namespace Go.Proofs.Ytkkmlllajfafcaa
set_option linter.unusedVariables false
set_option linter.unusedSimpArgs false
open Go.RowKit Go.Deep Go.Maps

section
variable {w W V : World} {b : HB} {m : HM} {q g : Nat} {A : AS}
theorem LV.words (u : LV w W b q m g A) (x d k : Int) :
    Calls Try.prog 13 #[.agg #[.int .i64 x, .int .i64 d, .int .i64 k]] W fun e w' => e = .returned (.int .i64 (wordsI x d k)) ∧ LV w w' b q m g A := by
  refine (h_words x d k W).mono ?_
  rintro e w' ⟨rfl, K⟩
  exact ⟨rfl, u.sh.k0 K, u.kp.chain K, u.hb, u.al.kp K (by simp), u.hg, u.gb, u.ok⟩
def TrueQ (w : World) (e : Ending) (w' : World) : Prop := e = .returned (.bool true) ∧ Below w.heap.size w w'
theorem trueQ_alive (K : Kp [] w W) : Calls Try.prog 11 #[] W fun e w' => e = .returned (.bool true) ∧ Kp [] w w' := by
  refine (al_alive W).mono ?_
  rintro e w' ⟨rfl, K2⟩
  exact ⟨rfl, K.chain K2⟩
theorem few_k (n : Int) (W : World) {p : Bool} (hp : Hid ((decide (n ≤ 12) || decide (64 < n)) = p)) :
    Calls Try.prog 12 #[.int .i64 n] W fun e w' => e = .returned (.bool p) ∧ Kp [] W w' := by
  rw [← hp.out]
  by_cases h1 : n ≤ 12
  · have t1 : decide (n ≤ 12) = true := decide_eq_true h1
    clear hp
    go_enter Try.func12, Try.ntmps12
    go_wp2
    go_ret
    exact ⟨by simp [h1], Kp.refl _ _⟩
  · have t1 : decide (n ≤ 12) = false := decide_eq_false h1
    by_cases h2 : 64 < n
    · have t2 : decide (64 < n) = true := decide_eq_true h2
      clear hp
      go_enter Try.func12, Try.ntmps12
      go_wp2
      go_ret
      exact ⟨by simp [h1, h2], Kp.refl _ _⟩
    · have t2 : decide (64 < n) = false := decide_eq_false h2
      clear hp
      go_enter Try.func12, Try.ntmps12
      go_wp2
      go_ret
      exact ⟨by simp [h1, h2], Kp.refl _ _⟩
set_option maxHeartbeats 1000000 in
/-- No heap is made, it has too many blocks, or there are too many shapes. -/
theorem bumps_out (n : Int) (v vk : Value) (hv : IsSh w v) (hk : IsBo w vk) (hout : ¬ (2 ≤ n ∧ n ≤ 64) ∨ 12 < n ∨ ∀ A l c, v = .slice A l c → 60 < l) :
    Calls Try.prog 4 #[.int .i64 n, v, vk] w (TrueQ w) := by
  obtain ⟨A, l, cap, rfl, hl, _⟩ := hv
  by_cases h1 : 2 ≤ n ∧ n ≤ 64
  · obtain ⟨k, rfl⟩ : ∃ k : Nat, n = (k : Int) := ⟨n.toNat, by omega⟩
    have HB := hid h1
    by_cases h2 : 12 < (k : Int)
    · have HF : Hid ((decide ((k : Int) ≤ 12) || decide (64 < (k : Int))) = false) := by show _ = _; simp; omega
      clear hout h1 h2
      go_enter Try.func4, Try.ntmps4
      go_wp2_with (first
        | (go_at_call 5; refine (LH.start (w := w) k _ (by have := HB.out; omega) (by have := HB.out; omega) (Kp.refl [] w)).mono ?_; rintro e w1 ⟨b1, rfl, U1⟩)
        | (go_at_call 12; refine (few_k _ _ HF).mono ?_; rintro e w2 ⟨rfl, K2⟩; have HK2 := hid (U1.kp.chain K2); clear K2)
        | (go_at_call 11; refine (trueQ_alive HK2.out).mono ?_; rintro e w3 ⟨rfl, K3⟩; have HK3 := hid K3; clear K3))
      go_ret
      exact ⟨rfl, HK3.out.below (Nat.le_refl _) (by simp)⟩
    · have HF : Hid ((decide ((k : Int) ≤ 12) || decide (64 < (k : Int))) = true) := by show _ = _; simp; omega
      have h3 : 60 < l := by
        rcases hout with h | h | h
        · exact absurd h1 h
        · exact absurd h h2
        · exact h _ _ _ rfl
      have t3 : decide ((60 : Int) < (l : Int)) = true := decide_eq_true (by omega)
      clear hout h1 h2
      go_enter Try.func4, Try.ntmps4
      go_wp2_with (first
        | (go_at_call 5; refine (LH.start (w := w) k _ (by have := HB.out; omega) (by have := HB.out; omega) (Kp.refl [] w)).mono ?_; rintro e w1 ⟨b1, rfl, U1⟩)
        | (go_at_call 12; refine (few_k _ _ HF).mono ?_; rintro e w2 ⟨rfl, K2⟩; have HK2 := hid (U1.kp.chain K2); clear K2)
        | (go_at_call 11; refine (trueQ_alive HK2.out).mono ?_; rintro e w3 ⟨rfl, K3⟩; have HK3 := hid K3; clear K3))
      go_ret
      exact ⟨rfl, HK3.out.below (Nat.le_refl _) (by simp)⟩
  · clear hout
    go_enter Try.func4, Try.ntmps4
    go_wp2_with (first
      | (go_at_call 5; refine (h_new_bad n _ h1).mono ?_; rintro e w1 ⟨rfl, n1, rfl⟩)
      | (go_at_call 11; refine (trueQ_alive (Kp.draw w _)).mono ?_; rintro e w3 ⟨rfl, K3⟩; have HK3 := hid K3; clear K3))
    go_ret
    exact ⟨rfl, HK3.out.below (Nat.le_refl _) (by simp)⟩
end
end Go.Proofs.Ytkkmlllajfafcaa
