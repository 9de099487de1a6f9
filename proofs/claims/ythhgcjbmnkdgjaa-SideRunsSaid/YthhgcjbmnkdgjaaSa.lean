/-
  Plain mathematics of runs: what they cover, how they lie, how many entries they have; the counts of all values. No condition but those stated.
-/
import Derived.Test.YthhgcjbmnkdgjaaN
namespace Go.Proofs.Ythhgcjbmnkdgjaa
set_option linter.unusedVariables false
set_option linter.unusedSimpArgs false

def cov (rs : List (Nat × Nat)) (j : Nat) : Bool := rs.any fun r => decide (r.1 ≤ j ∧ j < r.1 + r.2)
def sizes : List (Nat × Nat) → Nat
  | [] => 0
  | r :: rs => r.2 + sizes rs
theorem sizes_append (a b : List (Nat × Nat)) : sizes (a ++ b) = sizes a + sizes b := by
  induction a with
  | nil => simp [sizes]
  | cons r a ih => simp [sizes, ih]; omega
theorem cov_append (a b : List (Nat × Nat)) (j : Nat) : cov (a ++ b) j = (cov a j || cov b j) := by simp [cov]
theorem cov_one (s z j : Nat) : cov [(s, z)] j = decide (s ≤ j ∧ j < s + z) := by simp [cov]
def Sep (rs : List (Nat × Nat)) : Prop := ∀ i r r', rs[i]? = some r → rs[i + 1]? = some r' → r.1 + r.2 < r'.1
theorem Sep.change {a : List (Nat × Nat)} {s z z' : Nat} (h : Sep (a ++ [(s, z)])) : Sep (a ++ [(s, z')]) := by
  intro i r r' h1 h2
  have hi : i + 1 < a.length + 1 := by
    have := (List.getElem?_eq_some_iff.1 h2).1
    simpa using this
  have h1' : a[i]? = some r := by rw [List.getElem?_append_left (by omega)] at h1; exact h1
  by_cases hl : i + 1 < a.length
  · rw [List.getElem?_append_left hl] at h2
    exact h i r r' (by rw [List.getElem?_append_left (by omega)]; exact h1') (by rw [List.getElem?_append_left hl]; exact h2)
  · have e : i + 1 = a.length := by omega
    rw [e, List.getElem?_append_right (Nat.le_refl _), Nat.sub_self] at h2
    injection h2 with h2
    subst h2
    exact h i r (s, z) (by rw [List.getElem?_append_left (by omega)]; exact h1') (by rw [e, List.getElem?_append_right (Nat.le_refl _), Nat.sub_self]; rfl)
theorem Sep.snoc {a : List (Nat × Nat)} {s z s' z' : Nat} (h : Sep (a ++ [(s, z)])) (hl : s + z < s') : Sep (a ++ [(s, z)] ++ [(s', z')]) := by
  intro i r r' h1 h2
  have hi : i + 1 < a.length + 1 + 1 := by
    have := (List.getElem?_eq_some_iff.1 h2).1
    simpa using this
  rw [List.getElem?_append_left (by simp; omega)] at h1
  by_cases hl2 : i + 1 < (a ++ [(s, z)]).length
  · rw [List.getElem?_append_left hl2] at h2
    exact h i r r' h1 h2
  · have e : i + 1 = (a ++ [(s, z)]).length := by simp at hl2 ⊢; omega
    rw [e, List.getElem?_append_right (Nat.le_refl _), Nat.sub_self] at h2
    injection h2 with h2
    subst h2
    have e2 : i = a.length := by simp at e; omega
    rw [e2, List.getElem?_append_right (Nat.le_refl _), Nat.sub_self] at h1
    injection h1 with h1
    subst h1
    exact hl
theorem Sep.one (s z : Nat) : Sep [(s, z)] := by
  intro i r r' h1 h2
  simp at h2
theorem runs_facts (p : Nat → Bool) (n : Nat) : Sep (runsN p n) ∧ (∀ j, cov (runsN p n) j = (decide (j < n) && p j)) ∧ sizes (runsN p n) = cntN p n := by
  induction n with
  | zero => exact ⟨by intro i r r' h1; simp [runsN] at h1, by intro j; simp [runsN, cov], rfl⟩
  | succ n ih =>
    obtain ⟨h1, h2, h3⟩ := ih
    have hok := runsN_ok p n
    rcases hp : p n
    · rw [runsN_no hp, cntN_no hp]
      refine ⟨h1, fun j => ?_, h3⟩
      rw [h2]
      by_cases hj : j = n
      · subst hj; simp [hp]
      · have : decide (j < n) = decide (j < n + 1) := by rw [decide_eq_decide]; omega
        rw [this]
    · rw [runsN_yes hp, cntN_yes hp]
      rcases last_cases (runsN p n) with h | ⟨a, s, z, h⟩
      · rw [h] at h2 h3 ⊢
        rw [ext_nil]
        refine ⟨Sep.one _ _, fun j => ?_, by simp [sizes] at h3 ⊢; omega⟩
        rw [cov_one]
        have := h2 j
        simp [cov] at this
        by_cases hj : j = n
        · subst hj; simp [hp]
        · by_cases hj2 : j < n
          · have hpj := this hj2
            have e1 : decide (n ≤ j ∧ j < n + 1) = false := decide_eq_false (by omega)
            rw [e1, hpj]; simp
          · have e1 : decide (n ≤ j ∧ j < n + 1) = false := decide_eq_false (by omega)
            have e2 : decide (j < n + 1) = false := decide_eq_false (by omega)
            rw [e1, e2]; simp
      · have hsz := (hok.2.1 (s, z) (by rw [h]; simp)).1
        simp only at hsz
        rw [h] at h1 h2 h3 ⊢
        by_cases hs : s + z = n
        · rw [ext_join hs]
          refine ⟨h1.change, fun j => ?_, by rw [sizes_append] at h3 ⊢; simp [sizes] at h3 ⊢; omega⟩
          have := h2 j
          rw [cov_append, cov_one] at this ⊢
          by_cases hj : j = n
          · subst hj
            have e1 : decide (s ≤ j ∧ j < s + (z + 1)) = true := decide_eq_true (by omega)
            rw [e1, hp]; simp
          · have e1 : decide (s ≤ j ∧ j < s + (z + 1)) = decide (s ≤ j ∧ j < s + z) := by rw [decide_eq_decide]; omega
            have e2 : decide (j < n + 1) = decide (j < n) := by rw [decide_eq_decide]; omega
            rw [e1, e2, this]
        · rw [ext_new hs]
          refine ⟨h1.snoc (by omega), fun j => ?_, by rw [sizes_append]; simp [sizes] at h3 ⊢; omega⟩
          have := h2 j
          rw [cov_append, cov_one, this]
          by_cases hj : j = n
          · subst hj
            have e1 : decide (j ≤ j ∧ j < j + 1) = true := decide_eq_true (by omega)
            rw [e1, hp]; simp
          · have e1 : decide (n ≤ j ∧ j < n + 1) = false := decide_eq_false (by omega)
            have e2 : decide (j < n + 1) = decide (j < n) := by rw [decide_eq_decide]; omega
            rw [e1, e2]; simp

/-- The counts of all values below some one. -/
def allN (L : List Nat) : Nat → Nat
  | 0 => 0
  | u + 1 => allN L u + cntN (isV L (u : Int)) L.length
theorem cnt_below (L : List Nat) (u n : Nat) : cntN (fun k => decide (ent L k < u)) n + cntN (isV L (u : Int)) n = cntN (fun k => decide (ent L k < u + 1)) n := by
  induction n with
  | zero => rfl
  | succ n ih =>
    have e : isV L (u : Int) n = decide (ent L n = u) := by unfold isV; rw [decide_eq_decide]; omega
    have c : ∀ (q : Nat → Bool) (b : Bool), q n = b → cntN q (n + 1) = cntN q n + (if b = true then 1 else 0) := fun q b h => by subst h; rfl
    rcases Nat.lt_trichotomy (ent L n) u with h | h | h
    · rw [c _ true (decide_eq_true h), c _ false (by rw [e]; exact decide_eq_false (by omega)), c _ true (decide_eq_true (by omega))]; simp; omega
    · rw [c _ false (decide_eq_false (by omega)), c _ true (by rw [e]; exact decide_eq_true h), c _ true (decide_eq_true (by omega))]; simp; omega
    · rw [c _ false (decide_eq_false (by omega)), c _ false (by rw [e]; exact decide_eq_false (by omega)), c _ false (decide_eq_false (by omega))]; simp; omega
theorem allN_eq (L : List Nat) (u : Nat) : allN L u = cntN (fun k => decide (ent L k < u)) L.length := by
  induction u with
  | zero =>
    have : ∀ n, cntN (fun k => decide (ent L k < 0)) n = 0 := fun n => by
      induction n with
      | zero => rfl
      | succ n ih => rw [cntN_no (decide_eq_false (by omega)), ih]
    rw [this]; rfl
  | succ u ih => rw [allN, ih, cnt_below]
theorem cnt_true {p : Nat → Bool} {n : Nat} (h : ∀ i, p i = true) : cntN p n = n := by
  induction n with
  | zero => rfl
  | succ n ih => simp [cntN, h, ih]
theorem allN_all {L : List Nat} (h : ∀ k, ent L k < 256) : allN L 256 = L.length := by
  rw [allN_eq, cnt_true fun i => decide_eq_true (h i)]
theorem allN_le {L : List Nat} (u : Nat) : allN L u ≤ L.length := by
  rw [allN_eq]
  exact cntN_le _ _
end Go.Proofs.Ythhgcjbmnkdgjaa
