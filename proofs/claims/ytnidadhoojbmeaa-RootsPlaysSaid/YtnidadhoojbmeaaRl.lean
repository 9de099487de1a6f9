/-
  The places that filled gives: they are there, they are different, where they lie. Conditions: those that stand in each theorem.
-/
import Derived.Test.YtnidadhoojbmeaaRi
namespace Go.Proofs.Ytnidadhoojbmeaa
set_option linter.unusedVariables false
set_option linter.unusedSimpArgs false
open Go.RowKit Go.Deep Go.Maps Go.Shelf

theorem mem_rowUp {t : RT} {q p : Pl} {i : Nat} (h : p ∈ t.rowUp q i) : p.k = q.k ∧ p.m = q.m ∧ p.i < i ∧ (t.row q).getD p.i 0 ≠ 0 := by
  induction i with
  | zero => cases h
  | succ i ih =>
    rcases List.mem_append.1 (show p ∈ t.rowUp q i ++ (if (t.row q).getD i 0 ≠ 0 then [⟨q.k, q.m, i⟩] else []) from h) with h1 | h1
    · obtain ⟨a, b, c, d⟩ := ih h1; exact ⟨a, b, by omega, d⟩
    · by_cases h0 : (t.row q).getD i 0 ≠ 0
      · rw [if_pos h0] at h1
        obtain rfl := List.mem_singleton.1 h1
        exact ⟨rfl, rfl, Nat.lt_succ_self _, h0⟩
      · rw [if_neg h0] at h1; cases h1
theorem nodup_rowUp (t : RT) (q : Pl) (i : Nat) : (t.rowUp q i).Nodup := by
  induction i with
  | zero => exact List.nodup_nil
  | succ i ih =>
    show (t.rowUp q i ++ (if (t.row q).getD i 0 ≠ 0 then [(⟨q.k, q.m, i⟩ : Pl)] else [])).Nodup
    by_cases h0 : (t.row q).getD i 0 ≠ 0
    · rw [if_pos h0]
      refine List.nodup_append.2 ⟨ih, by simp, fun a ha b hb e => ?_⟩
      obtain rfl := List.mem_singleton.1 hb
      have := (mem_rowUp ha).2.2.1
      rw [e] at this
      exact Nat.lt_irrefl _ this
    · rw [if_neg h0, List.append_nil]; exact ih
theorem firsts_at {t : RT} (j : Nat) (hj : j < t.n + 2) : (firstsL t.n).getD j ⟨0, 0, 0⟩ = (if j < t.n then (⟨0, j, 0⟩ : Pl) else if j = t.n then ⟨1, 0, 0⟩ else ⟨2, 0, 0⟩) := by
  unfold firstsL
  by_cases h1 : j < t.n
  · rw [if_pos h1, List.getD_eq_getElem?_getD, List.getElem?_append_left (by simpa using h1)]
    simp [slotsL, h1]
  · rw [if_neg h1]
    by_cases h2 : j = t.n
    · rw [if_pos h2, List.getD_eq_getElem?_getD, List.getElem?_append_right (by simp; omega), h2]
      simp
    · have h3 : j = t.n + 1 := by omega
      rw [if_neg h2, List.getD_eq_getElem?_getD, List.getElem?_append_right (by simp; omega), h3]
      simp
theorem mem_xsUp {t : RT} {p : Pl} {j : Nat} (h : p ∈ t.xsUp j) : ∃ i, i < j ∧ p ∈ t.rowUp ((firstsL t.n).getD i ⟨0, 0, 0⟩) (t.row ((firstsL t.n).getD i ⟨0, 0, 0⟩)).length := by
  induction j with
  | zero => cases h
  | succ j ih =>
    rcases List.mem_append.1 (show p ∈ t.xsUp j ++ t.rowUp _ _ from h) with h1 | h1
    · obtain ⟨i, a, b⟩ := ih h1; exact ⟨i, by omega, b⟩
    · exact ⟨j, Nat.lt_succ_self _, h1⟩
theorem nodup_xsUp (t : RT) (j : Nat) (hj : j ≤ t.n + 2) : (t.xsUp j).Nodup := by
  induction j with
  | zero => exact List.nodup_nil
  | succ j ih =>
    refine List.nodup_append.2 ⟨ih (by omega), nodup_rowUp _ _ _, fun a ha b hb e => ?_⟩
    subst e
    obtain ⟨i, hi, h1⟩ := mem_xsUp ha
    obtain ⟨k1, m1, _⟩ := mem_rowUp h1
    obtain ⟨k2, m2, _⟩ := mem_rowUp hb
    rw [k1] at k2
    rw [m1] at m2
    rw [firsts_at i (by omega), firsts_at j (by omega)] at k2 m2
    split at k2 <;> split at k2 <;> (try split at k2) <;> (try split at k2) <;> simp_all <;> omega
theorem nodup_xs (t : RT) : t.xs.Nodup := nodup_xsUp t _ (Nat.le_refl _)
theorem mem_xs {t : RT} {p : Pl} (ok : t.Ok) (h : p ∈ t.xs) : t.has (p.k : Int) (p.m : Int) (p.i : Int) = true ∧ t.get (p.k : Int) (p.m : Int) (p.i : Int) ≠ 0 := by
  obtain ⟨j, hj, h1⟩ := mem_xsUp h
  obtain ⟨hk, hm, hi, h0⟩ := mem_rowUp h1
  have hs := ok.sl
  have hg := ok.gl
  have h4 := ok.n4
  rw [firsts_at j hj] at hk hm hi h0
  obtain ⟨k, m, i⟩ := p
  simp only at hk hm hi h0 ⊢
  unfold RT.has RT.get
  split at hk
  · rename_i h2
    simp only [if_pos h2] at hm hi h0
    simp only at hk hm
    subst hk; subst hm
    simp only [RT.row, if_true, List.length_take, List.length_drop] at hi h0
    have hi16 : i < 16 := by omega
    rw [List.getD_eq_getElem?_getD, List.getElem?_take_of_lt hi16, List.getElem?_drop] at h0
    exact ⟨decide_eq_true (.inl ⟨rfl, by omega, by omega, by omega, by omega⟩), by simpa [List.getD_eq_getElem?_getD] using h0⟩
  · rename_i h2
    simp only [if_neg h2] at hm hi h0
    split at hk
    · rename_i h3
      simp only [if_pos h3] at hm hi h0
      simp only at hk hm
      subst hk; subst hm
      simp only [RT.row, Nat.one_ne_zero, if_false, if_true] at hi h0
      exact ⟨decide_eq_true (.inr (.inl ⟨rfl, rfl, by omega, by omega⟩)), by simpa using h0⟩
    · rename_i h3
      simp only [if_neg h3] at hm hi h0
      simp only at hk hm
      subst hk; subst hm
      simp [RT.row] at hi h0
      exact ⟨decide_eq_true (.inr (.inr ⟨rfl, rfl, by omega, by omega⟩)), by simpa using h0⟩
section
variable {w w' W : World} {b : RB} {t : RT}
theorem spot_adr (R : RR W b t) {p : Pl} (h : t.has (p.k : Int) (p.m : Int) (p.i : Int) = true) : Spot b t (p.k : Int) (p.m : Int) (p.i : Int) (b.adr p) := by
  obtain ⟨k, m, i⟩ := p
  have hn := of_decide_eq_true h
  simp only at hn ⊢
  rcases hn with ⟨h0, h1, h2, h3, h4⟩ | ⟨h0, h1, h3, h4⟩ | ⟨h0, h1, h3, h4⟩
  · obtain rfl : k = 0 := by omega
    exact spot_slot m i (by omega) (by omega) R.ok
  · obtain rfl : k = 1 := by omega
    obtain rfl : m = 0 := by omega
    exact spot_glob i (by omega) R.ok
  · obtain rfl : k = 2 := by omega
    obtain rfl : m = 0 := by omega
    rcases R.q_form with ⟨hv, h0⟩ | ⟨g, c, hv, _⟩
    · rw [h0] at h4; simp at h4; omega
    · have := spot_queue hv i (by omega) R.ok
      simpa [RB.adr, hv] using this
end
end Go.Proofs.Ytnidadhoojbmeaa
