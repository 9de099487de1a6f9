/-
  The contract of the document's roots' Replace. Conditions: those that stand in each theorem.
-/
import Derived.Test.YtnidadhoojbmeaaSj
import Derived.Test.YtnidadhoojbmeaaSe
namespace Go.Proofs.Ytnidadhoojbmeaa
set_option linter.unusedVariables false
set_option linter.unusedSimpArgs false
open Go.RowKit Go.Deep Go.Maps

theorem ris_lt {f : List Int} (h : risB f = true) {i j : Nat} (hij : i < j) (hj : j < f.length) : f.getD i 0 < f.getD j 0 := by
  have h1 := risB_iff.1 h
  have h2 : ∀ d i, i + d + 1 < f.length → f.getD i 0 < f.getD (i + d + 1) 0 := by
    intro d
    induction d with
    | zero => exact fun i hi => h1 i hi
    | succ d ih => exact fun i hi => Int.lt_trans (ih i (by omega)) (h1 (i + d + 1) (by omega))
  have := h2 (j - i - 1) i (by omega)
  rwa [show i + (j - i - 1) + 1 = j by omega] at this
theorem getD_mem_take {f : List Int} {j : Nat} {y : Int} (h : (f.take j).contains y = true) : ∃ i, i < j ∧ i < f.length ∧ f.getD i 0 = y := by
  obtain ⟨i, hi, e⟩ := List.mem_iff_getElem.1 (List.contains_iff_mem.1 h)
  rw [List.length_take] at hi
  refine ⟨i, by omega, by omega, ?_⟩
  rw [List.getElem_take] at e
  rw [List.getD_eq_getElem?_getD, List.getElem?_eq_getElem (by omega), ← e]
  rfl
theorem take_once {f : List Int} (h : risB f = true) {j : Nat} (hj : j < f.length) {y : Int} (hc : (f.take j).contains y = true) : f.getD j 0 ≠ y := by
  obtain ⟨i, h1, h2, h3⟩ := getD_mem_take hc
  have := ris_lt h h1 hj
  omega
theorem countP_at {f : List Int} (h : risB f = true) {j : Nat} (hj : j < f.length) : f.countP (· < f.getD j 0) = j := by
  have h1 : (f.take j).countP (· < f.getD j 0) = j := by
    have e : (f.take j).length = j := by rw [List.length_take]; omega
    rw [List.countP_eq_length.2 (fun x hx => ?_), e]
    obtain ⟨i, a, b, c⟩ := getD_mem_take (List.contains_iff_mem.2 hx)
    have := ris_lt h a hj
    simp only [decide_eq_true_eq]
    omega
  have h2 : (f.drop j).countP (· < f.getD j 0) = 0 := by
    refine List.countP_eq_zero.2 (fun x hx => ?_)
    obtain ⟨i, hi, e⟩ := List.mem_iff_getElem.1 hx
    rw [List.length_drop] at hi
    rw [List.getElem_drop] at e
    have e2 : f.getD (j + i) 0 = x := by rw [List.getD_eq_getElem?_getD, List.getElem?_eq_getElem (by omega), ← e]; rfl
    simp only [decide_eq_true_eq]
    rcases Nat.eq_zero_or_pos i with h0 | h0
    · subst h0; rw [Nat.add_zero] at e2; omega
    · have := ris_lt h (show j < j + i by omega) (by omega); omega
  have e := List.countP_append (p := fun x => decide (x < f.getD j 0)) (l₁ := f.take j) (l₂ := f.drop j)
  rw [List.take_append_drop, h1, h2, Nat.add_zero] at e
  exact e
/-- The state between two rounds of Replace's inner loop. -/
def RT.mid (f tt : List Int) (s : RT × Nat) (p : Pl) (j : Nat) : RT × Nat := if (f.take j).contains (s.1.at_ p) then RT.rep1 f tt s p else s
theorem mid_zero (f tt : List Int) (s : RT × Nat) (p : Pl) : RT.mid f tt s p 0 = s := by simp [RT.mid]
theorem mid_end (f tt : List Int) (s : RT × Nat) (p : Pl) : RT.mid f tt s p f.length = RT.rep1 f tt s p := by
  unfold RT.mid
  rw [List.take_length]
  split
  · rfl
  · rename_i h
    unfold RT.rep1
    rw [if_neg]
    exact h
theorem mid_same {f tt : List Int} {s : RT × Nat} {p : Pl} {j : Nat} (hj : j < f.length) (h : f.getD j 0 ≠ s.1.at_ p) : RT.mid f tt s p (j + 1) = RT.mid f tt s p j := by
  unfold RT.mid
  rw [contains_snoc f j _ hj, beq_eq_false_iff_ne.2 h, Bool.or_false]
theorem mid_hit {f tt : List Int} {s : RT × Nat} {p : Pl} {j : Nat} (hr : risB f = true) (hj : j < f.length) (h : f.getD j 0 = s.1.at_ p) : RT.mid f tt s p j = s ∧ RT.mid f tt s p (j + 1) = (s.1.set (p.k : Int) (p.m : Int) (p.i : Int) (tt.getD j 0), s.2 + 1) := by
  have hn : (f.take j).contains (s.1.at_ p) = false := by
    rcases hc : (f.take j).contains (s.1.at_ p)
    · rfl
    · exact absurd h (take_once hr hj hc)
  have hy : f.contains (s.1.at_ p) = true := List.contains_iff_mem.2 (by rw [← h, List.getD_eq_getElem?_getD, List.getElem?_eq_getElem hj]; exact List.getElem_mem hj)
  refine ⟨by unfold RT.mid; rw [hn]; rfl, ?_⟩
  unfold RT.mid
  rw [contains_snoc f j _ hj, hn, h]
  simp only [beq_self_eq_true, Bool.or_true, if_true]
  unfold RT.rep1
  have e : s.1.get (p.k : Int) (p.m : Int) (p.i : Int) = f.getD j 0 := h.symm
  have hy2 : f.contains (s.1.get (p.k : Int) (p.m : Int) (p.i : Int)) = true := hy
  rw [if_pos hy2, e, countP_at hr hj]
section
variable {w w' W : World} {b : TB} {t : RT}
theorem IsO.keep {S T : List Nat} {v : Value} {zs : List Int} (h : IsO T w v zs) (k : Kp S w W) (hS : ∀ x ∈ S, x ∈ T) : IsO T W v zs := by
  obtain ⟨A, cap, rfl, h1, h2⟩ := h
  exact ⟨A, cap, rfl, h1, fun i hi => by obtain ⟨g, o, e, hn, c⟩ := h2 i hi; exact ⟨g, o, e, hn, cell_kps k c (fun hm => hn (hS g hm))⟩⟩
theorem own_far {B : Nat} {l : List Pl} {v : Value} (own : w.ownsRow B 33 3 v l.length (plcells l)) : ∃ A cap, v = .slice A l.length cap ∧ ∀ i, i < l.length → ∃ g, A = some ⟨g, 0, none⟩ ∧ B ≤ g ∧ w.cell? ⟨g, i * 3, none⟩ = some (.int .i64 ((l.getD i ⟨0, 0, 0⟩).k : Int)) ∧ w.cell? ⟨g, i * 3 + 1, none⟩ = some (.int .i64 ((l.getD i ⟨0, 0, 0⟩).m : Int)) ∧ w.cell? ⟨g, i * 3 + 2, none⟩ = some (.int .i64 ((l.getD i ⟨0, 0, 0⟩).i : Int)) := by
  rcases own.2 with ⟨rfl, h0⟩ | ⟨g, cap, cur, rfl, hg, _, h1, h2, _⟩
  · exact ⟨none, 0, by rw [h0], fun i hi => by omega⟩
  · refine ⟨_, cap, rfl, fun i hi => ?_⟩
    obtain ⟨a, b, c⟩ := plcells_at l i hi
    exact ⟨g, rfl, hg, by rw [own.cellAt _ (by omega)]; exact a, by rw [own.cellAt _ (by omega)]; exact b, by rw [own.cellAt _ (by omega)]; exact c⟩
/-- Which index Replace's check finds fault with. -/
def repAt (f tt : List Int) (i : Nat) : Prop := 0 < f.getD i 0 ∧ 0 < tt.getD i 0 ∧ (i = 0 ∨ f.getD (i - 1) 0 < f.getD i 0)
theorem repB_of {f tt : List Int} (hl : f.length = tt.length) (h : ∀ i, i < f.length → repAt f tt i) : repB f tt = true := by
  unfold repB
  rw [decide_eq_true hl, posB_iff.2 (fun i hi => (h i hi).1), posB_iff.2 (fun i hi => (h i (by omega)).2.1), risB_iff.2 (fun i hi => by
    rcases (h (i + 1) hi).2.2 with h1 | h1
    · omega
    · exact h1)]
  rfl
theorem repB_at {f tt : List Int} (h : repB f tt = true) {i : Nat} (hi : i < f.length) : repAt f tt i := by
  unfold repB at h
  simp only [Bool.and_eq_true, decide_eq_true_eq] at h
  obtain ⟨⟨⟨h1, h2⟩, h3⟩, h4⟩ := h
  refine ⟨posB_iff.1 h2 i hi, posB_iff.1 h3 i (by omega), ?_⟩
  rcases i with _ | i
  · exact .inl rfl
  · exact .inr (risB_iff.1 h4 i hi)
end
end Go.Proofs.Ytnidadhoojbmeaa
