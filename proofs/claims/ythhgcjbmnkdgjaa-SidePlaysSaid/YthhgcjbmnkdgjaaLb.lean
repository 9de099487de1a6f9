/-
  What a slice of calls, or of numbers, that came in reads as, cell by cell. Conditions: those that stand in each theorem.
-/
import Derived.Test.YthhgcjbmnkdgjaaMa
namespace Go.Proofs.Ythhgcjbmnkdgjaa
set_option linter.unusedVariables false
set_option linter.unusedSimpArgs false
open Go.ChangeShapes Go.WideShapes Go.ChangeAt Go.RowKit Go.Joins Go.Deep

section
variable {H : Type} {enc : TypeId × Value → H} {W : World} {base : Nat} {spare : Nat → Bool} {held : Bool} {r : Reach} {b0 : Nat}
theorem cells3 : Try.prog.cellsOf 3 = 1 := by kernel_rfl
theorem four_of {cs : List Value} (h : cs.length = 4) : ∃ a b c d, cs = [a, b, c, d] := by
  match cs, h with
  | [a, b, c, d], _ => exact ⟨a, b, c, d, rfl⟩
theorem int_of {n : Nat} {v : Value} {y : DataW H × List MemPlace} (h : DataW.trod enc Try.prog W base spare held n 3 [v] = some y) : ∃ k : Int, v = .int .i64 k := by
  obtain ⟨a, e, _, _⟩ := DataW.trod_int Try.underlying3 h
  simp at e
  exact ⟨a, e⟩
theorem act_cells {cs : List Value} {n : Nat} {x : DataW H × List MemPlace} (h : DataW.trod enc Try.prog W base spare held n 33 cs = some x) :
    ∃ k a b c : Int, cs = [.int .i64 k, .int .i64 a, .int .i64 b, .int .i64 c] := by
  obtain ⟨y0, y1, y2, y3, m, _, hlen, h0, h1, h2, h3⟩ := trod_struct4 Try.underlying33 h
  obtain ⟨v0, v1, v2, v3, rfl⟩ := four_of (hlen.trans cells33)
  simp only [cells3] at h0 h1 h2 h3
  obtain ⟨k, rfl⟩ := int_of (show DataW.trod enc Try.prog W base spare held m 3 [v0] = some y0 from h0)
  obtain ⟨a, rfl⟩ := int_of (show DataW.trod enc Try.prog W base spare held m 3 [v1] = some y1 from h1)
  obtain ⟨b, rfl⟩ := int_of (show DataW.trod enc Try.prog W base spare held m 3 [v2] = some y2 from h2)
  obtain ⟨c, rfl⟩ := int_of (show DataW.trod enc Try.prog W base spare held m 3 [v3] = some y3 from h3)
  exact ⟨k, a, b, c, rfl⟩
theorem cell_off {g o j : Nat} : ((⟨g, o, none⟩ : Addr).add j) = ⟨g, o + j, none⟩ := by
  unfold Addr.add
  by_cases h : j = 0 <;> simp [h]
theorem acts_shape {v : Value} {d : DataW H} {p : List MemPlace} (hv : Value.okWide Try.prog W r b0 22 v) (h : DataW.Trod enc Try.prog W base spare held 22 v d p) :
    ∃ A len cap, v = .slice A len cap ∧ ActsAt W A len := by
  obtain ⟨A, len, cap, rfl⟩ := okWide_slice Try.underlying22 hv
  refine ⟨A, len, cap, rfl, ?_⟩
  obtain ⟨fuel, hf⟩ := h
  rcases open_slice Try.underlying22 hf with ⟨hcs, _⟩ | ⟨a, len', cap', m, n, D, Pl, hcs, _, hl, _, hm, _, hi⟩
  · simp [Value.cells] at hcs
    obtain ⟨rfl, rfl, rfl⟩ := hcs
    exact fun i hi => absurd hi (by omega)
  · simp [Value.cells] at hcs
    obtain ⟨rfl, rfl, rfl⟩ := hcs
    have hlm : len ≤ m := by rw [hm]; split <;> omega
    intro i hlt
    obtain ⟨g, o, spot⟩ := a
    have hspot : spot = none := by
      obtain ⟨cs0, hc0, ht0⟩ := hi 0 (by omega)
      obtain ⟨x, y, z, u, rfl⟩ := act_cells ht0
      rw [cells33] at hc0
      have hs := World.cell?_spot ((World.cells?_some hc0).2.2 0 (by omega))
      simpa [Addr.add] using hs
    subst hspot
    obtain ⟨cs', hc, ht⟩ := hi i (by omega)
    obtain ⟨x, y, z, u, rfl⟩ := act_cells ht
    rw [cells33] at hc
    obtain ⟨_, _, hat⟩ := World.cells?_some hc
    refine ⟨g, o, x, y, z, u, rfl, ?_, ?_, ?_, ?_⟩
    · have := hat 0 (by omega); rw [cell_off, cell_off] at this; simpa using this
    · have := hat 1 (by omega); rw [cell_off, cell_off] at this; simpa using this
    · have := hat 2 (by omega); rw [cell_off, cell_off] at this; simpa using this
    · have := hat 3 (by omega); rw [cell_off, cell_off] at this; simpa using this
/-- A slice of numbers that came in. -/
def IntsIn (w : World) (A : Option Addr) (n : Nat) : Prop := ∀ i, i < n → ∃ (g o : Nat) (x : Int), A = some ⟨g, o, none⟩ ∧ w.cell? ⟨g, o + i, none⟩ = some (.int .i64 x)
theorem IntsIn.kp {w W : World} {A : Option Addr} {n : Nat} (h : IntsIn w A n) (k : Kp [] w W) : IntsIn W A n := fun i hi => by
  obtain ⟨g, o, x, rfl, h0⟩ := h i hi
  exact ⟨g, o, x, rfl, cell_kp k h0⟩
theorem ints_shape {v : Value} {d : DataW H} {p : List MemPlace} (hv : Value.okWide Try.prog W r b0 53 v) (h : DataW.Trod enc Try.prog W base spare held 53 v d p) :
    ∃ A len cap, v = .slice A len cap ∧ IntsIn W A len := by
  obtain ⟨A, len, cap, rfl⟩ := okWide_slice Try.underlying53 hv
  refine ⟨A, len, cap, rfl, ?_⟩
  obtain ⟨fuel, hf⟩ := h
  rcases open_ints Try.underlying53 Try.underlying3 cells3 hf with ⟨hcs, _⟩ | ⟨a, len', cap', zs, hcs, _, hl, _, hz, _, hat, _⟩
  · simp [Value.cells] at hcs
    obtain ⟨rfl, rfl, rfl⟩ := hcs
    exact fun i hi => absurd hi (by omega)
  · simp [Value.cells] at hcs
    obtain ⟨rfl, rfl, rfl⟩ := hcs
    have hlm : len ≤ zs.length := by rw [hz]; split <;> omega
    intro i hlt
    obtain ⟨g, o, spot⟩ := a
    have hspot : spot = none := by
      have hs := World.cell?_spot (hat 0 (by omega))
      simpa [Addr.add] using hs
    subst hspot
    refine ⟨g, o, zs.getD i 0, rfl, ?_⟩
    have := hat i (by omega)
    rw [cell_off] at this
    exact this
end
end Go.Proofs.Ythhgcjbmnkdgjaa
