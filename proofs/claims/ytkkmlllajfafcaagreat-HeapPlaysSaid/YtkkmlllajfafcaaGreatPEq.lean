/-
  What a call, and a slice of calls, that came in reads as, cell by cell. Conditions: those that stand in each theorem.
-/
import Derived.Test.YtkkmlllajfafcaaGreatPG4
import Derived.Test.YtkkmlllajfafcaaGreatPG21
namespace Go.Proofs.YtkkmlllajfafcaaGreat
set_option linter.unusedVariables false
set_option linter.unusedSimpArgs false
open Go.ChangeShapes Go.WideShapes Go.ChangeAt Go.RowKit Go.Joins Go.Deep

section
variable {H : Type} {enc : TypeId × Value → H} {W : World} {base : Nat} {spare : Nat → Bool} {held : Bool} {r : Reach} {b0 : Nat}
set_option maxRecDepth 100000 in
theorem cellsAct : Tryz.prog.cellsOf 35 = 7 := by kernel_rfl
set_option maxRecDepth 100000 in
theorem shape_cells {cs : List Value} {n : Nat} {x : DataW H × List MemPlace} (h : DataW.trod enc Tryz.prog W base spare held n 33 cs = some x) :
    ∃ a b c : Int, cs = [.int .i64 a, .int .i64 b, .int .i64 c] := by
  obtain ⟨y0, y1, y2, m, _, hlen, h0, h1, h2⟩ := trod_struct3 Tryz.underlying33 h
  obtain ⟨v0, v1, v2, rfl⟩ := three_of (hlen.trans cellsShape)
  simp only [cellsInt] at h0 h1 h2
  obtain ⟨a, rfl, _⟩ := int_of (show DataW.trod enc Tryz.prog W base spare held m 3 [v0] = some y0 from h0) rfl
  obtain ⟨b, rfl, _⟩ := int_of (show DataW.trod enc Tryz.prog W base spare held m 3 [v1] = some y1 from h1) rfl
  obtain ⟨c, rfl, _⟩ := int_of (show DataW.trod enc Tryz.prog W base spare held m 3 [v2] = some y2 from h2) rfl
  exact ⟨a, b, c, rfl⟩
set_option maxRecDepth 100000 in
theorem act_cells {cs : List Value} {n : Nat} {x : DataW H × List MemPlace} (h : DataW.trod enc Tryz.prog W base spare held n 35 cs = some x) :
    ∃ y : PAct, y.Ok ∧ cs = [.int .i64 y.n, .int .i64 y.a, .int .i64 y.b, .int .i64 y.c, .int .i64 y.x, .int .i64 y.d, .int .i64 y.k] := by
  obtain ⟨xs, m, _, _, hlen, hx, hf⟩ := DataW.trod_struct Tryz.underlying35 h
  obtain ⟨v0, v1, v2, v3, v4, v5, v6, rfl⟩ := seven_of (hlen.trans cellsAct)
  have e0 : DataW.trod enc Tryz.prog W base spare held m 3 (([v0, v1, v2, v3, v4, v5, v6].drop 0).take (Tryz.prog.cellsOf 3)) = xs[0]? := hf 0 _ rfl
  have e1 : DataW.trod enc Tryz.prog W base spare held m 3 (([v0, v1, v2, v3, v4, v5, v6].drop 1).take (Tryz.prog.cellsOf 3)) = xs[1]? := hf 1 _ rfl
  have e2 : DataW.trod enc Tryz.prog W base spare held m 3 (([v0, v1, v2, v3, v4, v5, v6].drop 2).take (Tryz.prog.cellsOf 3)) = xs[2]? := hf 2 _ rfl
  have e3 : DataW.trod enc Tryz.prog W base spare held m 3 (([v0, v1, v2, v3, v4, v5, v6].drop 3).take (Tryz.prog.cellsOf 3)) = xs[3]? := hf 3 _ rfl
  have e4 : DataW.trod enc Tryz.prog W base spare held m 33 (([v0, v1, v2, v3, v4, v5, v6].drop 4).take (Tryz.prog.cellsOf 33)) = xs[4]? := hf 4 _ rfl
  rw [cellsInt] at e0 e1 e2 e3
  rw [cellsShape] at e4
  have hx5 : xs.length = 5 := hx
  have g : ∀ i, i < 5 → ∃ y, xs[i]? = some y := fun i hi => ⟨xs[i]'(by omega), List.getElem?_eq_getElem (by omega)⟩
  obtain ⟨y0, q0⟩ := g 0 (by omega)
  obtain ⟨y1, q1⟩ := g 1 (by omega)
  obtain ⟨y2, q2⟩ := g 2 (by omega)
  obtain ⟨y3, q3⟩ := g 3 (by omega)
  obtain ⟨y4, q4⟩ := g 4 (by omega)
  obtain ⟨k, rfl, wk⟩ := int_of (show DataW.trod enc Tryz.prog W base spare held m 3 [v0] = _ from e0) q0
  obtain ⟨a, rfl, wa⟩ := int_of (show DataW.trod enc Tryz.prog W base spare held m 3 [v1] = _ from e1) q1
  obtain ⟨b, rfl, wb⟩ := int_of (show DataW.trod enc Tryz.prog W base spare held m 3 [v2] = _ from e2) q2
  obtain ⟨c, rfl, wc⟩ := int_of (show DataW.trod enc Tryz.prog W base spare held m 3 [v3] = _ from e3) q3
  rw [q4] at e4
  obtain ⟨s0, s1, s2, he⟩ := shape_cells (show DataW.trod enc Tryz.prog W base spare held m 33 [v4, v5, v6] = _ from e4)
  simp only [List.cons.injEq, and_true] at he
  obtain ⟨rfl, rfl, rfl⟩ := he
  exact ⟨⟨k, a, b, c, s0, s1, s2⟩, ⟨wa, wb, wc⟩, rfl⟩
set_option maxRecDepth 100000 in
theorem act_shape {v : Value} {d : DataW H} {p : List MemPlace} (hv : Value.okWide Tryz.prog W r b0 35 v) (h : DataW.Trod enc Tryz.prog W base spare held 35 v d p) :
    ∃ y : PAct, v = y.val ∧ y.Ok := by
  obtain ⟨cs, rfl, hsz⟩ := okWide_struct Tryz.underlying35 hv
  obtain ⟨fuel, hf⟩ := h
  obtain ⟨y, hy, he⟩ := act_cells (show DataW.trod enc Tryz.prog W base spare held fuel 35 cs.toList = _ from hf)
  refine ⟨y, ?_, hy⟩
  unfold PAct.val
  congr 1
  rw [← he]
set_option maxRecDepth 100000 in
theorem acts_shape {v : Value} {d : DataW H} {p : List MemPlace} (hv : Value.okWide Tryz.prog W r b0 22 v) (h : DataW.Trod enc Tryz.prog W base spare held 22 v d p) :
    ∃ A len cap, v = .slice A len cap ∧ PActs W A len := by
  obtain ⟨A, len, cap, rfl⟩ := okWide_slice Tryz.underlying22 hv
  refine ⟨A, len, cap, rfl, ?_⟩
  obtain ⟨fuel, hf⟩ := h
  rcases open_slice Tryz.underlying22 hf with ⟨hcs, _⟩ | ⟨a, len', cap', m, n, D, Pl, hcs, _, hl, _, hm, _, hi⟩
  · simp [Value.cells] at hcs
    obtain ⟨rfl, rfl, rfl⟩ := hcs
    exact fun i hi => absurd hi (by omega)
  · simp [Value.cells] at hcs
    obtain ⟨rfl, rfl, rfl⟩ := hcs
    have hlm : len ≤ m := by rw [hm]; split <;> omega
    intro i hlt
    obtain ⟨g, o, spot⟩ := a
    have hspot : spot = none := by
      obtain ⟨cs0, hc0, ht0⟩ := hi 0 (by omega)
      obtain ⟨y, _, rfl⟩ := act_cells ht0
      rw [cellsAct] at hc0
      have hs := World.cell?_spot ((World.cells?_some hc0).2.2 0 (by omega))
      simpa [Addr.add] using hs
    subst hspot
    obtain ⟨cs', hc, ht⟩ := hi i (by omega)
    obtain ⟨y, hy, rfl⟩ := act_cells ht
    rw [cellsAct] at hc
    obtain ⟨_, _, hat⟩ := World.cells?_some hc
    refine ⟨g, o, y, hy, rfl, ?_, ?_, ?_, ?_, ?_, ?_, ?_⟩
    · have := hat 0 (by omega); rw [cell_off, cell_off] at this; simpa using this
    · have := hat 1 (by omega); rw [cell_off, cell_off] at this; simpa using this
    · have := hat 2 (by omega); rw [cell_off, cell_off] at this; simpa using this
    · have := hat 3 (by omega); rw [cell_off, cell_off] at this; simpa using this
    · have := hat 4 (by omega); rw [cell_off, cell_off] at this; simpa using this
    · have := hat 5 (by omega); rw [cell_off, cell_off] at this; simpa using this
    · have := hat 6 (by omega); rw [cell_off, cell_off] at this; simpa using this
end
end Go.Proofs.YtkkmlllajfafcaaGreat
