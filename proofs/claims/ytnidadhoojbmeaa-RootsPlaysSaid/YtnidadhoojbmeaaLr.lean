/-
  What numbers, places and calls of the roots' laws that came in read as, cell by cell. Conditions: those that stand in each theorem.
-/
import Derived.Test.YtnidadhoojbmeaaLu
import Derived.Test.YtnidadhoojbmeaaSq
namespace Go.Proofs.Ytnidadhoojbmeaa
set_option linter.unusedVariables false
set_option linter.unusedSimpArgs false
open Go.ChangeShapes Go.WideShapes Go.ChangeAt Go.RowKit Go.Joins Go.Deep

section
variable {H : Type} {enc : TypeId × Value → H} {W : World} {base : Nat} {spare : Nat → Bool} {held : Bool} {r : Reach} {b0 : Nat}
set_option maxRecDepth 100000 in
theorem ints_of {v : Value} {n : Nat} {x : DataW H × List MemPlace} (h : DataW.trod enc Try.prog W base spare held n 34 [v] = some x) :
    ∃ zs, IsI W v zs ∧ ∀ y ∈ zs, W64 y := by
  rcases open_slice Try.underlying34 h with ⟨hcs, _⟩ | ⟨a, len, cap, m, n, D, Pl, hcs, _, hl, hcm, hm, _, hi⟩
  · injection hcs with hv
    exact ⟨[], ⟨none, 0, hv, Nat.zero_le _, fun i hi => absurd hi (by simp)⟩, by simp⟩
  · injection hcs with hv
    have hlm : len ≤ m := by rw [hm]; split <;> omega
    have hc : ∀ i, ∃ y : Int, i < len → W.cell? (a.add i) = some (.int .i64 y) ∧ W64 y := fun i => by
      by_cases hlt : i < len
      · obtain ⟨cs', hc, ht⟩ := hi i (by omega)
        rw [cellsInt] at hc
        obtain ⟨hlen, _, hat⟩ := World.cells?_some hc
        match cs', hlen with
        | [u], _ =>
          obtain ⟨y, rfl, hy⟩ := int_of ht rfl
          have := hat 0 (by omega)
          refine ⟨y, fun _ => ⟨?_, hy⟩⟩
          rw [Nat.mul_one] at this
          simpa [Addr.add] using this
      · exact ⟨0, fun h => absurd h hlt⟩
    obtain ⟨Y, hy⟩ : ∃ Y : Nat → Int, ∀ i, i < len → W.cell? (a.add i) = some (.int .i64 (Y i)) ∧ W64 (Y i) := ⟨fun i => Classical.choose (hc i), fun i => Classical.choose_spec (hc i)⟩
    refine ⟨(List.range len).map Y, ?_, ?_⟩
    · refine ⟨some a, cap, by rw [hv, List.length_map, List.length_range], by rw [List.length_map, List.length_range]; omega, fun i hlt => ?_⟩
      rw [List.length_map, List.length_range] at hlt
      have h1 := (hy i hlt).1
      obtain ⟨g, o, spot⟩ := a
      have hspot : spot = none := by
        have h0 := (hy 0 (by omega)).1
        have hs := World.cell?_spot h0
        simpa [Addr.add] using hs
      subst hspot
      refine ⟨g, o, rfl, ?_⟩
      rw [cell_off] at h1
      rw [h1]
      simp [hlt]
    · intro y hm
      obtain ⟨i, hi, rfl⟩ := List.mem_map.1 hm
      exact (hy i (List.mem_range.1 hi)).2
set_option maxRecDepth 100000 in
theorem ints_shape {v : Value} {d : DataW H} {p : List MemPlace} (hv : Value.okWide Try.prog W r b0 34 v) (h : DataW.Trod enc Try.prog W base spare held 34 v d p) :
    ∃ zs, IsI W v zs ∧ ∀ y ∈ zs, W64 y := by
  obtain ⟨A, len, cap, rfl⟩ := okWide_slice Try.underlying34 hv
  obtain ⟨fuel, hf⟩ := h
  exact ints_of (show DataW.trod enc Try.prog W base spare held fuel 34 [.slice A len cap] = _ from hf)
set_option maxRecDepth 100000 in
theorem cellsPlace : Try.prog.cellsOf 33 = 3 := by kernel_rfl
set_option maxRecDepth 100000 in
theorem cellsInts : Try.prog.cellsOf 34 = 1 := by kernel_rfl
set_option maxRecDepth 100000 in
theorem cellsAct3 : Try.prog.cellsOf 36 = 7 := by kernel_rfl
set_option maxRecDepth 100000 in
theorem place_cells {cs : List Value} {n : Nat} {x : DataW H × List MemPlace} (h : DataW.trod enc Try.prog W base spare held n 33 cs = some x) :
    ∃ a b c : Int, cs = [.int .i64 a, .int .i64 b, .int .i64 c] ∧ W64 a ∧ W64 b ∧ W64 c := by
  obtain ⟨y0, y1, y2, m, _, hlen, h0, h1, h2⟩ := trod_struct3 Try.underlying33 h
  obtain ⟨v0, v1, v2, rfl⟩ := three_of (hlen.trans cellsPlace)
  simp only [cellsInt] at h0 h1 h2
  obtain ⟨a, rfl, wa⟩ := int_of (show DataW.trod enc Try.prog W base spare held m 3 [v0] = some y0 from h0) rfl
  obtain ⟨b, rfl, wb⟩ := int_of (show DataW.trod enc Try.prog W base spare held m 3 [v1] = some y1 from h1) rfl
  obtain ⟨c, rfl, wc⟩ := int_of (show DataW.trod enc Try.prog W base spare held m 3 [v2] = some y2 from h2) rfl
  exact ⟨a, b, c, rfl, wa, wb, wc⟩
set_option maxRecDepth 100000 in
theorem place_shape {v : Value} {d : DataW H} {p : List MemPlace} (hv : Value.okWide Try.prog W r b0 33 v) (h : DataW.Trod enc Try.prog W base spare held 33 v d p) :
    ∃ a b c : Int, v = .agg #[.int .i64 a, .int .i64 b, .int .i64 c] ∧ W64 a ∧ W64 b ∧ W64 c := by
  obtain ⟨cs, rfl, hsz⟩ := okWide_struct Try.underlying33 hv
  obtain ⟨fuel, hf⟩ := h
  obtain ⟨a, b, c, he, w⟩ := place_cells (show DataW.trod enc Try.prog W base spare held fuel 33 cs.toList = _ from hf)
  refine ⟨a, b, c, ?_, w⟩
  congr 1
  rw [← he]
set_option maxRecDepth 100000 in
theorem act3_cells {cs : List Value} {n : Nat} {x : DataW H × List MemPlace} (h : DataW.trod enc Try.prog W base spare held n 36 cs = some x) :
    ∃ y : ActR, y.Ok W ∧ cs = [.int .i64 y.k, .int .i64 y.pk, .int .i64 y.pm, .int .i64 y.pi, .int .i64 y.a, y.vf, y.vt] := by
  obtain ⟨xs, m, _, _, hlen, hx, hf⟩ := DataW.trod_struct Try.underlying36 h
  obtain ⟨v0, v1, v2, v3, v4, v5, v6, rfl⟩ := seven_of (hlen.trans cellsAct3)
  have e0 : DataW.trod enc Try.prog W base spare held m 3 (([v0, v1, v2, v3, v4, v5, v6].drop 0).take (Try.prog.cellsOf 3)) = xs[0]? := hf 0 _ rfl
  have e1 : DataW.trod enc Try.prog W base spare held m 33 (([v0, v1, v2, v3, v4, v5, v6].drop 1).take (Try.prog.cellsOf 33)) = xs[1]? := hf 1 _ rfl
  have e2 : DataW.trod enc Try.prog W base spare held m 3 (([v0, v1, v2, v3, v4, v5, v6].drop 4).take (Try.prog.cellsOf 3)) = xs[2]? := hf 2 _ rfl
  have e3 : DataW.trod enc Try.prog W base spare held m 34 (([v0, v1, v2, v3, v4, v5, v6].drop 5).take (Try.prog.cellsOf 34)) = xs[3]? := hf 3 _ rfl
  have e4 : DataW.trod enc Try.prog W base spare held m 34 (([v0, v1, v2, v3, v4, v5, v6].drop 6).take (Try.prog.cellsOf 34)) = xs[4]? := hf 4 _ rfl
  rw [cellsInt] at e0 e2
  rw [cellsPlace] at e1
  rw [cellsInts] at e3 e4
  have hx5 : xs.length = 5 := hx
  have g : ∀ i, i < 5 → ∃ y, xs[i]? = some y := fun i hi => ⟨xs[i]'(by omega), List.getElem?_eq_getElem (by omega)⟩
  obtain ⟨y0, q0⟩ := g 0 (by omega)
  obtain ⟨y1, q1⟩ := g 1 (by omega)
  obtain ⟨y2, q2⟩ := g 2 (by omega)
  obtain ⟨y3, q3⟩ := g 3 (by omega)
  obtain ⟨y4, q4⟩ := g 4 (by omega)
  obtain ⟨k, rfl, wk⟩ := int_of (show DataW.trod enc Try.prog W base spare held m 3 [v0] = _ from e0) q0
  obtain ⟨a, rfl, wa⟩ := int_of (show DataW.trod enc Try.prog W base spare held m 3 [v4] = _ from e2) q2
  rw [q1] at e1
  rw [q3] at e3
  rw [q4] at e4
  obtain ⟨s0, s1, s2, he, _⟩ := place_cells (show DataW.trod enc Try.prog W base spare held m 33 [v1, v2, v3] = _ from e1)
  simp only [List.cons.injEq, and_true] at he
  obtain ⟨rfl, rfl, rfl⟩ := he
  obtain ⟨f, hf1, _⟩ := ints_of (show DataW.trod enc Try.prog W base spare held m 34 [v5] = _ from e3)
  obtain ⟨tt, ht1, ht2⟩ := ints_of (show DataW.trod enc Try.prog W base spare held m 34 [v6] = _ from e4)
  exact ⟨⟨k, s0, s1, s2, a, v5, v6, f, tt⟩, ⟨wa, hf1, ht1, ht2⟩, rfl⟩
set_option maxRecDepth 100000 in
theorem act3_shape {v : Value} {d : DataW H} {p : List MemPlace} (hv : Value.okWide Try.prog W r b0 36 v) (h : DataW.Trod enc Try.prog W base spare held 36 v d p) :
    ∃ y : ActR, v = .agg y.cells ∧ y.Ok W := by
  obtain ⟨cs, rfl, hsz⟩ := okWide_struct Try.underlying36 hv
  obtain ⟨fuel, hf⟩ := h
  obtain ⟨y, hy, he⟩ := act3_cells (show DataW.trod enc Try.prog W base spare held fuel 36 cs.toList = _ from hf)
  refine ⟨y, ?_, hy⟩
  unfold ActR.cells
  congr 1
  rw [← he]
set_option maxRecDepth 100000 in
theorem acts3_shape {v : Value} {d : DataW H} {p : List MemPlace} (hv : Value.okWide Try.prog W r b0 22 v) (h : DataW.Trod enc Try.prog W base spare held 22 v d p) :
    ∃ A len cap X, v = .slice A len cap ∧ ActsR W A len X := by
  obtain ⟨A, len, cap, rfl⟩ := okWide_slice Try.underlying22 hv
  refine ⟨A, len, cap, ?_⟩
  obtain ⟨fuel, hf⟩ := h
  have dflt : Inhabited ActR := ⟨⟨0, 0, 0, 0, 0, .slice none 0 0, .slice none 0 0, [], []⟩⟩
  rcases open_slice Try.underlying22 hf with ⟨hcs, _⟩ | ⟨a, len', cap', m, n, D, Pl, hcs, _, hl, hcm, hm, _, hi⟩
  · simp [Value.cells] at hcs
    obtain ⟨rfl, rfl, rfl⟩ := hcs
    exact ⟨fun _ => default, rfl, ⟨Nat.zero_le _, fun i hi => absurd hi (by omega), fun i hi => absurd hi (by omega)⟩⟩
  · simp [Value.cells] at hcs
    obtain ⟨rfl, rfl, rfl⟩ := hcs
    have hlm : len ≤ m := by rw [hm]; split <;> omega
    obtain ⟨g, o, spot⟩ := a
    have hx : ∀ i, ∃ x : ActR, i < len → x.Ok W ∧ spot = none ∧ W.cell? ⟨g, o + i * 7, none⟩ = some (.int .i64 x.k) ∧ W.cell? ⟨g, o + i * 7 + 1, none⟩ = some (.int .i64 x.pk) ∧ W.cell? ⟨g, o + i * 7 + 2, none⟩ = some (.int .i64 x.pm) ∧ W.cell? ⟨g, o + i * 7 + 3, none⟩ = some (.int .i64 x.pi) ∧ W.cell? ⟨g, o + i * 7 + 4, none⟩ = some (.int .i64 x.a) ∧ W.cell? ⟨g, o + i * 7 + 5, none⟩ = some x.vf ∧ W.cell? ⟨g, o + i * 7 + 6, none⟩ = some x.vt := fun i => by
      by_cases hlt : i < len
      · have hspot : spot = none := by
          obtain ⟨cs0, hc0, ht0⟩ := hi 0 (by omega)
          obtain ⟨y, _, rfl⟩ := act3_cells ht0
          rw [cellsAct3] at hc0
          have hs := World.cell?_spot ((World.cells?_some hc0).2.2 0 (by omega))
          simpa [Addr.add] using hs
        subst hspot
        obtain ⟨cs', hc, ht⟩ := hi i (by omega)
        obtain ⟨y, hy, rfl⟩ := act3_cells ht
        rw [cellsAct3] at hc
        obtain ⟨_, _, hat⟩ := World.cells?_some hc
        refine ⟨y, fun _ => ⟨hy, rfl, ?_, ?_, ?_, ?_, ?_, ?_, ?_⟩⟩
        · have := hat 0 (by omega); rw [cell_off, cell_off] at this; simpa using this
        · have := hat 1 (by omega); rw [cell_off, cell_off] at this; simpa using this
        · have := hat 2 (by omega); rw [cell_off, cell_off] at this; simpa using this
        · have := hat 3 (by omega); rw [cell_off, cell_off] at this; simpa using this
        · have := hat 4 (by omega); rw [cell_off, cell_off] at this; simpa using this
        · have := hat 5 (by omega); rw [cell_off, cell_off] at this; simpa using this
        · have := hat 6 (by omega); rw [cell_off, cell_off] at this; simpa using this
      · exact ⟨default, fun h => absurd h hlt⟩
    have hX := fun i => Classical.choose_spec (hx i)
    refine ⟨fun i => Classical.choose (hx i), rfl, ⟨by omega, fun i hi => (hX i hi).1, fun i hi => ?_⟩⟩
    obtain ⟨_, hs, hc⟩ := hX i hi
    exact ⟨g, o, by rw [hs], hc⟩
end
end Go.Proofs.Ytnidadhoojbmeaa
