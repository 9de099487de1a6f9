/-
  What slices of shapes and of bools that came in read as, cell by cell. Conditions: those that stand in each theorem.
-/
import Derived.Test.YtkkmlllajfafcaaPG4
import Derived.Test.YtkkmlllajfafcaaPJ2
import Derived.Deep.Grids
namespace Go.Proofs.Ytkkmlllajfafcaa
set_option linter.unusedVariables false
set_option linter.unusedSimpArgs false
open Go.ChangeShapes Go.WideShapes Go.ChangeAt Go.RowKit Go.Joins Go.Deep

/-- A slice of bools. -/
def IsBo (w : World) (v : Value) : Prop := ∃ A n cap, v = .slice A n cap ∧ n ≤ maxLen ∧ ∀ i, i < n → ∃ g o p, A = some ⟨g, o, none⟩ ∧ w.cell? ⟨g, o + i, none⟩ = some (.bool p)
/-- A slice of shapes. -/
def IsSh (w : World) (v : Value) : Prop := ∃ A n cap, v = .slice A n cap ∧ n ≤ maxLen ∧ ∀ i, i < n → ∃ g o, ∃ x d k : Int, A = some ⟨g, o, none⟩ ∧ w.cell? ⟨g, o + i * 3, none⟩ = some (.int .i64 x) ∧ w.cell? ⟨g, o + i * 3 + 1, none⟩ = some (.int .i64 d) ∧ w.cell? ⟨g, o + i * 3 + 2, none⟩ = some (.int .i64 k)
theorem cell_kpo {w W : World} {g i : Nat} {u : Value} (k : Kp [] w W) (h : w.cell? ⟨g, i, none⟩ = some u) : W.cell? ⟨g, i, none⟩ = some u := cell_kp k h
theorem IsBo.kp0 {w W : World} {v : Value} (h : IsBo w v) (k : Kp [] w W) : IsBo W v := by
  obtain ⟨A, n, cap, rfl, hn, hA⟩ := h
  exact ⟨A, n, cap, rfl, hn, fun i hi => by obtain ⟨g, o, p, h1, h2⟩ := hA i hi; exact ⟨g, o, p, h1, cell_kp k h2⟩⟩
theorem IsSh.kp0 {w W : World} {v : Value} (h : IsSh w v) (k : Kp [] w W) : IsSh W v := by
  obtain ⟨A, n, cap, rfl, hn, hA⟩ := h
  exact ⟨A, n, cap, rfl, hn, fun i hi => by obtain ⟨g, o, x, d, kk, h1, h2, h3, h4⟩ := hA i hi; exact ⟨g, o, x, d, kk, h1, cell_kp k h2, cell_kp k h3, cell_kp k h4⟩⟩
section
variable {H : Type} {enc : TypeId × Value → H} {W : World} {base : Nat} {spare : Nat → Bool} {held : Bool} {r : Reach} {b0 : Nat}
set_option maxRecDepth 100000 in
theorem cellsBo : Try.prog.cellsOf 4 = 1 := by kernel_rfl
set_option maxRecDepth 100000 in
theorem bos_shape {v : Value} {d : DataW H} {p : List MemPlace} (hv : Value.okWide Try.prog W r b0 52 v) (h : DataW.Trod enc Try.prog W base (fun _ => true) held 52 v d p) :
    IsBo W v := by
  obtain ⟨A, len, cap, rfl⟩ := okWide_slice Try.underlying52 hv
  obtain ⟨fuel, hf⟩ := h
  rcases open_bools Try.underlying52 Try.underlying4 cellsBo (show DataW.trod enc Try.prog W base (fun _ => true) held fuel 52 [.slice A len cap] = _ from hf) with ⟨hcs, _⟩ | ⟨a, l2, c2, B, hcs, _, hl, hcm, _, hi⟩
  · injection hcs with hv
    exact ⟨none, 0, 0, hv, Nat.zero_le _, fun i hi => absurd hi (by simp)⟩
  · injection hcs with hv
    refine ⟨some a, l2, c2, hv, Nat.le_trans hl hcm, fun i hlt => ?_⟩
    have h1 := hi i (by omega)
    obtain ⟨g, o, spot⟩ := a
    have hspot : spot = none := by
      have h0 := hi 0 (by omega)
      have hs := World.cell?_spot h0
      simpa [Addr.add] using hs
    subst hspot
    rw [cell_off] at h1
    exact ⟨g, o, B i, rfl, h1⟩
set_option maxRecDepth 100000 in
theorem shp_cells {cs : List Value} {n : Nat} {x : DataW H × List MemPlace} (h : DataW.trod enc Try.prog W base spare held n 23 cs = some x) :
    ∃ a b c : Int, cs = [.int .i64 a, .int .i64 b, .int .i64 c] ∧ W64 a ∧ W64 b ∧ W64 c := by
  obtain ⟨y0, y1, y2, m, _, hlen, h0, h1, h2⟩ := trod_struct3 Try.underlying23 h
  obtain ⟨v0, v1, v2, rfl⟩ := three_of (hlen.trans cellsShape)
  simp only [cellsInt] at h0 h1 h2
  obtain ⟨a, rfl, wa⟩ := int_of (show DataW.trod enc Try.prog W base spare held m 3 [v0] = some y0 from h0) rfl
  obtain ⟨b, rfl, wb⟩ := int_of (show DataW.trod enc Try.prog W base spare held m 3 [v1] = some y1 from h1) rfl
  obtain ⟨c, rfl, wc⟩ := int_of (show DataW.trod enc Try.prog W base spare held m 3 [v2] = some y2 from h2) rfl
  exact ⟨a, b, c, rfl, wa, wb, wc⟩
set_option maxRecDepth 100000 in
theorem shps_shape {v : Value} {d : DataW H} {p : List MemPlace} (hv : Value.okWide Try.prog W r b0 51 v) (h : DataW.Trod enc Try.prog W base spare held 51 v d p) :
    IsSh W v := by
  obtain ⟨A, len, cap, rfl⟩ := okWide_slice Try.underlying51 hv
  obtain ⟨fuel, hf⟩ := h
  rcases open_slice Try.underlying51 hf with ⟨hcs, _⟩ | ⟨a, len', cap', m, n, D, Pl, hcs, _, hl, hcm, hm, _, hi⟩
  · simp [Value.cells] at hcs
    obtain ⟨rfl, rfl, rfl⟩ := hcs
    exact ⟨_, _, _, rfl, Nat.zero_le _, fun i hi => absurd hi (by omega)⟩
  · simp [Value.cells] at hcs
    obtain ⟨rfl, rfl, rfl⟩ := hcs
    have hlm : len ≤ m := by rw [hm]; split <;> omega
    obtain ⟨g, o, spot⟩ := a
    refine ⟨_, _, _, rfl, Nat.le_trans hl hcm, fun i hlt => ?_⟩
    have hspot : spot = none := by
      obtain ⟨cs0, hc0, ht0⟩ := hi 0 (by omega)
      obtain ⟨_, _, _, rfl, _⟩ := shp_cells ht0
      rw [cellsShape] at hc0
      have hs := World.cell?_spot ((World.cells?_some hc0).2.2 0 (by omega))
      simpa [Addr.add] using hs
    subst hspot
    obtain ⟨cs', hc, ht⟩ := hi i (by omega)
    obtain ⟨x, dd, k, rfl, _⟩ := shp_cells ht
    rw [cellsShape] at hc
    obtain ⟨_, _, hat⟩ := World.cells?_some hc
    refine ⟨g, o, x, dd, k, rfl, ?_, ?_, ?_⟩
    · have := hat 0 (by omega); rw [cell_off, cell_off] at this; simpa using this
    · have := hat 1 (by omega); rw [cell_off, cell_off] at this; simpa using this
    · have := hat 2 (by omega); rw [cell_off, cell_off] at this; simpa using this
end
end Go.Proofs.Ytkkmlllajfafcaa
