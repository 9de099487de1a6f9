/-
  What a slice of bools that came in reads as, cell by cell. Conditions: those that stand in the theorem.
-/
import Derived.Test.YtkepgcpogblfaaaLr
import Derived.Test.YtkepgcpogblfaaaTe
import Derived.Deep.Grids
namespace Go.Proofs.Ytkepgcpogblfaaa
set_option linter.unusedVariables false
set_option linter.unusedSimpArgs false
open Go.ChangeShapes Go.WideShapes Go.ChangeAt Go.RowKit Go.Joins Go.Deep

section
variable {H : Type} {enc : TypeId × Value → H} {W : World} {base : Nat} {held : Bool} {r : Reach} {b0 : Nat}
set_option maxRecDepth 100000 in
theorem cellsBool : Try.prog.cellsOf 4 = 1 := by kernel_rfl
set_option maxRecDepth 100000 in
theorem bools_shape {v : Value} {d : DataW H} {p : List MemPlace} (hv : Value.okWide Try.prog W r b0 56 v) (h : DataW.Trod enc Try.prog W base (fun _ => true) held 56 v d p) :
    IsB W v := by
  obtain ⟨A, len, cap, rfl⟩ := okWide_slice Try.underlying56 hv
  obtain ⟨fuel, hf⟩ := h
  rcases open_bools Try.underlying56 Try.underlying4 cellsBool (show DataW.trod enc Try.prog W base (fun _ => true) held fuel 56 [.slice A len cap] = _ from hf) with ⟨hcs, _⟩ | ⟨a, l2, c2, B, hcs, _, hl, hcm, _, hi⟩
  · injection hcs with hv
    exact ⟨none, 0, 0, hv, Nat.zero_le _, fun i hi => absurd hi (by simp)⟩
  · injection hcs with hv
    refine ⟨some a, l2, c2, hv, Nat.le_trans hl hcm, fun i hlt => ?_⟩
    have h1 := hi i (by omega)
    obtain ⟨g, o, spot⟩ := a
    have hspot : spot = none := by
      have h0 := hi 0 (by omega)
      have hs := World.cell?_spot h0
      simpa [Addr.add] using hs
    subst hspot
    rw [cell_off] at h1
    exact ⟨g, o, B i, rfl, h1⟩
end
end Go.Proofs.Ytkepgcpogblfaaa
