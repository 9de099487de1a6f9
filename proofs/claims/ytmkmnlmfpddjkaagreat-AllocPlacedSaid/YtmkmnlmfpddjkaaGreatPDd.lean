/-
  The contracts of the document's heap's Ref, Data, Shape, Find. Conditions: those that stand in each theorem.
-/
import Derived.BigQuiet
import Derived.Deep.RegionHeld3
import Derived.Test.YtmkmnlmfpddjkaaGreatPG10
import Derived.Test.YtmkmnlmfpddjkaaGreatPG12
namespace Go.Proofs.YtmkmnlmfpddjkaaGreat
set_option linter.unusedVariables false
set_option linter.unusedSimpArgs false
open Go.RowKit Go.Deep Go.Maps

theorem objInfo : (Tryz.prog.info? 109).map (·.size) = some 8 := by kernel_rfl
theorem objOne (x : DO) : (#[.int .i64 (x.a : Int), .int .i64 (x.o.id : Int), .int .i64 (x.o.refs : Int), .int .i64 (x.o.data : Int), .int .i64 (x.o.kind : Int), .slice (some ⟨x.rb, 0, none⟩) x.o.refs x.rc, .slice (some ⟨x.db, 0, none⟩) x.o.data x.dc, .bool x.o.pin] : Array Value).all (·.oneCell') = true := all_oneCell_toArray (cs := x.cells) (fun v hv => ocells_one [x] v (by simpa [ocells] using hv))
theorem kp_cellD {w W : World} {g i : Nat} {u : Value} (k : Kp [] w W) (h : w.cell? ⟨g, i, none⟩ = some u) : W.cell? ⟨g, i, none⟩ = some u := cell_kp k h
theorem OCell.kp {S : List Nat} {w W : World} {g i : Nat} {x : DO} (h : OCell w g i x) (k : Kp S w W) (hS : g ∉ S) : OCell W g i x :=
  ⟨cell_kps k h.c0 hS, cell_kps k h.c1 hS, cell_kps k h.c2 hS, cell_kps k h.c3 hS, cell_kps k h.c4 hS, cell_kps k h.c5 hS, cell_kps k h.c6 hS, cell_kps k h.c7 hS⟩
theorem OCell.kp0 {w W : World} {g i : Nat} {x : DO} (h : OCell w g i x) (k : Kp [] w W) : OCell W g i x := h.kp k (by simp)
section
variable {w w' W : World} {d : DB} {q : Nat} {m : HM}
end
end Go.Proofs.YtmkmnlmfpddjkaaGreat
