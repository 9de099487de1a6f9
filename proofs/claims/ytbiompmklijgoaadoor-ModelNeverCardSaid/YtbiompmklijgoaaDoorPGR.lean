/-
  The steps from a law's walk to its row, the same for each law: arguments open as they lie, results read as true, all that was there is as it was. Conditions: those that stand in each theorem.
-/
import Derived.Test.YtbiompmklijgoaaDoorPU
import Derived.ProofKit
import Derived.OpenShut
import Derived.ChangeOld
import Derived.Carry
import Derived.Lib.SmallJoins
import Derived.Deep.Slices
import Derived.Deep.Fields
import Derived.ChangeSame
import Derived.Test.YtbiompmklijgoaaDoorPVa
import Derived.Test.YtbiompmklijgoaaDoorPGB
import Derived.ChangeVars
import Derived.JoinedOf
import Derived.RowKit
import Derived.RowKitTokens
import Derived.LaidLaws
import Derived.LaidHandle
import Derived.Stop.Joined
namespace Go.Proofs.YtbiompmklijgoaaDoor
set_option linter.unusedVariables false
set_option linter.unusedSimpArgs false
open Go.ChangeShapes Go.WideShapes Go.ChangeAt Go.RowKit Go.Joins Go.Deep

theorem own : ownKnob Tryd.prog.godebug = none := by kernel_rfl
theorem laidOut : laidOutB Tryd.prog = true := by kernel_rfl
theorem trodAll_below {H : Type} {enc : TypeId × Value → H} {P : Program} (hl : laidOutB P = true) {W W' : World} (hb : Below W.heap.size W W') :
    ∀ {ts : List TypeId} {vs : List Value} {ds : List (DataW H)} {ps : List MemPlace}, ts.all (fun t => P.readableRec t && decide (t < P.types.size)) = true → DataW.TrodAll enc P W 0 (fun _ => true) true ts vs ds ps →
      (∀ x ∈ ps, x.block < W.heap.size) → DataW.TrodAll enc P W' 0 (fun b => decide (b < W.heap.size)) true ts vs ds ps
  | [], _, _, _, _, h, _ => by
    obtain ⟨rfl, rfl, rfl⟩ := trodAll_nil h
    exact trodAll_mk0
  | t :: ts, _, _, _, ha, h, hlt => by
    obtain ⟨v, vs1, d, ds1, a, b, rfl, rfl, rfl, h1, h2⟩ := trodAll_cons h
    simp only [List.all_cons, Bool.and_eq_true, decide_eq_true_eq] at ha
    exact trodAll_cons_mk (Below.trod hl ha.1.1 ha.1.2 h1 hb fun x hx => hlt x (List.mem_append.2 (.inl hx))) (trodAll_below hl hb (by simpa using ha.2) h2 fun x hx => hlt x (List.mem_append.2 (.inr hx)))
/-- A law's post: it returned true, what was there has not changed. -/
theorem post_law {H : Type} {enc : TypeId × Value → H} {P : Program} {f : Func} {s : ChangeSpec} {W W' : World} {args : Array Value} {ds gs : List (DataW H)} {before : List MemPlace} {b : TypeId}
    (hl : laidOutB P = true) (hW : DataW.Whole enc P f.params.toList s.vars false W args.toList ds gs before) (hvars : s.vars = []) (hres : f.resultTypes.toList = [b]) (hsize : f.resultTypes.size = 1) (hb : P.underlying b = some .bool)
    (hs : (s.fn H (ds ++ gs)).results = [.lit (.bool true)] ∧ (s.fn H (ds ++ gs)).args = ds ∧ (s.fn H (ds ++ gs)).vars = []) (hok : f.params.toList.all (fun t => P.readableRec t && decide (t < P.types.size)) = true)
    (bel : Below W.heap.size W W') : s.post enc P f false true false false W args (.bool true) W' := by
  have hW0 := hW
  have hlt : ∀ x ∈ before, x.block < W.heap.size := fun x hx => hW.lt x hx
  obtain ⟨p, q, hA, hV, rfl, _, _⟩ := hW
  rw [hvars] at hV
  obtain ⟨rfl, rfl⟩ := trodVars_none hV
  obtain ⟨h1, h2, h3⟩ := hs
  refine ⟨ds, [], p ++ [], [], p, [], hW0, ?_, ?_, ?_, bel.frame _, fun h => by cases h⟩
  · rw [hres, h1, hsize]
    exact trodAll_mk1 (shut_bool hb _)
  · rw [h2]
    exact trodAll_below hl bel hok hA fun x hx => hlt x (List.mem_append.2 (.inl hx))
  · rw [h3, hvars]
    rfl
section
variable {H : Type} {enc : TypeId × Value → H} {W : World} {base : Nat} {spare : Nat → Bool} {held : Bool} {r : Reach} {b0 : Nat}
theorem w64_of {a : Int} (h : (Lit.int .i64 a).wf = true) : W64 a := by
  have hx : -9223372036854775808 ≤ a ∧ a ≤ 9223372036854775807 := by simpa [Lit.wf, IntKind.min, IntKind.max, IntKind.signed, IntKind.bits] using h
  exact hx
set_option maxRecDepth 100000 in
theorem int_shape {v : Value} {d : DataW H} {p : List MemPlace} (hv : Value.okWide Tryd.prog W r b0 3 v) (h : DataW.Trod enc Tryd.prog W base spare held 3 v d p) :
    ∃ k : Int, v = .int .i64 k ∧ -9223372036854775808 ≤ k ∧ k ≤ 9223372036854775807 := by
  obtain ⟨a, rfl, _, _, hw⟩ := open_int Tryd.underlying3 hv h
  have hx : -9223372036854775808 ≤ a ∧ a ≤ 9223372036854775807 := by simpa [Lit.wf, IntKind.min, IntKind.max, IntKind.signed, IntKind.bits] using hw
  exact ⟨a, rfl, hx.1, hx.2⟩
set_option maxRecDepth 100000 in
theorem bool_shape {v : Value} {d : DataW H} {p : List MemPlace} (hv : Value.okWide Tryd.prog W r b0 4 v) (h : DataW.Trod enc Tryd.prog W base spare held 4 v d p) :
    ∃ k : Bool, v = .bool k := by
  obtain ⟨a, rfl, _⟩ := open_bool Tryd.underlying4 hv h
  exact ⟨a, rfl⟩
end
section
variable {H : Type} {enc : TypeId × Value → H} {W : World} {base : Nat} {spare : Nat → Bool} {held : Bool} {r : Reach} {b0 : Nat}
set_option maxRecDepth 100000 in
theorem cellsInt : Tryd.prog.cellsOf 3 = 1 := by kernel_rfl
theorem three_of {cs : List Value} (h : cs.length = 3) : ∃ a b c, cs = [a, b, c] := by
  match cs, h with
  | [a, b, c], _ => exact ⟨a, b, c, rfl⟩
theorem seven_of {cs : List Value} (h : cs.length = 7) : ∃ a b c d e f g, cs = [a, b, c, d, e, f, g] := by
  match cs, h with
  | [a, b, c, d, e, f, g], _ => exact ⟨a, b, c, d, e, f, g, rfl⟩
set_option maxRecDepth 100000 in
theorem int_of {n : Nat} {v : Value} {y : Option (DataW H × List MemPlace)} {y' : DataW H × List MemPlace} (h : DataW.trod enc Tryd.prog W base spare held n 3 [v] = y) (hy : y = some y') : ∃ k : Int, v = .int .i64 k ∧ W64 k := by
  subst hy
  obtain ⟨a, e, _, hw⟩ := DataW.trod_int Tryd.underlying3 h
  simp at e
  exact ⟨a, e, w64_of hw⟩
end
theorem cell_off {g o j : Nat} : ((⟨g, o, none⟩ : Addr).add j) = ⟨g, o + j, none⟩ := by
  unfold Addr.add
  by_cases h : j = 0 <;> simp [h]
end Go.Proofs.YtbiompmklijgoaaDoor
/-
  A Step in plain numbers; what a Step, and a slice of Steps, that came in reads as. Conditions: those that stand in each theorem.
-/
namespace Go.Proofs.YtbiompmklijgoaaDoor
set_option linter.unusedVariables false
set_option linter.unusedSimpArgs false
open Go.ChangeShapes Go.WideShapes Go.ChangeAt Go.RowKit Go.Joins Go.Deep

/-- A call, as the laws give it. -/
structure SP where
  k : Int
  mu : Int
  act : MA
  a : Int
  b : Int
  c : Int
def SP.cells (s : SP) : Array Value := #[.int .i64 s.k, .int .i64 s.mu, .int .i64 s.act.k, .int .i64 s.act.a, .int .i64 s.act.b, .int .i64 s.act.i, .int .i64 s.act.n, .int .i64 s.act.r, .int .i64 s.act.d, .int .i64 s.act.s, .int .i64 s.a, .int .i64 s.b, .int .i64 s.c]
structure SP.Ok (s : SP) : Prop where
  k : W64 s.k
  mu : W64 s.mu
  n : W64 s.act.n
  a : W64 s.a
  b : W64 s.b
  c : W64 s.c
/-- A slice of Steps, wherever it lies. -/
structure StepsR (W : World) (A : Option Addr) (len : Nat) (X : Nat → SP) : Prop where
  le : len ≤ maxLen
  ok : ∀ i, i < len → (X i).Ok
  at_ : ∀ i, i < len → ∃ g o, A = some ⟨g, o, none⟩ ∧ W.rangeAt g (o + i * 13) (X i).cells.toList
theorem StepsR.kp0 {W W' : World} {A : Option Addr} {len : Nat} {X : Nat → SP} (h : StepsR W A len X) (k : Kp [] W W') : StepsR W' A len X :=
  ⟨h.le, h.ok, fun i hi => by
    obtain ⟨g, o, e, c⟩ := h.at_ i hi
    exact ⟨g, o, e, fun j v hv => cell_kp k (c j v hv)⟩⟩
theorem eight_of {cs : List Value} (h : cs.length = 8) : ∃ a b c d e f g i, cs = [a, b, c, d, e, f, g, i] := by
  match cs, h with
  | [a, b, c, d, e, f, g, i], _ => exact ⟨a, b, c, d, e, f, g, i, rfl⟩
theorem thirteen_of {cs : List Value} (h : cs.length = 13) : ∃ a b c d e f g i j k l m n, cs = [a, b, c, d, e, f, g, i, j, k, l, m, n] := by
  match cs, h with
  | [a, b, c, d, e, f, g, i, j, k, l, m, n], _ => exact ⟨a, b, c, d, e, f, g, i, j, k, l, m, n, rfl⟩
section
variable {H : Type} {enc : TypeId × Value → H} {W : World} {base : Nat} {spare : Nat → Bool} {held : Bool} {r : Reach} {b0 : Nat}
set_option maxRecDepth 100000 in
theorem cellsShape4 : Tryd.prog.cellsOf 33 = 3 := by kernel_rfl
set_option maxRecDepth 100000 in
theorem cellsAct4 : Tryd.prog.cellsOf 35 = 8 := by kernel_rfl
set_option maxRecDepth 100000 in
theorem cellsStep4 : Tryd.prog.cellsOf 37 = 13 := by kernel_rfl
set_option maxRecDepth 100000 in
theorem shape_cells4 {cs : List Value} {n : Nat} {x : DataW H × List MemPlace} (h : DataW.trod enc Tryd.prog W base spare held n 33 cs = some x) :
    ∃ a b c : Int, cs = [.int .i64 a, .int .i64 b, .int .i64 c] := by
  obtain ⟨y0, y1, y2, m, _, hlen, h0, h1, h2⟩ := trod_struct3 Tryd.underlying33 h
  obtain ⟨v0, v1, v2, rfl⟩ := three_of (hlen.trans cellsShape4)
  simp only [cellsInt] at h0 h1 h2
  obtain ⟨a, rfl, _⟩ := int_of (show DataW.trod enc Tryd.prog W base spare held m 3 [v0] = some y0 from h0) rfl
  obtain ⟨b, rfl, _⟩ := int_of (show DataW.trod enc Tryd.prog W base spare held m 3 [v1] = some y1 from h1) rfl
  obtain ⟨c, rfl, _⟩ := int_of (show DataW.trod enc Tryd.prog W base spare held m 3 [v2] = some y2 from h2) rfl
  exact ⟨a, b, c, rfl⟩
set_option maxRecDepth 100000 in
theorem act_cells4 {cs : List Value} {n : Nat} {x : DataW H × List MemPlace} (h : DataW.trod enc Tryd.prog W base spare held n 35 cs = some x) :
    ∃ y : MA, W64 y.n ∧ cs = y.cells.toList := by
  obtain ⟨xs, m, _, _, hlen, hx, hf⟩ := DataW.trod_struct Tryd.underlying35 h
  obtain ⟨v0, v1, v2, v3, v4, v5, v6, v7, rfl⟩ := eight_of (hlen.trans cellsAct4)
  have e0 : DataW.trod enc Tryd.prog W base spare held m 3 (([v0, v1, v2, v3, v4, v5, v6, v7].drop 0).take (Tryd.prog.cellsOf 3)) = xs[0]? := hf 0 _ rfl
  have e1 : DataW.trod enc Tryd.prog W base spare held m 3 (([v0, v1, v2, v3, v4, v5, v6, v7].drop 1).take (Tryd.prog.cellsOf 3)) = xs[1]? := hf 1 _ rfl
  have e2 : DataW.trod enc Tryd.prog W base spare held m 3 (([v0, v1, v2, v3, v4, v5, v6, v7].drop 2).take (Tryd.prog.cellsOf 3)) = xs[2]? := hf 2 _ rfl
  have e3 : DataW.trod enc Tryd.prog W base spare held m 3 (([v0, v1, v2, v3, v4, v5, v6, v7].drop 3).take (Tryd.prog.cellsOf 3)) = xs[3]? := hf 3 _ rfl
  have e4 : DataW.trod enc Tryd.prog W base spare held m 3 (([v0, v1, v2, v3, v4, v5, v6, v7].drop 4).take (Tryd.prog.cellsOf 3)) = xs[4]? := hf 4 _ rfl
  have e5 : DataW.trod enc Tryd.prog W base spare held m 33 (([v0, v1, v2, v3, v4, v5, v6, v7].drop 5).take (Tryd.prog.cellsOf 33)) = xs[5]? := hf 5 _ rfl
  rw [cellsInt] at e0
  rw [cellsInt] at e1
  rw [cellsInt] at e2
  rw [cellsInt] at e3
  rw [cellsInt] at e4
  rw [cellsShape4] at e5
  have hxn : xs.length = 6 := hx
  have g : ∀ i, i < 6 → ∃ y, xs[i]? = some y := fun i hi => ⟨xs[i]'(by omega), List.getElem?_eq_getElem (by omega)⟩
  obtain ⟨y0, q0⟩ := g 0 (by omega)
  obtain ⟨y1, q1⟩ := g 1 (by omega)
  obtain ⟨y2, q2⟩ := g 2 (by omega)
  obtain ⟨y3, q3⟩ := g 3 (by omega)
  obtain ⟨y4, q4⟩ := g 4 (by omega)
  obtain ⟨y5, q5⟩ := g 5 (by omega)
  obtain ⟨z0, rfl, w0⟩ := int_of (show DataW.trod enc Tryd.prog W base spare held m 3 [v0] = _ from e0) q0
  obtain ⟨z1, rfl, w1⟩ := int_of (show DataW.trod enc Tryd.prog W base spare held m 3 [v1] = _ from e1) q1
  obtain ⟨z2, rfl, w2⟩ := int_of (show DataW.trod enc Tryd.prog W base spare held m 3 [v2] = _ from e2) q2
  obtain ⟨z3, rfl, w3⟩ := int_of (show DataW.trod enc Tryd.prog W base spare held m 3 [v3] = _ from e3) q3
  obtain ⟨z4, rfl, w4⟩ := int_of (show DataW.trod enc Tryd.prog W base spare held m 3 [v4] = _ from e4) q4
  rw [q5] at e5
  obtain ⟨s0, s1, s2, he5⟩ := shape_cells4 (show DataW.trod enc Tryd.prog W base spare held m 33 [v5, v6, v7] = _ from e5)
  simp only [List.cons.injEq, and_true] at he5
  obtain ⟨rfl, rfl, rfl⟩ := he5
  exact ⟨⟨z0, z1, z2, z3, z4, s0, s1, s2⟩, w4, rfl⟩
set_option maxRecDepth 100000 in
theorem step_cells4 {cs : List Value} {n : Nat} {x : DataW H × List MemPlace} (h : DataW.trod enc Tryd.prog W base spare held n 37 cs = some x) :
    ∃ y : SP, y.Ok ∧ cs = y.cells.toList := by
  obtain ⟨xs, m, _, _, hlen, hx, hf⟩ := DataW.trod_struct Tryd.underlying37 h
  obtain ⟨v0, v1, v2, v3, v4, v5, v6, v7, v8, v9, v10, v11, v12, rfl⟩ := thirteen_of (hlen.trans cellsStep4)
  have e0 : DataW.trod enc Tryd.prog W base spare held m 3 (([v0, v1, v2, v3, v4, v5, v6, v7, v8, v9, v10, v11, v12].drop 0).take (Tryd.prog.cellsOf 3)) = xs[0]? := hf 0 _ rfl
  have e1 : DataW.trod enc Tryd.prog W base spare held m 3 (([v0, v1, v2, v3, v4, v5, v6, v7, v8, v9, v10, v11, v12].drop 1).take (Tryd.prog.cellsOf 3)) = xs[1]? := hf 1 _ rfl
  have e2 : DataW.trod enc Tryd.prog W base spare held m 35 (([v0, v1, v2, v3, v4, v5, v6, v7, v8, v9, v10, v11, v12].drop 2).take (Tryd.prog.cellsOf 35)) = xs[2]? := hf 2 _ rfl
  have e3 : DataW.trod enc Tryd.prog W base spare held m 3 (([v0, v1, v2, v3, v4, v5, v6, v7, v8, v9, v10, v11, v12].drop 10).take (Tryd.prog.cellsOf 3)) = xs[3]? := hf 3 _ rfl
  have e4 : DataW.trod enc Tryd.prog W base spare held m 3 (([v0, v1, v2, v3, v4, v5, v6, v7, v8, v9, v10, v11, v12].drop 11).take (Tryd.prog.cellsOf 3)) = xs[4]? := hf 4 _ rfl
  have e5 : DataW.trod enc Tryd.prog W base spare held m 3 (([v0, v1, v2, v3, v4, v5, v6, v7, v8, v9, v10, v11, v12].drop 12).take (Tryd.prog.cellsOf 3)) = xs[5]? := hf 5 _ rfl
  rw [cellsInt] at e0
  rw [cellsInt] at e1
  rw [cellsAct4] at e2
  rw [cellsInt] at e3
  rw [cellsInt] at e4
  rw [cellsInt] at e5
  have hxn : xs.length = 6 := hx
  have g : ∀ i, i < 6 → ∃ y, xs[i]? = some y := fun i hi => ⟨xs[i]'(by omega), List.getElem?_eq_getElem (by omega)⟩
  obtain ⟨y0, q0⟩ := g 0 (by omega)
  obtain ⟨y1, q1⟩ := g 1 (by omega)
  obtain ⟨y2, q2⟩ := g 2 (by omega)
  obtain ⟨y3, q3⟩ := g 3 (by omega)
  obtain ⟨y4, q4⟩ := g 4 (by omega)
  obtain ⟨y5, q5⟩ := g 5 (by omega)
  obtain ⟨z0, rfl, w0⟩ := int_of (show DataW.trod enc Tryd.prog W base spare held m 3 [v0] = _ from e0) q0
  obtain ⟨z1, rfl, w1⟩ := int_of (show DataW.trod enc Tryd.prog W base spare held m 3 [v1] = _ from e1) q1
  rw [q2] at e2
  obtain ⟨ya, wa, he2⟩ := act_cells4 (show DataW.trod enc Tryd.prog W base spare held m 35 [v2, v3, v4, v5, v6, v7, v8, v9] = _ from e2)
  obtain ⟨ak, aa, ab, ai, an, ar, ad, as_⟩ := ya
  simp only [MA.cells, List.cons.injEq, and_true] at he2
  obtain ⟨rfl, rfl, rfl, rfl, rfl, rfl, rfl, rfl⟩ := he2
  obtain ⟨z10, rfl, w10⟩ := int_of (show DataW.trod enc Tryd.prog W base spare held m 3 [v10] = _ from e3) q3
  obtain ⟨z11, rfl, w11⟩ := int_of (show DataW.trod enc Tryd.prog W base spare held m 3 [v11] = _ from e4) q4
  obtain ⟨z12, rfl, w12⟩ := int_of (show DataW.trod enc Tryd.prog W base spare held m 3 [v12] = _ from e5) q5
  exact ⟨⟨z0, z1, ⟨ak, aa, ab, ai, an, ar, ad, as_⟩, z10, z11, z12⟩, ⟨w0, w1, wa, w10, w11, w12⟩, rfl⟩
set_option maxRecDepth 100000 in
theorem step_shape {v : Value} {d : DataW H} {p : List MemPlace} (hv : Value.okWide Tryd.prog W r b0 37 v) (h : DataW.Trod enc Tryd.prog W base spare held 37 v d p) :
    ∃ y : SP, v = .agg y.cells ∧ y.Ok := by
  obtain ⟨cs, rfl, hsz⟩ := okWide_struct Tryd.underlying37 hv
  obtain ⟨fuel, hf⟩ := h
  obtain ⟨y, hy, he⟩ := step_cells4 (show DataW.trod enc Tryd.prog W base spare held fuel 37 cs.toList = _ from hf)
  refine ⟨y, ?_, hy⟩
  congr 1
  exact Array.toList_inj.1 he
theorem rangeAt_add {g o : Nat} {cs : List Value} {n : Nat} (hl : cs.length = n) (hat : ∀ j, (hj : j < n) → W.cell? (((⟨g, o, none⟩ : Addr)).add j) = cs[j]?) : W.rangeAt g o cs := fun j v hv => by
  have hj := (List.getElem?_eq_some_iff.1 hv).1
  have := hat j (by omega)
  rw [cell_off] at this
  rw [this, hv]
set_option maxRecDepth 100000 in
theorem steps_shape {v : Value} {d : DataW H} {p : List MemPlace} (hv : Value.okWide Tryd.prog W r b0 22 v) (h : DataW.Trod enc Tryd.prog W base spare held 22 v d p) :
    ∃ A len cap X, v = .slice A len cap ∧ StepsR W A len X := by
  obtain ⟨A, len, cap, rfl⟩ := okWide_slice Tryd.underlying22 hv
  refine ⟨A, len, cap, ?_⟩
  obtain ⟨fuel, hf⟩ := h
  have dflt : Inhabited SP := ⟨⟨0, 0, ⟨0, 0, 0, 0, 0, 0, 0, 0⟩, 0, 0, 0⟩⟩
  rcases open_slice Tryd.underlying22 hf with ⟨hcs, _⟩ | ⟨a, len', cap', m, n, D, Pl, hcs, _, hl, hcm, hm, _, hi⟩
  · simp [Value.cells] at hcs
    obtain ⟨rfl, rfl, rfl⟩ := hcs
    exact ⟨fun _ => default, rfl, ⟨Nat.zero_le _, fun i hi => absurd hi (by omega), fun i hi => absurd hi (by omega)⟩⟩
  · simp [Value.cells] at hcs
    obtain ⟨rfl, rfl, rfl⟩ := hcs
    have hlm : len ≤ m := by rw [hm]; split <;> omega
    obtain ⟨g, o, spot⟩ := a
    have hx : ∀ i, ∃ x : SP, i < len → x.Ok ∧ spot = none ∧ W.rangeAt g (o + i * 13) x.cells.toList := fun i => by
      by_cases hlt : i < len
      · have hspot : spot = none := by
          obtain ⟨cs0, hc0, ht0⟩ := hi 0 (by omega)
          obtain ⟨y, _, rfl⟩ := step_cells4 ht0
          rw [cellsStep4] at hc0
          have hs := World.cell?_spot ((World.cells?_some hc0).2.2 0 (by omega))
          simpa [Addr.add] using hs
        subst hspot
        obtain ⟨cs', hc, ht⟩ := hi i (by omega)
        obtain ⟨y, hy, rfl⟩ := step_cells4 ht
        rw [cellsStep4] at hc
        obtain ⟨_, _, hat⟩ := World.cells?_some hc
        refine ⟨y, fun _ => ⟨hy, rfl, ?_⟩⟩
        refine rangeAt_add (n := 13) rfl (fun j hj => ?_)
        have := hat j (by omega)
        rw [cell_off, cell_off] at this
        rw [cell_off, this]
      · exact ⟨default, fun h => absurd h hlt⟩
    have hX := fun i => Classical.choose_spec (hx i)
    refine ⟨fun i => Classical.choose (hx i), rfl, ⟨by omega, fun i hi => (hX i hi).1, fun i hi => ?_⟩⟩
    obtain ⟨_, hs, hc⟩ := hX i hi
    exact ⟨g, o, by rw [hs], hc⟩
end
end Go.Proofs.YtbiompmklijgoaaDoor
/-
  The table of loose references as the row lays it; a world that meets it. Conditions: those that stand in each theorem.
-/
namespace Go.Proofs.YtbiompmklijgoaaDoor
set_option linter.unusedVariables false
set_option linter.unusedSimpArgs false
open Go.ChangeShapes Go.WideShapes Go.ChangeAt Go.RowKit

theorem looseAt : Tryd.prog.globalNamed "dustcart/model.loose" = some 0 := by kernel_rfl
theorem looseType : (Tryd.prog.globals[0]?).map (·.type) = some 111 := by kernel_rfl
set_option maxRecDepth 100000 in
theorem looseCells : Tryd.prog.cellsOf 111 = 4 := by kernel_rfl
def loose4 : Array Value := #[.int .i64 0, .int .i64 1, .int .i64 2, .int .i64 0]
theorem laid_int {H : Type} {enc : TypeId × Value → H} {P : Program} {w : World} {base : Nat} {sp : Nat → Bool} {held : Bool} {fuel : Nat} {t : TypeId} {k : IntKind} {c : Value} {y : DataW H × List MemPlace}
    (ht : P.underlying t = some (.int k)) (h : DataW.trod enc P w base sp held fuel t [c] = some y) : ∃ n, c = .int k n ∧ y = (.lit (.int k n), []) := by
  cases fuel with
  | zero => simp [DataW.trod] at h
  | succ fuel =>
    cases c <;> simp [DataW.trod, ht] at h
    rename_i k' n
    obtain ⟨⟨rfl, _⟩, rfl⟩ := h
    exact ⟨n, rfl, rfl⟩
def looseLaid : List (String × DataW Unit) := [("dustcart/model.loose", Rows.laid_dustcart_model_loose)]
set_option maxRecDepth 100000 in
theorem loose_of_laid {W : World} (h : laidMetH Tryd.prog looseLaid W) : W.var? Tryd.prog "dustcart/model.loose" = some loose4 := by
  have h' : laidMet Tryd.prog looseLaid W := h
  obtain ⟨ps, ⟨g, t, cs, fuel, p, q, hg, ht, hvar, hd, _, _⟩, _⟩ := h'
  obtain rfl := Option.some.inj (looseAt.symm.trans hg)
  obtain rfl := Option.some.inj (looseType.symm.trans ht)
  rw [hvar]
  congr 1
  obtain ⟨l⟩ := cs
  cases fuel with
  | zero => simp [DataW.trod] at hd
  | succ fuel =>
    simp only [DataW.trod, Tryd.underlying111, looseCells, cellsInt] at hd
    split at hd
    · rename_i hl
      obtain ⟨c0, c1, c2, c3, rfl⟩ : ∃ c0 c1 c2 c3, l = [c0, c1, c2, c3] := by
        match l, hl with
        | [a, b, c, d], _ => exact ⟨a, b, c, d, rfl⟩
      have e : List.range 4 = [0, 1, 2, 3] := rfl
      rw [e] at hd
      simp only [Option.map_eq_some_iff, List.mapM_cons, List.mapM_nil, Option.bind_eq_bind, Option.bind_eq_some_iff, Option.pure_def, Option.some.injEq] at hd
      obtain ⟨xs, ⟨y0, h0, _, ⟨y1, h1, _, ⟨y2, h2, _, ⟨y3, h3, _, rfl, rfl⟩, rfl⟩, rfl⟩, rfl⟩, hx⟩ := hd
      obtain ⟨n0, rfl, rfl⟩ := laid_int Tryd.underlying3 h0
      obtain ⟨n1, rfl, rfl⟩ := laid_int Tryd.underlying3 h1
      obtain ⟨n2, rfl, rfl⟩ := laid_int Tryd.underlying3 h2
      obtain ⟨n3, rfl, rfl⟩ := laid_int Tryd.underlying3 h3
      simp [Rows.laid_dustcart_model_loose] at hx
      obtain ⟨⟨rfl, rfl, rfl, rfl⟩, _⟩ := hx
      rfl
    · cases hd
theorem LZ.of_laid {W : World} (h : laidMetH Tryd.prog looseLaid W) : LZ W := by
  have hv := loose_of_laid h
  exact ⟨World.var?_cell looseAt hv 0, World.var?_cell looseAt hv 1, World.var?_cell looseAt hv 2, World.var?_cell looseAt hv 3⟩
noncomputable def laidWorld (os : Os) : World :=
  { World.holding Tryd.prog os ⟨#[], #[], []⟩ with heap := (World.holding Tryd.prog os ⟨#[], #[], []⟩).heap.modify 0 fun
      | .cells _ t frozen => .cells loose4 t frozen
      | o => o }
set_option maxRecDepth 100000 in
theorem laidWorld_row (os : Os) (args : Array Value) : ((laidWorld os).forCall (fun _ _ => 0) ⟨#[], args, []⟩).memory.heap[0]? = some (.cells loose4 111 (0, 0)) := by kernel_rfl
set_option maxRecDepth 100000 in
theorem laidWorld_met (os : Os) (args : Array Value) : laidMetH Tryd.prog looseLaid ((laidWorld os).forCall (fun _ _ => 0) ⟨#[], args, []⟩).memory := by
  have h : laidMet Tryd.prog looseLaid ((laidWorld os).forCall (fun _ _ => 0) ⟨#[], args, []⟩).memory :=
    ⟨_, ⟨0, 111, loose4, 8, [], [], by kernel_rfl, by kernel_rfl, by kernel_rfl, by kernel_rfl, rfl, rfl⟩, by decide, fun b off h => by
        have h' : MemPlace.cell b off ∈ [MemPlace.cell 0 0, .cell 0 1, .cell 0 2, .cell 0 3] := h
        have hb : b = 0 := by
          simp at h'
          omega
        subst hb
        refine ⟨⟨_, _, laidWorld_row os args⟩, fun u v hc => ?_⟩
        simp only [World.cell?, laidWorld_row os args] at hc
        simp at h'
        rcases h' with rfl | rfl | rfl | rfl <;> simp [loose4] at hc⟩
  exact h
end Go.Proofs.YtbiompmklijgoaaDoor
