/-
  The contracts of package model's need, ways, told. Conditions: those that stand in each theorem.
-/
import Derived.Test.YtbiompmklijgoaaDoorPVa
import Derived.Test.YtbiompmklijgoaaDoorPGA
import Derived.Deep.DeepCutAuto
import Derived.BigRegion
import Derived.BigQuiet
import Derived.Deep.RegionHeld3
namespace Go.Proofs.YtbiompmklijgoaaDoor
set_option linter.unusedVariables false
set_option linter.unusedSimpArgs false
open Go.RowKit Go.Deep Go.Maps

section
variable {w w' W V : World}
theorem m_need (w : World) (x : Value) (nd what v : Int) (B : Bool) (hv : bits .and .i64 nd what = v) (hB : (v != 0) = B) :
    Calls Tryd.prog 95 #[.agg #[.int .i64 nd, x], .int .i64 what] w fun e w' => e = .returned (.bool B) ∧ Kp [] w w' := by
  have K0 := Kp.new w (.cells #[.int .i64 nd, x] 99)
  have hb := Blk.new w 99 #[.int .i64 nd, x]
  have b0 := hb.cell 0
  have HK := hid K0
  have HB := hid hB
  clear K0 hb hB
  go_enter Tryd.func95, Tryd.ntmps95
  go_wp2
  go_ret
  rw [← HB.out]
  exact ⟨by first | rfl | trivial, HK.out⟩
def wayc : Array Value := #[.int .i64 2, .func (.func 83) #[] #[], .int .i64 25, .func (.func 84) #[] #[], .int .i64 21, .func (.func 85) #[] #[], .int .i64 36, .func (.func 86) #[] #[], .int .i64 36, .func (.func 87) #[] #[], .int .i64 1, .func (.func 88) #[] #[], .int .i64 0, .func (.func 89) #[] #[], .int .i64 1, .func (.func 90) #[] #[], .int .i64 0, .func (.func 91) #[] #[], .int .i64 64, .func (.func 92) #[] #[], .int .i64 64, .func (.func 93) #[] #[], .int .i64 4, .func (.func 94) #[] #[]]
theorem there_new (w : World) (cs : Array Value) (t : TypeId) (n : Nat) (h : n ≤ cs.size) : (w.alloc (.cells cs t)).there w.heap.size 0 n := fun j hj => by
  have b := Blk.new w t cs
  refine ⟨?_, ?_⟩
  · rw [Nat.zero_add, b.cell j, Array.getElem?_eq_getElem (by omega)]; rfl
  · rw [Nat.zero_add]; exact b.frozen j
theorem wayInfo : (Tryd.prog.info? 100).map (·.size) = some wayc.size := by kernel_rfl
theorem wayOne : wayc.all (·.oneCell') = true := by kernel_rfl
theorem wayInfoL : (Tryd.prog.info? 100).map (·.size) = some wayc.toList.length := by kernel_rfl
set_option maxRecDepth 100000 in
set_option maxHeartbeats 2000000 in
theorem m_ways (w : World) :
    Calls Tryd.prog 73 #[] w fun e w' => e = .returned (.agg wayc) ∧ Kp [] w w' := by
  have hu := Tryd.underlying100
  go_enter Tryd.func73, Tryd.ntmps73
  go_wp2_with (refine wpList_store_mid (by rfl) 100 (.tmp 0) (.tmp 13) (by rfl) w.heap.size 0 wayc (by rfl) (by rfl) (there_new w _ _ _ (by decide)) wayInfo wayOne ?_)
  have hex : ∀ cs : Array Value, 24 ≤ cs.size → ((w.alloc (.cells cs 100)).setCells w.heap.size 0 wayc.toList).rangeAt w.heap.size 0 wayc.toList ∧ Kp [] w ((w.alloc (.cells cs 100)).setCells w.heap.size 0 wayc.toList) := fun cs hc =>
    ⟨World.rangeAt_setCells_same _ _ _ _ (there_new w cs _ _ (by simpa [wayc] using hc)), (Kp.new w _).trans (Kp.setCells _ _ _ _) (by simp) (by simp)⟩
  obtain ⟨hr, hk⟩ := hex #[.int .i64 0, .nilFunc, .int .i64 0, .nilFunc, .int .i64 0, .nilFunc, .int .i64 0, .nilFunc, .int .i64 0, .nilFunc, .int .i64 0, .nilFunc, .int .i64 0, .nilFunc, .int .i64 0, .nilFunc, .int .i64 0, .nilFunc, .int .i64 0, .nilFunc, .int .i64 0, .nilFunc, .int .i64 0, .nilFunc] (by decide)
  generalize ((w.alloc (.cells #[.int .i64 0, .nilFunc, .int .i64 0, .nilFunc, .int .i64 0, .nilFunc, .int .i64 0, .nilFunc, .int .i64 0, .nilFunc, .int .i64 0, .nilFunc, .int .i64 0, .nilFunc, .int .i64 0, .nilFunc, .int .i64 0, .nilFunc, .int .i64 0, .nilFunc, .int .i64 0, .nilFunc, .int .i64 0, .nilFunc] 100)).setCells w.heap.size 0 wayc.toList) = W9 at hr hk ⊢
  refine bodyPost_ret (v := .agg wayc) ?_ rfl ⟨rfl, hk⟩
  have hl := run_loadVar_mid (P := Tryd.prog) W9 w.heap.size 0 100 wayc.toList _ hr hu rfl wayInfoL
  simp [results, Tryd.results73, asAddr, Act.put, hl]
set_option maxRecDepth 100000 in
theorem m_told (w : World) (v : Value) (hv : ∃ A n c, v = .slice A n c) :
    Calls Tryd.prog 102 #[v] w fun e w' => e = .returned (.agg #[v, .int .i64 0, .int .i64 0, .int .i64 0, .int .i64 0, .int .i64 0, .int .i64 0]) ∧ Kp [] w w' := by
  obtain ⟨A, n, c, rfl⟩ := hv
  go_enter Tryd.func102, Tryd.ntmps102
  go_wp2
  refine bodyPost_ret (v := .agg #[.slice A n c, .int .i64 0, .int .i64 0, .int .i64 0, .int .i64 0, .int .i64 0, .int .i64 0]) ?_ rfl ⟨rfl, Kp.new _ _⟩
  simp [results, Tryd.results102, go_sem]
end
end Go.Proofs.YtbiompmklijgoaaDoor
/-
  What an act of package model does: its frame. Conditions: those that stand in each theorem.
-/
namespace Go.Proofs.YtbiompmklijgoaaDoor
set_option linter.unusedVariables false
set_option linter.unusedSimpArgs false
open Go.RowKit Go.Deep Go.Maps

/-- An act. -/
structure MA where
  k : Int
  a : Int
  b : Int
  i : Int
  n : Int
  r : Int
  d : Int
  s : Int
def MA.cells (x : MA) : Array Value := #[.int .i64 x.k, .int .i64 x.a, .int .i64 x.b, .int .i64 x.i, .int .i64 x.n, .int .i64 x.r, .int .i64 x.d, .int .i64 x.s]
/-- What it did. -/
structure EF where
  tv : Value
  o : Int
  i : Int
  old : Int
  new : Int
  made : Int
  load : Int
def EF.cells (x : EF) : Array Value := #[x.tv, .int .i64 x.o, .int .i64 x.i, .int .i64 x.old, .int .i64 x.new, .int .i64 x.made, .int .i64 x.load]
def EF.non : EF := ⟨.slice none 0 0, 0, 0, 0, 0, 0, 0⟩
/-- What it tells lies in new memory. -/
def Tell (w w' : World) (v : Value) (zs : List Int) : Prop := FarI w' w.heap.size v zs
theorem set7 {W : World} {g : Nat} {T : TypeId} {p0 p1 p2 p3 p4 p5 p6 : Value} (a b c d e f h : Value) (hB : Blk W g T #[p0, p1, p2, p3, p4, p5, p6]) :
    Blk (((((((W.setCell ⟨g, 0, none⟩ a).setCell ⟨g, 1, none⟩ b).setCell ⟨g, 2, none⟩ c).setCell ⟨g, 3, none⟩ d).setCell ⟨g, 4, none⟩ e).setCell ⟨g, 5, none⟩ f).setCell ⟨g, 6, none⟩ h) g T #[a, b, c, d, e, f, h] ∧ Kp [g] W (((((((W.setCell ⟨g, 0, none⟩ a).setCell ⟨g, 1, none⟩ b).setCell ⟨g, 2, none⟩ c).setCell ⟨g, 3, none⟩ d).setCell ⟨g, 4, none⟩ e).setCell ⟨g, 5, none⟩ f).setCell ⟨g, 6, none⟩ h) := by
  have h0 : Blk (W.setCell ⟨g, 0, none⟩ a) g T #[a, p1, p2, p3, p4, p5, p6] := hB.set_ 0 a
  have h1 : Blk ((W.setCell ⟨g, 0, none⟩ a).setCell ⟨g, 1, none⟩ b) g T #[a, b, p2, p3, p4, p5, p6] := h0.set_ 1 b
  have h2 : Blk (((W.setCell ⟨g, 0, none⟩ a).setCell ⟨g, 1, none⟩ b).setCell ⟨g, 2, none⟩ c) g T #[a, b, c, p3, p4, p5, p6] := h1.set_ 2 c
  have h3 := h2.set_ 3 d
  have h4 := h3.set_ 4 e
  have h5 := h4.set_ 5 f
  have h6 := h5.set_ 6 h
  have k : ∀ (V : World) (j : Nat) (v : Value), Kp [g] V (V.setCell ⟨g, j, none⟩ v) := fun V j v => Kp.cell V ⟨g, j, none⟩ v
  have q : ∀ {A B C : World}, Kp [g] A B → Kp [g] B C → Kp [g] A C := fun u v => u.trans v (fun x hx => .inl hx) (fun x hx => .inl hx)
  exact ⟨h6, q (q (q (q (q (q (k _ 0 a) (k _ 1 b)) (k _ 2 c)) (k _ 3 d)) (k _ 4 e)) (k _ 5 f)) (k _ 6 h)⟩
theorem zeroEff (w : World) : (zeroValue 73).run Tryd.prog w = .ok (.agg #[.slice none 0 0, .int .i64 0, .int .i64 0, .int .i64 0, .int .i64 0, .int .i64 0, .int .i64 0]) w := by kernel_rfl
section
variable {w w' W V : World} {b : MB} {t : MT}
theorem MR.cs_f (R : MR w b t) (i : Nat) : w.frozen? ⟨b.sb, i, none⟩ = false := by
  obtain ⟨c, sp, h1, h2, h3, G, B⟩ := R.mem
  exact B.frozen i
/-- While an act is done: the model, the act's box, the effect. -/
structure DC (w : World) (b0 b : MB) (t : MT) (x : MA) (ef : Array Value) (W : World) : Prop where
  R : MR W b t
  A : Blk W w.heap.size 35 x.cells
  E : Blk W (w.heap.size + 1) 73 ef
  g : b.g = b0.g
  sb : b.sb = b0.sb
  kp : Kp b0.all w W
  lo : ∀ y ∈ b0.all, y < w.heap.size
  nw : ∀ y ∈ b.all, y ∈ b0.all ∨ w.heap.size + 2 ≤ y
def ef0 : Array Value := #[.slice none 0 0, .int .i64 0, .int .i64 0, .int .i64 0, .int .i64 0, .int .i64 0, .int .i64 0]
variable {b0 : MB} {x : MA} {ef : Array Value}
theorem DC.start (R : MR w b t) : DC w b b t x ef0 ((w.alloc (.cells x.cells 35)).alloc (.cells ef0 73)) := by
  have k : Kp [] w ((w.alloc (.cells x.cells 35)).alloc (.cells ef0 73)) := (Kp.new _ _).chain (Kp.new _ _)
  have e := Blk.new (w.alloc (.cells x.cells 35)) 73 ef0
  rw [World.size_alloc] at e
  exact ⟨R.kp0 k, (Blk.new w _ _).kp (Kp.new _ _) (by simp), e, rfl, rfl, k.mono (by simp), R.lt, fun y hy => .inl hy⟩
theorem DC.notA (h : DC w b0 b t x ef W) : w.heap.size ∉ b.all ∧ w.heap.size + 1 ∉ b.all := by
  refine ⟨fun hm => ?_, fun hm => ?_⟩
  · rcases h.nw _ hm with h1 | h1
    · have := h.lo _ h1; omega
    · omega
  · rcases h.nw _ hm with h1 | h1
    · have := h.lo _ h1; omega
    · omega
theorem DC.kp0 (h : DC w b0 b t x ef W) (k : Kp [] W V) : DC w b0 b t x ef V := ⟨h.R.kp0 k, h.A.kp k (by simp), h.E.kp k (by simp), h.g, h.sb, h.kp.chain k, h.lo, h.nw⟩
theorem DC.chg {t' : MT} (h : DC w b0 b t x ef W) (c : ChgM W b t' V) : ∃ b', b'.g = b.g ∧ b'.sb = b.sb ∧ DC w b0 b' t' x ef V := by
  obtain ⟨b', e1, e2, R, K, n⟩ := c
  obtain ⟨n1, n2⟩ := h.notA
  have ha := h.A.lt
  have he := h.E.lt
  refine ⟨b', e1, e2, R, h.A.kp K n1, h.E.kp K n2, e1.trans h.g, e2.trans h.sb, h.kp.trans K (fun y hy => .inl hy) (fun y hy => ?_), h.lo, fun y hy => ?_⟩
  · rcases h.nw y hy with h1 | h1
    · exact .inl h1
    · exact .inr (by omega)
  · rcases n y hy with h1 | h1
    · exact h.nw y h1
    · exact .inr (by omega)
theorem DC.setS (h : DC w b0 b t x ef W) {p : Nat} {y : Int} (hp : p < 16 * t.n) (hy : t.idn y) : DC w b0 b (t.setS p y) x ef (W.setCell ⟨b.sb, p, none⟩ (.int .i64 y)) := by
  obtain ⟨R, K⟩ := h.R.setS hp (h.R.ok.setS hy)
  obtain ⟨b', e1, e2, D⟩ := h.chg ⟨b, rfl, rfl, R, K, fun z hz => .inl hz⟩
  obtain ⟨n1, n2⟩ := h.notA
  exact ⟨R, h.A.kp K n1, h.E.kp K n2, h.g, h.sb, D.kp, h.lo, h.nw⟩
theorem DC.setG (h : DC w b0 b t x ef W) {p : Nat} {y : Int} (hp : p < 16) (hy : t.idn y) : DC w b0 b (t.setG p y) x ef (W.setCell ⟨b.g, 1 + p, none⟩ (.int .i64 y)) := by
  obtain ⟨R, K⟩ := h.R.setG hp (h.R.ok.setG hy)
  obtain ⟨b', e1, e2, D⟩ := h.chg ⟨b, rfl, rfl, R, K, fun z hz => .inl hz⟩
  obtain ⟨n1, n2⟩ := h.notA
  exact ⟨R, h.A.kp K n1, h.E.kp K n2, h.g, h.sb, D.kp, h.lo, h.nw⟩
theorem effInfo : (Tryd.prog.info? 73).map (·.size) = some 7 := by kernel_rfl
theorem effOne {A : Option Addr} {n c : Nat} {x1 x2 x3 x4 x5 x6 : Int} : (#[Value.slice A n c, .int .i64 x1, .int .i64 x2, .int .i64 x3, .int .i64 x4, .int .i64 x5, .int .i64 x6] : Array Value).all (·.oneCell') = true :=
  all_oneCell_toArray (cs := [Value.slice A n c, .int .i64 x1, .int .i64 x2, .int .i64 x3, .int .i64 x4, .int .i64 x5, .int .i64 x6]) (fun v hv => by
    simp only [List.mem_cons, List.not_mem_nil, or_false] at hv
    rcases hv with rfl | rfl | rfl | rfl | rfl | rfl | rfl <;> rfl)
/-- The effect is there: the call ends. -/
theorem DC.fin {ef' : Array Value} (h : DC w b0 b t x ef W) (hs : ef.size = 7) (hs' : ef'.size = 7) :
    W.there (w.heap.size + 1) 0 ef'.size ∧ ChgM w b0 t (W.setCells (w.heap.size + 1) 0 ef'.toList) ∧ (W.setCells (w.heap.size + 1) 0 ef'.toList).rangeAt (w.heap.size + 1) 0 ef'.toList := by
  have ht : W.there (w.heap.size + 1) 0 ef'.size := fun j hj => by
    rw [hs'] at hj
    refine ⟨?_, ?_⟩
    · rw [Nat.zero_add, h.E.cell j, Array.getElem?_eq_getElem (by omega)]; rfl
    · rw [Nat.zero_add]; exact h.E.frozen j
  have hK : Kp [w.heap.size + 1] W (W.setCells (w.heap.size + 1) 0 ef'.toList) := Kp.setCells _ _ _ _
  have hz : 0 ∉ [w.heap.size + 1] := by simp
  have R2 := h.R.kp hK (fun y hy hm => by simp at hm; subst hm; exact h.notA.2 hy) hz
  refine ⟨ht, ⟨b, h.g, h.sb, R2, h.kp.trans hK (fun y hy => .inl hy) (fun y hy => .inr (by simp at hy; omega)), fun y hy => ?_⟩, World.rangeAt_setCells_same _ _ _ _ (by simpa using ht)⟩
  rcases h.nw y hy with h1 | h1
  · exact .inl h1
  · exact .inr (by omega)
theorem run_eff {W : World} {g : Nat} {cs : Array Value} (hs : cs.size = 7) (h : W.rangeAt g 0 cs.toList) : (loadVar 73 ⟨g, 0, none⟩).run Tryd.prog W = .ok (.agg cs) W := by
  have := run_loadVar_mid (P := Tryd.prog) W g 0 73 cs.toList _ h Tryd.underlying73 rfl (by rw [effInfo]; simp [hs])
  simpa using this
/-- A store of many cells, at a step of a region that draws its order. -/
theorem step_store_mid {ops : Array Oper} {o : Oper} {a : Act} {w : World} {K : Act → World → Prop} {Q : Exit → Act → World → Prop} {E : Prop} (hgd : o.guard = none) (ty : TypeId) (x y : Operand) (ho : o.op = .store ty x y)
    (b o' : Nat) (cells : Array Value) (hx : a.eval x = .pointer (some ⟨b, o', none⟩)) (hy : a.eval y = .agg cells) (ht : w.there b o' cells.size) (hi : (Tryd.prog.info? ty).map (·.size) = some cells.size) (h1 : cells.all (·.oneCell') = true)
    (h : K (a.put o.dst undef) (w.setCells b o' cells.toList)) : if Region.wanted o (yielded ops a.tmps) = true then Oper.wp Tryd.prog o a w K Q else E := by
  have hw : Region.wanted o (yielded ops a.tmps) = true := by simp [Region.wanted, hgd]
  rw [if_pos hw]
  exact wp_store_mid ty x y ho b o' cells hx hy ht hi h1 h
theorem DC.out (h : DC w b0 b t x ef W) : ChgM w b0 t W := ⟨b, h.g, h.sb, h.R, h.kp, fun y hy => by
  rcases h.nw y hy with h1 | h1
  · exact .inl h1
  · exact .inr (by omega)⟩
end
end Go.Proofs.YtbiompmklijgoaaDoor
/-
  The contracts of package model's doIdent, doSame. Conditions: those that stand in each theorem.
-/
namespace Go.Proofs.YtbiompmklijgoaaDoor
set_option linter.unusedVariables false
set_option linter.unusedSimpArgs false
open Go.RowKit Go.Deep Go.Maps

section
variable {w w' W V : World} {b b0 : MB} {t : MT} {x : MA} {ef : Array Value}
def tellc (v : Value) : Array Value := #[v, .int .i64 0, .int .i64 0, .int .i64 0, .int .i64 0, .int .i64 0, .int .i64 0]
theorem DC.told (h : DC w b0 b t x ef W) (hs : ef.size = 7) {A : Option Addr} {n c : Nat} {zs : List Int} (F : FarI W (w.heap.size + 2) (.slice A n c) zs) :
    W.there (w.heap.size + 1) 0 7 ∧ ChgM w b0 t (W.setCells (w.heap.size + 1) 0 (tellc (.slice A n c)).toList) ∧ (W.setCells (w.heap.size + 1) 0 (tellc (.slice A n c)).toList).rangeAt (w.heap.size + 1) 0 (tellc (.slice A n c)).toList ∧ FarI (W.setCells (w.heap.size + 1) 0 (tellc (.slice A n c)).toList) w.heap.size (.slice A n c) zs := by
  obtain ⟨h1, h2, h3⟩ := h.fin (ef' := tellc (.slice A n c)) hs rfl
  exact ⟨h1, h2, h3, (F.kp (Kp.setCells _ _ _ _) (by simp)).base (by omega)⟩
theorem DC.lt (h : DC w b0 b t x ef W) : w.heap.size + 2 ≤ W.heap.size := by
  have := h.E.lt
  omega
theorem far1 (W : World) (T : TypeId) (y : Int) {B : Nat} (hB : B ≤ W.heap.size) : FarI (W.alloc (.cells #[.int .i64 y] T)) B (.slice (some ⟨W.heap.size, 0, none⟩) 1 1) [y] := by
  have hb := Blk.new W T #[.int .i64 y]
  refine ⟨_, 1, rfl, by simp, by unfold maxLen; omega, fun i hi => ⟨W.heap.size, rfl, hB, ?_⟩⟩
  have : i = 0 := by simp at hi; omega
  subst this
  exact hb.cell 0
set_option maxRecDepth 100000 in
set_option maxHeartbeats 4000000 in
theorem m_doIdent (R : MR w b t) (m : Nat) (hm : m < t.n) (xk xn xr xd xs : Int) (a : Nat) (ha : a < 16) (xb xi : Int) (y : Int) (hyy : y = t.sl.getD (m * 16 + a) 0) :
    Calls Tryd.prog 91 #[.pointer (some ⟨b.g, 0, none⟩), .pointer (some ⟨b.sb, m * 16, none⟩), .agg #[.int .i64 xk, .int .i64 (a : Int), .int .i64 xb, .int .i64 xi, .int .i64 xn, .int .i64 xr, .int .i64 xd, .int .i64 xs]] w fun e w' => ∃ v, e = .returned (.agg (tellc v)) ∧ ChgM w b t w' ∧ FarI w' w.heap.size v [y] := by
  have D1 : DC w b b t ⟨xk, (a : Int), xb, xi, xn, xr, xd, xs⟩ ef0 _ := DC.start R
  unfold MA.cells ef0 at D1
  simp only at D1
  have hok := R.ok
  have hsl := hok.sl
  have h4 := hok.n4
  have q1 : (a : Int) < 16 := by omega
  have hz16 : m * 16 + a < 16 * t.n := by omega
  have HY := hid hyy
  clear hyy
  have HR := hid R
  clear R
  go_enter Tryd.func91, Tryd.ntmps91
  go_upto_region 1 with fail
  generalize ((w.alloc (.cells #[.int .i64 xk, .int .i64 (a : Int), .int .i64 xb, .int .i64 xi, .int .i64 xn, .int .i64 xr, .int .i64 xd, .int .i64 xs] 35)).alloc (.cells #[.slice none 0 0, .int .i64 0, .int .i64 0, .int .i64 0, .int .i64 0, .int .i64 0, .int .i64 0] 73)) = W2 at D1 ⊢
  have HD1 := hid D1
  have c1 : W2.cell? ⟨w.heap.size, 1, none⟩ = some (.int .i64 (a : Int)) := D1.A.cell 1
  have s1 := D1.R.cs hz16
  rw [← HY.out] at s1
  have hlt := D1.lt
  have D2 : DC w b b t _ ef0 (W2.drew.alloc (.cells #[.int .i64 y] 3)) := D1.kp0 ((Kp.draw _ 1).chain (Kp.new _ _))
  have F2 := far1 W2.drew 3 y (B := w.heap.size + 2) hlt
  have HD2 := hid D2
  have HF2 := hid F2
  clear hz16 D2 F2 hlt
  clear D1 hok hsl
  refine wp_region_any (by kernel_rfl) ?_
  change wpAny _ _ _ _ _ _ _ (World.drew _)
  refine wpAny_take (i := 0) (v := _) rfl (by kernel_rfl) (by kernel_rfl) (by kernel_rfl) (fun _ _ _ h => h) (Or.inl ⟨by rfl, by (intro w; go_simp; try with_reducible rfl)⟩) ?_
  refine wpAny_take (i := 1) (v := _) rfl (by kernel_rfl) (by kernel_rfl) (by kernel_rfl) (fun _ _ _ h => h) (Or.inl ⟨by rfl, by (intro w; go_simp; try with_reducible rfl)⟩) ?_
  refine wpAny_take (i := 3) (v := _) rfl (by kernel_rfl) (by kernel_rfl) (by kernel_rfl) (fun _ _ _ h => h) (Or.inl ⟨by rfl, by (intro w; go_simp; try with_reducible rfl)⟩) ?_
  refine wpAny_ready (rs := [2]) (by kernel_rfl) (by simp) ?_
  refine AllReady.cons rfl (fun K hK => ?_) AllReady.nil
  go_simp
  refine hK _ _ ?_
  clear hK K
  refine wpAny_take (i := 4) (v := _) rfl (by kernel_rfl) (by kernel_rfl) (by kernel_rfl) (fun _ _ _ h => h) (Or.inl ⟨by rfl, by (intro w; go_simp; try with_reducible rfl)⟩) ?_
  refine wpAny_ready (rs := [5]) (by kernel_rfl) (by simp) ?_
  refine AllReady.cons rfl (fun K hK => ?_) AllReady.nil
  go_simp
  refine hK _ _ ?_
  clear hK K
  refine wpAny_ready (rs := [6]) (by kernel_rfl) (by simp) ?_
  refine AllReady.cons rfl (fun K hK => ?_) AllReady.nil
  go_simp
  refine hK _ _ ?_
  clear hK K
  refine wpAny_ready (rs := [7]) (by kernel_rfl) (by simp) ?_
  refine AllReady.cons rfl (fun K hK => ?_) AllReady.nil
  go_simp
  (refine (m_told _ _ ⟨_, _, _, rfl⟩).mono ?_
   rintro e w5 ⟨rfl, hk5⟩
   obtain ⟨hth, hch, hrg, hfr⟩ := DC.told (HD2.out.kp0 hk5) rfl (HF2.out.kp hk5 (by simp))
   have HTH := hid hth
   have HCH := hid hch
   have HRG := hid hrg
   have HFR := hid hfr
   unfold tellc at HCH HRG HFR
   clear hth hch hrg hfr hk5)
  go_wp2_with fail
  refine wpAny_ready (rs := [8]) (by kernel_rfl) (by simp) ?_
  refine AllReady.cons rfl (fun K hK => ?_) AllReady.nil
  refine step_store_mid (by rfl) 73 (.tmp 6) (.tmp 14) (by rfl) (w.heap.size + 1) 0 #[.slice (some ⟨W2.drew.heap.size, 0, none⟩) 1 1, .int .i64 0, .int .i64 0, .int .i64 0, .int .i64 0, .int .i64 0, .int .i64 0] (by rfl) (by rfl) HTH.out effInfo effOne ?_
  refine hK _ _ ?_
  clear hK K
  refine wpAny_done (by kernel_rfl) ?_ _
  go_wp2
  generalize w5.setCells (w.heap.size + 1) 0 (#[.slice (some ⟨W2.drew.heap.size, 0, none⟩) 1 1, .int .i64 0, .int .i64 0, .int .i64 0, .int .i64 0, .int .i64 0, .int .i64 0] : Array Value).toList = W9 at HCH HRG HFR ⊢
  refine bodyPost_ret (v := .agg #[.slice (some ⟨W2.drew.heap.size, 0, none⟩) 1 1, .int .i64 0, .int .i64 0, .int .i64 0, .int .i64 0, .int .i64 0, .int .i64 0]) ?_ rfl ⟨_, rfl, HCH.out, HFR.out⟩
  have hl := run_eff rfl HRG.out
  simp [results, Tryd.results91, asAddr, Act.put, hl]
end
end Go.Proofs.YtbiompmklijgoaaDoor
/-
  The contracts of package model's doSame. Conditions: those that stand in each theorem.
-/
namespace Go.Proofs.YtbiompmklijgoaaDoor
set_option linter.unusedVariables false
set_option linter.unusedSimpArgs false
open Go.RowKit Go.Deep Go.Maps

section
variable {w w' W V : World} {b b0 : MB} {t : MT} {x : MA} {ef : Array Value}
set_option maxRecDepth 100000 in
set_option maxHeartbeats 4000000 in
theorem m_doSame_no (R : MR w b t) (m : Nat) (hm : m < t.n) (xk xn xr xd xs : Int) (a : Nat) (ha : a < 16) (c : Nat) (hc : c < 16) (xi : Int) (y z : Int) (hyy : y = t.sl.getD (m * 16 + a) 0) (hzz : z = t.sl.getD (m * 16 + c) 0) (hyz : (y == z) = false) :
    Calls Tryd.prog 90 #[.pointer (some ⟨b.g, 0, none⟩), .pointer (some ⟨b.sb, m * 16, none⟩), .agg #[.int .i64 xk, .int .i64 (a : Int), .int .i64 (c : Int), .int .i64 xi, .int .i64 xn, .int .i64 xr, .int .i64 xd, .int .i64 xs]] w fun e w' => ∃ v, e = .returned (.agg (tellc v)) ∧ ChgM w b t w' ∧ FarI w' w.heap.size v [0] := by
  have D1 : DC w b b t ⟨xk, (a : Int), (c : Int), xi, xn, xr, xd, xs⟩ ef0 _ := DC.start R
  unfold MA.cells ef0 at D1
  simp only at D1
  have hok := R.ok
  have hsl := hok.sl
  have h4 := hok.n4
  have q1 : (a : Int) < 16 := by omega
  have q2 : (c : Int) < 16 := by omega
  have hz16 : m * 16 + a < 16 * t.n := by omega
  have hy16 : m * 16 + c < 16 * t.n := by omega
  have HY := hid hyy
  have HZ := hid hzz
  clear hyy hzz
  have HR := hid R
  clear R
  go_enter Tryd.func90, Tryd.ntmps90
  go_upto_region 1 with fail
  generalize ((w.alloc (.cells #[.int .i64 xk, .int .i64 (a : Int), .int .i64 (c : Int), .int .i64 xi, .int .i64 xn, .int .i64 xr, .int .i64 xd, .int .i64 xs] 35)).alloc (.cells #[.slice none 0 0, .int .i64 0, .int .i64 0, .int .i64 0, .int .i64 0, .int .i64 0, .int .i64 0] 73)) = W2 at D1 ⊢
  have HD1 := hid D1
  have c1 : W2.cell? ⟨w.heap.size, 1, none⟩ = some (.int .i64 (a : Int)) := D1.A.cell 1
  have c2 : W2.cell? ⟨w.heap.size, 2, none⟩ = some (.int .i64 (c : Int)) := D1.A.cell 2
  have s1 := D1.R.cs hz16
  rw [← HY.out] at s1
  have s2 := D1.R.cs hy16
  rw [← HZ.out] at s2
  clear hz16 hy16
  clear D1 hok hsl
  go_quiet (fail)
  have D2 : DC w b b t _ ef0 (W2.drewN nq) := HD1.out.kp0 (Kp.draw _ nq)
  generalize W2.drewN nq = W3 at D2 ⊢
  have F2 := far1 W3 3 0 (B := w.heap.size + 2) D2.lt
  have HD2 := hid (D2.kp0 (Kp.new W3 (.cells #[.int .i64 0] 3)))
  have HF2 := hid F2
  clear D2 F2 c1 c2 s1 s2
  go_wp2_with (first
    | (go_at_call 102; go_loud (refine (m_told _ _ ⟨_, _, _, rfl⟩).mono ?_; rintro e w5 ⟨rfl, hk5⟩; obtain ⟨hth, hch, hrg, hfr⟩ := DC.told (HD2.out.kp0 hk5) rfl (HF2.out.kp hk5 (by simp)); have HTH := hid hth; have HCH := hid hch; have HRG := hid hrg; have HFR := hid hfr; unfold tellc at HCH HRG HFR; clear hth hch hrg hfr hk5))
    | (refine wpList_store_mid (by rfl) 73 (.tmp 6) (.tmp 23) (by rfl) (w.heap.size + 1) 0 #[.slice (some ⟨W3.heap.size, 0, none⟩) 1 1, .int .i64 0, .int .i64 0, .int .i64 0, .int .i64 0, .int .i64 0, .int .i64 0] (by rfl) (by rfl) HTH.out effInfo effOne ?_))
  generalize w5.setCells (w.heap.size + 1) 0 (#[.slice (some ⟨W3.heap.size, 0, none⟩) 1 1, .int .i64 0, .int .i64 0, .int .i64 0, .int .i64 0, .int .i64 0, .int .i64 0] : Array Value).toList = W9 at HCH HRG HFR ⊢
  refine bodyPost_ret (v := .agg #[.slice (some ⟨W3.heap.size, 0, none⟩) 1 1, .int .i64 0, .int .i64 0, .int .i64 0, .int .i64 0, .int .i64 0, .int .i64 0]) ?_ rfl ⟨_, rfl, HCH.out, HFR.out⟩
  have hl := run_eff rfl HRG.out
  simp [results, Tryd.results90, asAddr, Act.put, hl]
set_option maxRecDepth 100000 in
set_option maxHeartbeats 4000000 in
theorem m_doSame_yes (R : MR w b t) (m : Nat) (hm : m < t.n) (xk xn xr xd xs : Int) (a : Nat) (ha : a < 16) (c : Nat) (hc : c < 16) (xi : Int) (y z : Int) (hyy : y = t.sl.getD (m * 16 + a) 0) (hzz : z = t.sl.getD (m * 16 + c) 0) (hyz : (y == z) = true) :
    Calls Tryd.prog 90 #[.pointer (some ⟨b.g, 0, none⟩), .pointer (some ⟨b.sb, m * 16, none⟩), .agg #[.int .i64 xk, .int .i64 (a : Int), .int .i64 (c : Int), .int .i64 xi, .int .i64 xn, .int .i64 xr, .int .i64 xd, .int .i64 xs]] w fun e w' => ∃ v, e = .returned (.agg (tellc v)) ∧ ChgM w b t w' ∧ FarI w' w.heap.size v [1] := by
  have D1 : DC w b b t ⟨xk, (a : Int), (c : Int), xi, xn, xr, xd, xs⟩ ef0 _ := DC.start R
  unfold MA.cells ef0 at D1
  simp only at D1
  have hok := R.ok
  have hsl := hok.sl
  have h4 := hok.n4
  have q1 : (a : Int) < 16 := by omega
  have q2 : (c : Int) < 16 := by omega
  have hz16 : m * 16 + a < 16 * t.n := by omega
  have hy16 : m * 16 + c < 16 * t.n := by omega
  have HY := hid hyy
  have HZ := hid hzz
  clear hyy hzz
  have HR := hid R
  clear R
  go_enter Tryd.func90, Tryd.ntmps90
  go_upto_region 1 with fail
  generalize ((w.alloc (.cells #[.int .i64 xk, .int .i64 (a : Int), .int .i64 (c : Int), .int .i64 xi, .int .i64 xn, .int .i64 xr, .int .i64 xd, .int .i64 xs] 35)).alloc (.cells #[.slice none 0 0, .int .i64 0, .int .i64 0, .int .i64 0, .int .i64 0, .int .i64 0, .int .i64 0] 73)) = W2 at D1 ⊢
  have HD1 := hid D1
  have c1 : W2.cell? ⟨w.heap.size, 1, none⟩ = some (.int .i64 (a : Int)) := D1.A.cell 1
  have c2 : W2.cell? ⟨w.heap.size, 2, none⟩ = some (.int .i64 (c : Int)) := D1.A.cell 2
  have s1 := D1.R.cs hz16
  rw [← HY.out] at s1
  have s2 := D1.R.cs hy16
  rw [← HZ.out] at s2
  clear hz16 hy16
  clear D1 hok hsl
  go_quiet (fail)
  have D2 : DC w b b t _ ef0 (W2.drewN nq) := HD1.out.kp0 (Kp.draw _ nq)
  generalize W2.drewN nq = W3 at D2 ⊢
  have F2 := far1 W3 3 1 (B := w.heap.size + 2) D2.lt
  have HD2 := hid (D2.kp0 (Kp.new W3 (.cells #[.int .i64 1] 3)))
  have HF2 := hid F2
  clear D2 F2 c1 c2 s1 s2
  go_wp2_with (first
    | (go_at_call 102; go_loud (refine (m_told _ _ ⟨_, _, _, rfl⟩).mono ?_; rintro e w5 ⟨rfl, hk5⟩; obtain ⟨hth, hch, hrg, hfr⟩ := DC.told (HD2.out.kp0 hk5) rfl (HF2.out.kp hk5 (by simp)); have HTH := hid hth; have HCH := hid hch; have HRG := hid hrg; have HFR := hid hfr; unfold tellc at HCH HRG HFR; clear hth hch hrg hfr hk5))
    | (refine wpList_store_mid (by rfl) 73 (.tmp 6) (.tmp 21) (by rfl) (w.heap.size + 1) 0 #[.slice (some ⟨W3.heap.size, 0, none⟩) 1 1, .int .i64 0, .int .i64 0, .int .i64 0, .int .i64 0, .int .i64 0, .int .i64 0] (by rfl) (by rfl) HTH.out effInfo effOne ?_))
  generalize w5.setCells (w.heap.size + 1) 0 (#[.slice (some ⟨W3.heap.size, 0, none⟩) 1 1, .int .i64 0, .int .i64 0, .int .i64 0, .int .i64 0, .int .i64 0, .int .i64 0] : Array Value).toList = W9 at HCH HRG HFR ⊢
  refine bodyPost_ret (v := .agg #[.slice (some ⟨W3.heap.size, 0, none⟩) 1 1, .int .i64 0, .int .i64 0, .int .i64 0, .int .i64 0, .int .i64 0, .int .i64 0]) ?_ rfl ⟨_, rfl, HCH.out, HFR.out⟩
  have hl := run_eff rfl HRG.out
  simp [results, Tryd.results90, asAddr, Act.put, hl]
end
end Go.Proofs.YtbiompmklijgoaaDoor
/-
  The contracts of package model's doGet. Conditions: those that stand in each theorem.
-/
namespace Go.Proofs.YtbiompmklijgoaaDoor
set_option linter.unusedVariables false
set_option linter.unusedSimpArgs false
open Go.RowKit Go.Deep Go.Maps

section
variable {w w' W V : World} {b b0 : MB} {t : MT} {x : MA} {ef : Array Value}
theorem MR.dat2 (R : MR W b t) {g n c i : Nat} (hv : b.wv = .slice (some ⟨g, 0, none⟩) n c) (hi : i < t.ws.length) : W.cell? ⟨g, i, none⟩ = some (.int .i64 (t.ws.getD i 0)) := by
  obtain ⟨g', c', hv', hc⟩ := R.dat hi
  rw [hv] at hv'
  injection hv' with e1 e2 e3
  injection e1 with e1
  injection e1 with e1
  subst e1
  exact hc
theorem VS.at_ {wv v : Value} {f r g n cw : Nat} (h : VS wv f r v) (hr : 0 < r) (hw : wv = .slice (some ⟨g, 0, none⟩) n cw) : ∃ c, v = .slice (some ⟨g, f, none⟩) r c ∧ r ≤ c ∧ c ≤ maxLen := by
  obtain ⟨A, c, hv, h1, h2, hA⟩ := h
  obtain ⟨g', n', cw', e1, e2⟩ := hA hr
  rw [hw] at e1
  injection e1 with e1
  injection e1 with e1
  injection e1 with e1
  subst e1 e2
  exact ⟨c, hv, h1, h2⟩
set_option maxRecDepth 100000 in
set_option maxHeartbeats 4000000 in
theorem m_doGet (R : MR w b t) (m : Nat) (hm : m < t.n) (xk xn xr xd xs : Int) (a : Nat) (ha : a < 16) (xb : Int) (i : Nat) (y z : Int) (hyy : y = t.sl.getD (m * 16 + a) 0) (hh : t.has y = true) (hi : i < (t.obj y).d) (hzz : z = t.ws.getD ((t.obj y).f + (t.obj y).r + i) 0) :
    Calls Tryd.prog 87 #[.pointer (some ⟨b.g, 0, none⟩), .pointer (some ⟨b.sb, m * 16, none⟩), .agg #[.int .i64 xk, .int .i64 (a : Int), .int .i64 xb, .int .i64 (i : Int), .int .i64 xn, .int .i64 xr, .int .i64 xd, .int .i64 xs]] w fun e w' => ∃ v, e = .returned (.agg (tellc v)) ∧ ChgM w b t w' ∧ FarI w' w.heap.size v [z] := by
  have D1 : DC w b b t ⟨xk, (a : Int), xb, (i : Int), xn, xr, xd, xs⟩ ef0 _ := DC.start R
  unfold MA.cells ef0 at D1
  simp only at D1
  have hok := R.ok
  have hsl := hok.sl
  have h4 := hok.n4
  have q1 : (a : Int) < 16 := by omega
  have hz16 : m * 16 + a < 16 * t.n := by omega
  obtain ⟨k, hk, hko, hob⟩ := MT.has_nat hh
  have hfit := hok.fit k hko
  rw [← hob] at hfit
  have hsm := hok.small.2
  obtain ⟨fo, hfo⟩ : ∃ f, f = (t.obj y).f + (t.obj y).r := ⟨_, rfl⟩
  obtain ⟨n, hn⟩ : ∃ n, n = (t.obj y).d := ⟨_, rfl⟩
  rw [← hn] at hi
  rw [← hfo, ← hn] at hfit
  rw [← hfo] at hzz
  have hq : (i : Int) < (n : Int) := by omega
  have hwl : fo + i < t.ws.length := by omega
  have hnl : n ≤ 100000000 := by omega
  obtain ⟨g0, c0, hwv, hc0⟩ := R.dat hwl
  have hpos : 0 < n := by omega
  have HY := hid hyy
  have HZ := hid hzz
  have HH := hid hh
  have HFO := hid hfo
  have HN := hid hn
  have HWV := hid hwv
  have HWL := hid hwl
  have HPOS := hid hpos
  clear hyy hzz hh hk hko hob hfit hfo hn hwv hc0 hwl hpos hi hsm
  have HR := hid R
  clear R
  go_enter Tryd.func87, Tryd.ntmps87
  go_upto_region 1 with fail
  generalize ((w.alloc (.cells #[.int .i64 xk, .int .i64 (a : Int), .int .i64 xb, .int .i64 (i : Int), .int .i64 xn, .int .i64 xr, .int .i64 xd, .int .i64 xs] 35)).alloc (.cells #[.slice none 0 0, .int .i64 0, .int .i64 0, .int .i64 0, .int .i64 0, .int .i64 0, .int .i64 0] 73)) = W2 at D1 ⊢
  have HD1 := hid D1
  have s1 := D1.R.cs hz16
  rw [← HY.out] at s1
  have HA1 := hid D1.A
  have HNE := hid D1.notA
  clear hz16
  clear D1 hok hsl
  refine wp_region_held_drew (S := fun wz => Blk wz w.heap.size 35 #[.int .i64 xk, .int .i64 (a : Int), .int .i64 xb, .int .i64 (i : Int), .int .i64 xn, .int .i64 xr, .int .i64 xd, .int .i64 xs]) (by kernel_rfl) ?_ (fun hHeld => ?_)
  · exact (HD1.out.A.kp (Kp.draw _ 1) (by simp) : Blk _ _ _ _)
  refine wpAnyH_take (i := 0) (v := _) rfl (by kernel_rfl) (by kernel_rfl) (by kernel_rfl) (fun _ _ _ h => h) (Or.inl ⟨by rfl, by (intro wz hSw; go_simp; try with_reducible rfl)⟩) (by assumption) ?_
  refine wpAnyH_take (i := 1) (v := _) rfl (by kernel_rfl) (by kernel_rfl) (by kernel_rfl) (fun _ _ _ h => h) (Or.inl ⟨by rfl, by (intro wz hSw; go_simp; try with_reducible rfl)⟩) (by assumption) ?_
  refine wpAnyH_take (i := 2) (v := _) rfl (by kernel_rfl) (by kernel_rfl) (by kernel_rfl) (fun _ _ _ h => h) (Or.inl ⟨by rfl, by (intro wz hSw; go_simp; try with_reducible rfl)⟩) (by assumption) ?_
  refine wpAnyH_take (i := 3) (v := _) rfl (by kernel_rfl) (by kernel_rfl) (by kernel_rfl) (fun _ _ _ h => h) (Or.inl ⟨by rfl, by (intro wz hSw; have hcj : wz.cell? ⟨w.heap.size, 1, none⟩ = some (.int .i64 (a : Int)) := hSw.cell 1; go_simp; try with_reducible rfl)⟩) (by assumption) ?_
  refine wpAnyH_take (i := 4) (v := _) rfl (by kernel_rfl) (by kernel_rfl) (by kernel_rfl) (fun _ _ _ h => h) (Or.inl ⟨by rfl, by (intro wz hSw; go_simp; try with_reducible rfl)⟩) (by assumption) ?_
  refine wpAnyH_take (i := 5) (v := _) rfl (by kernel_rfl) (by kernel_rfl) (by kernel_rfl) (fun _ _ _ h => h) (Or.inl ⟨by rfl, by (intro wz hSw; go_simp; try with_reducible rfl)⟩) (by assumption) ?_
  refine wpAnyH_take (i := 8) (v := _) rfl (by kernel_rfl) (by kernel_rfl) (by kernel_rfl) (fun _ _ _ h => h) (Or.inl ⟨by rfl, by (intro wz hSw; go_simp; try with_reducible rfl)⟩) (by assumption) ?_
  refine wpAnyH_take (i := 9) (v := _) rfl (by kernel_rfl) (by kernel_rfl) (by kernel_rfl) (fun _ _ _ h => h) (Or.inl ⟨by rfl, by (intro wz hSw; have hcj : wz.cell? ⟨w.heap.size, 3, none⟩ = some (.int .i64 (i : Int)) := hSw.cell 3; go_simp; try with_reducible rfl)⟩) (by assumption) ?_
  refine wpAnyH_ready (rs := [6]) (by kernel_rfl) (by simp) ?_
  refine AllReadyH.cons rfl (fun K hK => ?_) AllReadyH.nil
  go_simp
  refine hK.out _ _ ?_ (fun hHeld => ?_)
  · exact hHeld
  clear hK K
  refine wpAnyH_ready (rs := [7]) (by kernel_rfl) (by simp) ?_
  refine AllReadyH.cons rfl (fun K hK => ?_) AllReadyH.nil
  go_simp
  refine (m_data (HD1.out.R.kp0 (Kp.draw _ 1)) HH.out).mono ?_
  rintro e w3 ⟨v, rfl, hv, hk3⟩
  rw [← HN.out, ← HFO.out] at hv
  obtain ⟨cv, rfl, hc1, hc2⟩ := hv.at_ HPOS.out HWV.out
  unfold maxLen at hc2
  have D3 : DC w b b t _ ef0 w3 := (HD1.out.kp0 (Kp.draw _ 1)).kp0 hk3
  have w1 := D3.R.dat2 HWV.out HWL.out
  rw [← HZ.out] at w1
  have F4 := far1 w3 3 z (B := w.heap.size + 2) D3.lt
  have HD4 := hid (D3.kp0 (Kp.new w3 (.cells #[.int .i64 z] 3)))
  have HF4 := hid F4
  have HK3 := hid hk3
  clear hv hk3 D3 F4
  try go_wp2_with fail
  refine hK.out _ _ ?_ (fun hHeld => ?_)
  · exact hHeld.kp HK3.out (by simp)
  clear hK K
  refine wpAnyH_take (i := 10) (v := _) rfl (by kernel_rfl) (by kernel_rfl) (by kernel_rfl) (fun _ _ _ h => h) (Or.inl ⟨by rfl, by (intro wz hSw; go_simp; try with_reducible rfl)⟩) (by assumption) ?_
  refine wpAnyH_ready (rs := [11]) (by kernel_rfl) (by simp) ?_
  refine AllReadyH.cons rfl (fun K hK => ?_) AllReadyH.nil
  go_simp
  refine hK.out _ _ ?_ (fun hHeld => ?_)
  · exact hHeld
  clear hK K
  refine wpAnyH_ready (rs := [12]) (by kernel_rfl) (by simp) ?_
  refine AllReadyH.cons rfl (fun K hK => ?_) AllReadyH.nil
  go_simp
  refine hK.out _ _ ?_ (fun hHeld => ?_)
  · exact hHeld.kp (Kp.new _ _) (by simp)
  clear hK K
  refine wpAnyH_ready (rs := [13]) (by kernel_rfl) (by simp) ?_
  refine AllReadyH.cons rfl (fun K hK => ?_) AllReadyH.nil
  go_simp
  (refine (m_told _ _ ⟨_, _, _, rfl⟩).mono ?_
   rintro e w5 ⟨rfl, hk5⟩
   obtain ⟨hth, hch, hrg, hfr⟩ := DC.told (HD4.out.kp0 hk5) rfl (HF4.out.kp hk5 (by simp))
   have HTH := hid hth
   have HCH := hid hch
   have HRG := hid hrg
   have HFR := hid hfr
   unfold tellc at HCH HRG HFR
   have HK5 := hid hk5
   clear hth hch hrg hfr hk5)
  try go_wp2_with fail
  refine hK.out _ _ ?_ (fun hHeld => ?_)
  · exact hHeld.kp HK5.out (by simp)
  clear hK K
  refine wpAnyH_ready (rs := [14]) (by kernel_rfl) (by simp) ?_
  refine AllReadyH.cons rfl (fun K hK => ?_) AllReadyH.nil
  refine step_store_mid (by rfl) 73 (.tmp 6) (.tmp 20) (by rfl) (w.heap.size + 1) 0 #[.slice (some ⟨w3.heap.size, 0, none⟩) 1 1, .int .i64 0, .int .i64 0, .int .i64 0, .int .i64 0, .int .i64 0, .int .i64 0] (by rfl) (by rfl) HTH.out effInfo effOne ?_
  refine hK.out _ _ ?_ (fun hHeld => ?_)
  · exact hHeld.kp (Kp.setCells _ _ _ _) (by simp)
  clear hK K
  refine wpAnyH_done (by kernel_rfl) ?_ _
  go_wp2
  generalize w5.setCells (w.heap.size + 1) 0 (#[.slice (some ⟨w3.heap.size, 0, none⟩) 1 1, .int .i64 0, .int .i64 0, .int .i64 0, .int .i64 0, .int .i64 0, .int .i64 0] : Array Value).toList = W9 at HCH HRG HFR ⊢
  refine bodyPost_ret (v := .agg #[.slice (some ⟨w3.heap.size, 0, none⟩) 1 1, .int .i64 0, .int .i64 0, .int .i64 0, .int .i64 0, .int .i64 0, .int .i64 0]) ?_ rfl ⟨_, rfl, HCH.out, HFR.out⟩
  have hl := run_eff rfl HRG.out
  simp [results, Tryd.results87, asAddr, Act.put, hl]
end
end Go.Proofs.YtbiompmklijgoaaDoor
/-
  The contracts of package model's doShape. Conditions: those that stand in each theorem.
-/
namespace Go.Proofs.YtbiompmklijgoaaDoor
set_option linter.unusedVariables false
set_option linter.unusedSimpArgs false
open Go.RowKit Go.Deep Go.Maps

section
variable {w w' W V : World} {b b0 : MB} {t : MT} {x : MA} {ef : Array Value}
theorem shapeInfo : (Tryd.prog.info? 33).map (·.size) = some 3 := by kernel_rfl
theorem threeOne {x1 x2 x3 : Int} : (#[Value.int .i64 x1, .int .i64 x2, .int .i64 x3] : Array Value).all (·.oneCell') = true :=
  all_oneCell_toArray (cs := [Value.int .i64 x1, .int .i64 x2, .int .i64 x3]) (fun v hv => by
    simp only [List.mem_cons, List.not_mem_nil, or_false] at hv
    rcases hv with rfl | rfl | rfl <;> rfl)
theorem far3 (W : World) (T : TypeId) (x y z : Int) {B : Nat} (hB : B ≤ W.heap.size) : FarI (W.alloc (.cells #[.int .i64 x, .int .i64 y, .int .i64 z] T)) B (.slice (some ⟨W.heap.size, 0, none⟩) 3 3) [x, y, z] := by
  have hb := Blk.new W T #[.int .i64 x, .int .i64 y, .int .i64 z]
  refine ⟨_, 3, rfl, by simp, by unfold maxLen; omega, fun i hi => ⟨W.heap.size, rfl, hB, ?_⟩⟩
  have h3 : i = 0 ∨ i = 1 ∨ i = 2 := by simp at hi; omega
  rcases h3 with rfl | rfl | rfl
  · exact hb.cell 0
  · exact hb.cell 1
  · exact hb.cell 2
/-- A new block, filled: three cells. -/
theorem fill3 {W : World} {g : Nat} {T : TypeId} {cs : Array Value} (hB : Blk W g T cs) (hc : cs.size = 3) (hk : Kp [] w W) (hg : w.heap.size ≤ g) (x y z : Value) : W.there g 0 3 ∧ Kp [] w (W.setCells g 0 [x, y, z]) ∧ (W.setCells g 0 [x, y, z]).cell? ⟨g, 0, none⟩ = some x ∧ (W.setCells g 0 [x, y, z]).cell? ⟨g, 1, none⟩ = some y ∧ (W.setCells g 0 [x, y, z]).cell? ⟨g, 2, none⟩ = some z := by
  have ht : W.there g 0 3 := fun j hj => by
    refine ⟨?_, ?_⟩
    · rw [Nat.zero_add, hB.cell j, Array.getElem?_eq_getElem (by omega)]; rfl
    · rw [Nat.zero_add]; exact hB.frozen j
  have hr := World.rangeAt_setCells_same W g 0 [x, y, z] ht
  exact ⟨ht, hk.trans (Kp.setCells _ _ _ _) (by simp) (by simp; exact hg), by simpa using hr 0 x rfl, by simpa using hr 1 y rfl, by simpa using hr 2 z rfl⟩
set_option maxRecDepth 100000 in
set_option maxHeartbeats 4000000 in
theorem m_doShape (R : MR w b t) (m : Nat) (hm : m < t.n) (xk xn xr xd xs : Int) (a : Nat) (ha : a < 16) (xb xi : Int) (y : Int) (hyy : y = t.sl.getD (m * 16 + a) 0) (hh : t.has y = true) :
    Calls Tryd.prog 94 #[.pointer (some ⟨b.g, 0, none⟩), .pointer (some ⟨b.sb, m * 16, none⟩), .agg #[.int .i64 xk, .int .i64 (a : Int), .int .i64 xb, .int .i64 xi, .int .i64 xn, .int .i64 xr, .int .i64 xd, .int .i64 xs]] w fun e w' => ∃ v, e = .returned (.agg (tellc v)) ∧ ChgM w b t w' ∧ FarI w' w.heap.size v [((t.obj y).r : Int), ((t.obj y).d : Int), ((t.obj y).k : Int)] := by
  have D1 : DC w b b t ⟨xk, (a : Int), xb, xi, xn, xr, xd, xs⟩ ef0 _ := DC.start R
  unfold MA.cells ef0 at D1
  simp only at D1
  have hok := R.ok
  have hsl := hok.sl
  have h4 := hok.n4
  have q1 : (a : Int) < 16 := by omega
  have hz16 : m * 16 + a < 16 * t.n := by omega
  obtain ⟨xo, hxo⟩ : ∃ o, o = t.obj y := ⟨_, rfl⟩
  obtain ⟨xR, hxR⟩ : ∃ o, o = (xo.r : Int) := ⟨_, rfl⟩
  obtain ⟨xD, hxD⟩ : ∃ o, o = (xo.d : Int) := ⟨_, rfl⟩
  obtain ⟨xK, hxK⟩ : ∃ o, o = (xo.k : Int) := ⟨_, rfl⟩
  rw [← hxo, ← hxR, ← hxD, ← hxK]
  have HXO := hid hxo
  have HXR := hid hxR
  have HXD := hid hxD
  have HXK := hid hxK
  have HY := hid hyy
  have HH := hid hh
  clear hyy hh hxo hxR hxD hxK
  have HR := hid R
  clear R
  go_enter Tryd.func94, Tryd.ntmps94
  go_upto_region 1 with fail
  generalize ((w.alloc (.cells #[.int .i64 xk, .int .i64 (a : Int), .int .i64 xb, .int .i64 xi, .int .i64 xn, .int .i64 xr, .int .i64 xd, .int .i64 xs] 35)).alloc (.cells #[.slice none 0 0, .int .i64 0, .int .i64 0, .int .i64 0, .int .i64 0, .int .i64 0, .int .i64 0] 73)) = W2 at D1 ⊢
  have HD1 := hid D1
  have s1 := D1.R.cs hz16
  rw [← HY.out] at s1
  have HA1 := hid D1.A
  have sA := cell_kp (Kp.new W2 (.cells #[.int .i64 0, .int .i64 0, .int .i64 0] 33)) s1
  clear hz16
  clear D1 hok hsl
  refine wp_region_held_drew (S := fun wz => Blk wz w.heap.size 35 #[.int .i64 xk, .int .i64 (a : Int), .int .i64 xb, .int .i64 xi, .int .i64 xn, .int .i64 xr, .int .i64 xd, .int .i64 xs]) (by kernel_rfl) ?_ (fun hHeld => ?_)
  · exact (HD1.out.A.kp (Kp.draw _ 1) (by simp) : Blk _ _ _ _)
  refine wpAnyH_take (i := 0) (v := _) rfl (by kernel_rfl) (by kernel_rfl) (by kernel_rfl) (fun _ _ _ h => h) (Or.inl ⟨by rfl, by (intro wz hSw; go_simp; try with_reducible rfl)⟩) (by assumption) ?_
  refine wpAnyH_take (i := 1) (v := _) rfl (by kernel_rfl) (by kernel_rfl) (by kernel_rfl) (fun _ _ _ h => h) (Or.inl ⟨by rfl, by (intro wz hSw; go_simp; try with_reducible rfl)⟩) (by assumption) ?_
  refine wpAnyH_take (i := 2) (v := _) rfl (by kernel_rfl) (by kernel_rfl) (by kernel_rfl) (fun _ _ _ h => h) (Or.inl ⟨by rfl, by (intro wz hSw; go_simp; try with_reducible rfl)⟩) (by assumption) ?_
  refine wpAnyH_take (i := 3) (v := _) rfl (by kernel_rfl) (by kernel_rfl) (by kernel_rfl) (fun _ _ _ h => h) (Or.inl ⟨by rfl, by (intro wz hSw; have hcj : wz.cell? ⟨w.heap.size, 1, none⟩ = some (.int .i64 (a : Int)) := hSw.cell 1; go_simp; try with_reducible rfl)⟩) (by assumption) ?_
  refine wpAnyH_take (i := 4) (v := _) rfl (by kernel_rfl) (by kernel_rfl) (by kernel_rfl) (fun _ _ _ h => h) (Or.inl ⟨by rfl, by (intro wz hSw; go_simp; try with_reducible rfl)⟩) (by assumption) ?_
  refine wpAnyH_take (i := 5) (v := _) rfl (by kernel_rfl) (by kernel_rfl) (by kernel_rfl) (fun _ _ _ h => h) (Or.inl ⟨by rfl, by (intro wz hSw; go_simp; try with_reducible rfl)⟩) (by assumption) ?_
  refine wpAnyH_ready (rs := [6, 8]) (by kernel_rfl) (by simp) ?_
  refine (AllReadyH.cons rfl (fun K hK => ?_) (AllReadyH.cons rfl (fun K hK => ?_) AllReadyH.nil))
  · go_simp
    refine hK.out _ _ ?_ (fun hHeld => ?_)
    · exact hHeld
    clear hK K
    refine wpAnyH_ready (rs := [7, 8]) (by kernel_rfl) (by simp) ?_
    refine (AllReadyH.cons rfl (fun K hK => ?_) (AllReadyH.cons rfl (fun K hK => ?_) AllReadyH.nil))
    · go_simp
      refine (m_shape (HD1.out.R.kp0 (Kp.draw _ 1)) HH.out).mono ?_
      rintro e w3 ⟨rfl, hk3⟩
      rw [← HXO.out]
      unfold OB.shv
      rw [← HXR.out, ← HXD.out, ← HXK.out]
      have HK3 := hid hk3
      obtain ⟨ht, hkn, hn0, hn1, hn2⟩ := fill3 (Blk.new w3 33 #[.int .i64 0, .int .i64 0, .int .i64 0]) rfl (((Kp.draw W2 1).chain hk3).chain (Kp.new _ _)) (by have := HD1.out.lt; have := hk3.size; simp at this; omega) (.int .i64 xR) (.int .i64 xD) (.int .i64 xK)
      have HT := hid ht
      have HKN := hid hkn
      clear ht hkn
      clear hk3
      try go_wp2_with fail
      refine hK.out _ _ ?_ (fun hHeld => ?_)
      · exact hHeld.kp HK3.out (by simp)
      clear hK K
      refine wpAnyH_ready (rs := [8]) (by kernel_rfl) (by simp) ?_
      refine AllReadyH.cons rfl (fun K hK => ?_) AllReadyH.nil
      go_simp
      refine hK.out _ _ ?_ (fun hHeld => ?_)
      · exact hHeld.kp (Kp.new _ _) (by simp)
      clear hK K
      refine wpAnyH_ready (rs := [9]) (by kernel_rfl) (by simp) ?_
      refine AllReadyH.cons rfl (fun K hK => ?_) AllReadyH.nil
      refine step_store_mid (by rfl) 33 (.tmp 7) (.tmp 15) (by rfl) w3.heap.size 0 #[.int .i64 xR, .int .i64 xD, .int .i64 xK] (by rfl) (by rfl) HT.out shapeInfo threeOne ?_
      refine hK.out _ _ ?_ (fun hHeld => ?_)
      · exact hHeld.kp (Kp.setCells _ _ _ _) (by simp; have := HD1.out.lt; have := HK3.out.size; simp at this; omega)
      clear hK K
      refine wpAnyH_done (by kernel_rfl) ?_ _
      have D6 : DC w b b t _ ef0 ((w3.alloc (.cells #[.int .i64 0, .int .i64 0, .int .i64 0] 33)).setCells w3.heap.size 0 [.int .i64 xR, .int .i64 xD, .int .i64 xK]) := HD1.out.kp0 HKN.out
      generalize (w3.alloc (.cells #[.int .i64 0, .int .i64 0, .int .i64 0] 33)).setCells w3.heap.size 0 [.int .i64 xR, .int .i64 xD, .int .i64 xK] = w6 at D6 hn0 hn1 hn2 ⊢
      have F6 := far3 w6 3 xR xD xK (B := w.heap.size + 2) D6.lt
      have HD6 := hid (D6.kp0 (Kp.new w6 (.cells #[.int .i64 xR, .int .i64 xD, .int .i64 xK] 3)))
      have HF6 := hid F6
      clear D6 F6 hHeld s1 sA
      go_wp2_with (first
        | (go_at_call 102; go_loud (refine (m_told _ _ ⟨_, _, _, rfl⟩).mono ?_; rintro e w5 ⟨rfl, hk5⟩; obtain ⟨hth, hch, hrg, hfr⟩ := DC.told (HD6.out.kp0 hk5) rfl (HF6.out.kp hk5 (by simp)); have HTH := hid hth; have HCH := hid hch; have HRG := hid hrg; have HFR := hid hfr; unfold tellc at HCH HRG HFR; clear hth hch hrg hfr hk5))
        | (refine wpList_store_mid (by rfl) 73 (.tmp 6) (.tmp 23) (by rfl) (w.heap.size + 1) 0 #[.slice (some ⟨w6.heap.size, 0, none⟩) 3 3, .int .i64 0, .int .i64 0, .int .i64 0, .int .i64 0, .int .i64 0, .int .i64 0] (by rfl) (by rfl) HTH.out effInfo effOne ?_))
      generalize w5.setCells (w.heap.size + 1) 0 (#[.slice (some ⟨w6.heap.size, 0, none⟩) 3 3, .int .i64 0, .int .i64 0, .int .i64 0, .int .i64 0, .int .i64 0, .int .i64 0] : Array Value).toList = W9 at HCH HRG HFR ⊢
      refine bodyPost_ret (v := .agg #[.slice (some ⟨w6.heap.size, 0, none⟩) 3 3, .int .i64 0, .int .i64 0, .int .i64 0, .int .i64 0, .int .i64 0, .int .i64 0]) ?_ rfl ⟨_, rfl, HCH.out, HFR.out⟩
      have hl := run_eff rfl HRG.out
      simp [results, Tryd.results94, asAddr, Act.put, hl]
    · go_simp
      refine hK.out _ _ ?_ (fun hHeld => ?_)
      · exact hHeld.kp (Kp.new _ _) (by simp)
      clear hK K
      refine wpAnyH_ready (rs := [7]) (by kernel_rfl) (by simp) ?_
      refine AllReadyH.cons rfl (fun K hK => ?_) AllReadyH.nil
      go_simp
      refine (m_shape (HD1.out.R.kp0 ((Kp.new W2 _).chain (Kp.draw _ 1))) HH.out).mono ?_
      rintro e w3 ⟨rfl, hk3⟩
      rw [← HXO.out]
      unfold OB.shv
      rw [← HXR.out, ← HXD.out, ← HXK.out]
      have HK3 := hid hk3
      obtain ⟨ht, hkn, hn0, hn1, hn2⟩ := fill3 (((Blk.new W2 33 #[.int .i64 0, .int .i64 0, .int .i64 0]).kp (Kp.draw _ 1) (by simp)).kp hk3 (by simp)) rfl (((Kp.new W2 _).chain (Kp.draw _ 1)).chain hk3) (Nat.le_refl _) (.int .i64 xR) (.int .i64 xD) (.int .i64 xK)
      have HT := hid ht
      have HKN := hid hkn
      clear ht hkn
      clear hk3
      try go_wp2_with fail
      refine hK.out _ _ ?_ (fun hHeld => ?_)
      · exact hHeld.kp HK3.out (by simp)
      clear hK K
      refine wpAnyH_ready (rs := [9]) (by kernel_rfl) (by simp) ?_
      refine AllReadyH.cons rfl (fun K hK => ?_) AllReadyH.nil
      refine step_store_mid (by rfl) 33 (.tmp 7) (.tmp 15) (by rfl) W2.heap.size 0 #[.int .i64 xR, .int .i64 xD, .int .i64 xK] (by rfl) (by rfl) HT.out shapeInfo threeOne ?_
      refine hK.out _ _ ?_ (fun hHeld => ?_)
      · exact hHeld.kp (Kp.setCells _ _ _ _) (by simp; have := HD1.out.lt; have := HK3.out.size; simp at this; omega)
      clear hK K
      refine wpAnyH_done (by kernel_rfl) ?_ _
      have D6 : DC w b b t _ ef0 (w3.setCells W2.heap.size 0 [.int .i64 xR, .int .i64 xD, .int .i64 xK]) := HD1.out.kp0 HKN.out
      generalize w3.setCells W2.heap.size 0 [.int .i64 xR, .int .i64 xD, .int .i64 xK] = w6 at D6 hn0 hn1 hn2 ⊢
      have F6 := far3 w6 3 xR xD xK (B := w.heap.size + 2) D6.lt
      have HD6 := hid (D6.kp0 (Kp.new w6 (.cells #[.int .i64 xR, .int .i64 xD, .int .i64 xK] 3)))
      have HF6 := hid F6
      clear D6 F6 hHeld s1 sA
      go_wp2_with (first
        | (go_at_call 102; go_loud (refine (m_told _ _ ⟨_, _, _, rfl⟩).mono ?_; rintro e w5 ⟨rfl, hk5⟩; obtain ⟨hth, hch, hrg, hfr⟩ := DC.told (HD6.out.kp0 hk5) rfl (HF6.out.kp hk5 (by simp)); have HTH := hid hth; have HCH := hid hch; have HRG := hid hrg; have HFR := hid hfr; unfold tellc at HCH HRG HFR; clear hth hch hrg hfr hk5))
        | (refine wpList_store_mid (by rfl) 73 (.tmp 6) (.tmp 23) (by rfl) (w.heap.size + 1) 0 #[.slice (some ⟨w6.heap.size, 0, none⟩) 3 3, .int .i64 0, .int .i64 0, .int .i64 0, .int .i64 0, .int .i64 0, .int .i64 0] (by rfl) (by rfl) HTH.out effInfo effOne ?_))
      generalize w5.setCells (w.heap.size + 1) 0 (#[.slice (some ⟨w6.heap.size, 0, none⟩) 3 3, .int .i64 0, .int .i64 0, .int .i64 0, .int .i64 0, .int .i64 0, .int .i64 0] : Array Value).toList = W9 at HCH HRG HFR ⊢
      refine bodyPost_ret (v := .agg #[.slice (some ⟨w6.heap.size, 0, none⟩) 3 3, .int .i64 0, .int .i64 0, .int .i64 0, .int .i64 0, .int .i64 0, .int .i64 0]) ?_ rfl ⟨_, rfl, HCH.out, HFR.out⟩
      have hl := run_eff rfl HRG.out
      simp [results, Tryd.results94, asAddr, Act.put, hl]
  · go_simp
    refine hK.out _ _ ?_ (fun hHeld => ?_)
    · exact hHeld.kp (Kp.new _ _) (by simp)
    clear hK K
    refine wpAnyH_ready (rs := [6]) (by kernel_rfl) (by simp) ?_
    refine AllReadyH.cons rfl (fun K hK => ?_) AllReadyH.nil
    go_simp
    refine hK.out _ _ ?_ (fun hHeld => ?_)
    · exact hHeld
    clear hK K
    refine wpAnyH_ready (rs := [7]) (by kernel_rfl) (by simp) ?_
    refine AllReadyH.cons rfl (fun K hK => ?_) AllReadyH.nil
    go_simp
    refine (m_shape (HD1.out.R.kp0 ((Kp.new W2 _).chain (Kp.draw _ 1))) HH.out).mono ?_
    rintro e w3 ⟨rfl, hk3⟩
    rw [← HXO.out]
    unfold OB.shv
    rw [← HXR.out, ← HXD.out, ← HXK.out]
    have HK3 := hid hk3
    obtain ⟨ht, hkn, hn0, hn1, hn2⟩ := fill3 (((Blk.new W2 33 #[.int .i64 0, .int .i64 0, .int .i64 0]).kp (Kp.draw _ 1) (by simp)).kp hk3 (by simp)) rfl (((Kp.new W2 _).chain (Kp.draw _ 1)).chain hk3) (Nat.le_refl _) (.int .i64 xR) (.int .i64 xD) (.int .i64 xK)
    have HT := hid ht
    have HKN := hid hkn
    clear ht hkn
    clear hk3
    try go_wp2_with fail
    refine hK.out _ _ ?_ (fun hHeld => ?_)
    · exact hHeld.kp HK3.out (by simp)
    clear hK K
    refine wpAnyH_ready (rs := [9]) (by kernel_rfl) (by simp) ?_
    refine AllReadyH.cons rfl (fun K hK => ?_) AllReadyH.nil
    refine step_store_mid (by rfl) 33 (.tmp 7) (.tmp 15) (by rfl) W2.heap.size 0 #[.int .i64 xR, .int .i64 xD, .int .i64 xK] (by rfl) (by rfl) HT.out shapeInfo threeOne ?_
    refine hK.out _ _ ?_ (fun hHeld => ?_)
    · exact hHeld.kp (Kp.setCells _ _ _ _) (by simp; have := HD1.out.lt; have := HK3.out.size; simp at this; omega)
    clear hK K
    refine wpAnyH_done (by kernel_rfl) ?_ _
    have D6 : DC w b b t _ ef0 (w3.setCells W2.heap.size 0 [.int .i64 xR, .int .i64 xD, .int .i64 xK]) := HD1.out.kp0 HKN.out
    generalize w3.setCells W2.heap.size 0 [.int .i64 xR, .int .i64 xD, .int .i64 xK] = w6 at D6 hn0 hn1 hn2 ⊢
    have F6 := far3 w6 3 xR xD xK (B := w.heap.size + 2) D6.lt
    have HD6 := hid (D6.kp0 (Kp.new w6 (.cells #[.int .i64 xR, .int .i64 xD, .int .i64 xK] 3)))
    have HF6 := hid F6
    clear D6 F6 hHeld s1 sA
    go_wp2_with (first
      | (go_at_call 102; go_loud (refine (m_told _ _ ⟨_, _, _, rfl⟩).mono ?_; rintro e w5 ⟨rfl, hk5⟩; obtain ⟨hth, hch, hrg, hfr⟩ := DC.told (HD6.out.kp0 hk5) rfl (HF6.out.kp hk5 (by simp)); have HTH := hid hth; have HCH := hid hch; have HRG := hid hrg; have HFR := hid hfr; unfold tellc at HCH HRG HFR; clear hth hch hrg hfr hk5))
      | (refine wpList_store_mid (by rfl) 73 (.tmp 6) (.tmp 23) (by rfl) (w.heap.size + 1) 0 #[.slice (some ⟨w6.heap.size, 0, none⟩) 3 3, .int .i64 0, .int .i64 0, .int .i64 0, .int .i64 0, .int .i64 0, .int .i64 0] (by rfl) (by rfl) HTH.out effInfo effOne ?_))
    generalize w5.setCells (w.heap.size + 1) 0 (#[.slice (some ⟨w6.heap.size, 0, none⟩) 3 3, .int .i64 0, .int .i64 0, .int .i64 0, .int .i64 0, .int .i64 0, .int .i64 0] : Array Value).toList = W9 at HCH HRG HFR ⊢
    refine bodyPost_ret (v := .agg #[.slice (some ⟨w6.heap.size, 0, none⟩) 3 3, .int .i64 0, .int .i64 0, .int .i64 0, .int .i64 0, .int .i64 0, .int .i64 0]) ?_ rfl ⟨_, rfl, HCH.out, HFR.out⟩
    have hl := run_eff rfl HRG.out
    simp [results, Tryd.results94, asAddr, Act.put, hl]
end
end Go.Proofs.YtbiompmklijgoaaDoor
/-
  The contracts of package model's doPut. Conditions: those that stand in each theorem.
-/
namespace Go.Proofs.YtbiompmklijgoaaDoor
set_option linter.unusedVariables false
set_option linter.unusedSimpArgs false
open Go.RowKit Go.Deep Go.Maps

section
variable {w w' W V : World} {b b0 : MB} {t : MT} {x : MA} {ef : Array Value}
theorem MR.dat_f (R : MR W b t) {g n c : Nat} (hv : b.wv = .slice (some ⟨g, 0, none⟩) n c) (i : Nat) : W.frozen? ⟨g, i, none⟩ = false := by
  have D := R.D
  rcases D.2 with ⟨h0, _⟩ | ⟨g', cap, cur, h1, hb⟩
  · rw [hv] at h0; cases h0
  · rw [hv] at h1
    injection h1 with e1 e2 e3
    injection e1 with e1
    injection e1 with e1
    subst e1
    exact Blk.frozen (cs := cur) (t := 3) hb.2.1 _
theorem DC.setW (h : DC w b0 b t x ef W) {p : Nat} {y : Int} (hp : p < t.ws.length) (ok : (t.setW p y).Ok) {g n c : Nat} (hv : b.wv = .slice (some ⟨g, 0, none⟩) n c) : DC w b0 b (t.setW p y) x ef (W.setCell ⟨g, p, none⟩ (.int .i64 y)) := by
  obtain ⟨R, K⟩ := h.R.setW hp ok hv
  obtain ⟨b', e1, e2, D⟩ := h.chg ⟨b, rfl, rfl, R, K, fun z hz => .inl hz⟩
  obtain ⟨n1, n2⟩ := h.notA
  exact ⟨R, h.A.kp K n1, h.E.kp K n2, h.g, h.sb, D.kp, h.lo, h.nw⟩
theorem MT.Ok.put {t : MT} (ok : t.Ok) {k i : Nat} {y : Int} (hk : k < t.ob.length) (hi : i < (t.ob.getD k OB.zero).d) (hy : W64 y) : (t.setW ((t.ob.getD k OB.zero).f + (t.ob.getD k OB.zero).r + i) y).Ok := by
  refine ok.setW hy (fun i' j' hi' hj' e => ?_)
  have := ok.lone (i := i') (j := j') (i' := k) (j' := (t.ob.getD k OB.zero).r + i) hi' (by omega) hk (by omega) (by omega)
  obtain ⟨e1, e2⟩ := this
  subst e1
  omega
set_option maxRecDepth 100000 in
set_option maxHeartbeats 4000000 in
theorem m_doPut (R : MR w b t) (m : Nat) (hm : m < t.n) (xk xn xr xd xs : Int) (hx64 : W64 xn) (a : Nat) (ha : a < 16) (xb : Int) (i : Nat) (y : Int) (hyy : y = t.sl.getD (m * 16 + a) 0) (hh : t.has y = true) (hi : i < (t.obj y).d) :
    Calls Tryd.prog 86 #[.pointer (some ⟨b.g, 0, none⟩), .pointer (some ⟨b.sb, m * 16, none⟩), .agg #[.int .i64 xk, .int .i64 (a : Int), .int .i64 xb, .int .i64 (i : Int), .int .i64 xn, .int .i64 xr, .int .i64 xd, .int .i64 xs]] w fun e w' => e = .returned (.agg #[.slice none 0 0, .int .i64 0, .int .i64 0, .int .i64 0, .int .i64 0, .int .i64 0, .int .i64 0]) ∧ ChgM w b (t.setW ((t.obj y).f + (t.obj y).r + i) xn) w' := by
  have D1 : DC w b b t ⟨xk, (a : Int), xb, (i : Int), xn, xr, xd, xs⟩ ef0 _ := DC.start R
  unfold MA.cells ef0 at D1
  simp only at D1
  have hok := R.ok
  have hsl := hok.sl
  have h4 := hok.n4
  have q1 : (a : Int) < 16 := by omega
  have hz16 : m * 16 + a < 16 * t.n := by omega
  obtain ⟨k, hk, hko, hob⟩ := MT.has_nat hh
  have hput := hok.put (i := i) hko (by rw [← hob]; exact hi) hx64
  have hfit := hok.fit k hko
  rw [← hob] at hfit hput
  have hsm := hok.small.2
  obtain ⟨fo, hfo⟩ : ∃ f, f = (t.obj y).f + (t.obj y).r := ⟨_, rfl⟩
  obtain ⟨n, hn⟩ : ∃ n, n = (t.obj y).d := ⟨_, rfl⟩
  rw [← hn] at hi
  rw [← hfo, ← hn] at hfit
  rw [← hfo] at hput ⊢
  have hq : (i : Int) < (n : Int) := by omega
  have hwl : fo + i < t.ws.length := by omega
  have hnl : n ≤ 100000000 := by omega
  obtain ⟨g0, c0, hwv, hc0⟩ := R.dat hwl
  have hpos : 0 < n := by omega
  have HY := hid hyy
  have HPUT := hid hput
  have HH := hid hh
  have HFO := hid hfo
  have HN := hid hn
  have HWV := hid hwv
  have HWL := hid hwl
  have HPOS := hid hpos
  clear hyy hput hh hk hko hob hfit hfo hn hwv hc0 hwl hpos hi hsm hx64
  have HR := hid R
  clear R
  go_enter Tryd.func86, Tryd.ntmps86
  go_upto_region 1 with fail
  generalize ((w.alloc (.cells #[.int .i64 xk, .int .i64 (a : Int), .int .i64 xb, .int .i64 (i : Int), .int .i64 xn, .int .i64 xr, .int .i64 xd, .int .i64 xs] 35)).alloc (.cells #[.slice none 0 0, .int .i64 0, .int .i64 0, .int .i64 0, .int .i64 0, .int .i64 0, .int .i64 0] 73)) = W2 at D1 ⊢
  have HD1 := hid D1
  have s1 := D1.R.cs hz16
  rw [← HY.out] at s1
  have HA1 := hid D1.A
  clear hz16
  clear D1 hok hsl
  refine wp_region_held_drew (S := fun wz => Blk wz w.heap.size 35 #[.int .i64 xk, .int .i64 (a : Int), .int .i64 xb, .int .i64 (i : Int), .int .i64 xn, .int .i64 xr, .int .i64 xd, .int .i64 xs]) (by kernel_rfl) ?_ (fun hHeld => ?_)
  · exact (HD1.out.A.kp (Kp.draw _ 1) (by simp) : Blk _ _ _ _)
  refine wpAnyH_take (i := 0) (v := _) rfl (by kernel_rfl) (by kernel_rfl) (by kernel_rfl) (fun _ _ _ h => h) (Or.inl ⟨by rfl, by (intro wz hSw; go_simp; try with_reducible rfl)⟩) (by assumption) ?_
  refine wpAnyH_take (i := 1) (v := _) rfl (by kernel_rfl) (by kernel_rfl) (by kernel_rfl) (fun _ _ _ h => h) (Or.inl ⟨by rfl, by (intro wz hSw; go_simp; try with_reducible rfl)⟩) (by assumption) ?_
  refine wpAnyH_take (i := 2) (v := _) rfl (by kernel_rfl) (by kernel_rfl) (by kernel_rfl) (fun _ _ _ h => h) (Or.inl ⟨by rfl, by (intro wz hSw; go_simp; try with_reducible rfl)⟩) (by assumption) ?_
  refine wpAnyH_take (i := 3) (v := _) rfl (by kernel_rfl) (by kernel_rfl) (by kernel_rfl) (fun _ _ _ h => h) (Or.inl ⟨by rfl, by (intro wz hSw; have hcj : wz.cell? ⟨w.heap.size, 1, none⟩ = some (.int .i64 (a : Int)) := hSw.cell 1; go_simp; try with_reducible rfl)⟩) (by assumption) ?_
  refine wpAnyH_take (i := 4) (v := _) rfl (by kernel_rfl) (by kernel_rfl) (by kernel_rfl) (fun _ _ _ h => h) (Or.inl ⟨by rfl, by (intro wz hSw; go_simp; try with_reducible rfl)⟩) (by assumption) ?_
  refine wpAnyH_take (i := 5) (v := _) rfl (by kernel_rfl) (by kernel_rfl) (by kernel_rfl) (fun _ _ _ h => h) (Or.inl ⟨by rfl, by (intro wz hSw; go_simp; try with_reducible rfl)⟩) (by assumption) ?_
  refine wpAnyH_take (i := 8) (v := _) rfl (by kernel_rfl) (by kernel_rfl) (by kernel_rfl) (fun _ _ _ h => h) (Or.inl ⟨by rfl, by (intro wz hSw; go_simp; try with_reducible rfl)⟩) (by assumption) ?_
  refine wpAnyH_take (i := 9) (v := _) rfl (by kernel_rfl) (by kernel_rfl) (by kernel_rfl) (fun _ _ _ h => h) (Or.inl ⟨by rfl, by (intro wz hSw; have hcj : wz.cell? ⟨w.heap.size, 3, none⟩ = some (.int .i64 (i : Int)) := hSw.cell 3; go_simp; try with_reducible rfl)⟩) (by assumption) ?_
  refine wpAnyH_take (i := 10) (v := _) rfl (by kernel_rfl) (by kernel_rfl) (by kernel_rfl) (fun _ _ _ h => h) (Or.inl ⟨by rfl, by (intro wz hSw; go_simp; try with_reducible rfl)⟩) (by assumption) ?_
  refine wpAnyH_take (i := 11) (v := _) rfl (by kernel_rfl) (by kernel_rfl) (by kernel_rfl) (fun _ _ _ h => h) (Or.inl ⟨by rfl, by (intro wz hSw; have hcj : wz.cell? ⟨w.heap.size, 4, none⟩ = some (.int .i64 xn) := hSw.cell 4; go_simp; try with_reducible rfl)⟩) (by assumption) ?_
  refine wpAnyH_ready (rs := [6]) (by kernel_rfl) (by simp) ?_
  refine AllReadyH.cons rfl (fun K hK => ?_) AllReadyH.nil
  go_simp
  refine hK.out _ _ ?_ (fun hHeld => ?_)
  · exact hHeld
  clear hK K
  refine wpAnyH_ready (rs := [7]) (by kernel_rfl) (by simp) ?_
  refine AllReadyH.cons rfl (fun K hK => ?_) AllReadyH.nil
  go_simp
  refine (m_data (HD1.out.R.kp0 (Kp.draw _ 1)) HH.out).mono ?_
  rintro e w3 ⟨v, rfl, hv, hk3⟩
  rw [← HN.out, ← HFO.out] at hv
  obtain ⟨cv, rfl, hc1, hc2⟩ := hv.at_ HPOS.out HWV.out
  unfold maxLen at hc2
  have D3 : DC w b b t _ ef0 w3 := (HD1.out.kp0 (Kp.draw _ 1)).kp0 hk3
  have HD3 := hid D3
  have w1 := D3.R.dat2 HWV.out HWL.out
  have w1f := D3.R.dat_f HWV.out (fo + i)
  generalize t.ws.getD (fo + i) 0 = zold at w1
  have HK3 := hid hk3
  clear hv hk3 D3
  try go_wp2_with fail
  refine hK.out _ _ ?_ (fun hHeld => ?_)
  · exact hHeld.kp HK3.out (by simp)
  clear hK K
  refine wpAnyH_take (i := 12) (v := _) rfl (by kernel_rfl) (by kernel_rfl) (by kernel_rfl) (fun _ _ _ h => h) (Or.inl ⟨by rfl, by (intro wz hSw; go_simp; try with_reducible rfl)⟩) (by assumption) ?_
  refine wpAnyH_ready (rs := [13]) (by kernel_rfl) (by simp) ?_
  refine AllReadyH.cons rfl (fun K hK => ?_) AllReadyH.nil
  go_simp
  refine hK.out _ _ ?_ (fun hHeld => ?_)
  · exact (HD3.out.setW HWL.out HPUT.out HWV.out).A
  clear hK K
  refine wpAnyH_done (by kernel_rfl) ?_ _
  have hcut : DC w b b (t.setW (fo + i) xn) ⟨xk, (a : Int), xb, (i : Int), xn, xr, xd, xs⟩ ef0 (w3.setCell ⟨g0, fo + i, none⟩ (.int .i64 xn)) := HD3.out.setW HWL.out HPUT.out HWV.out
  generalize w3.setCell ⟨g0, fo + i, none⟩ (.int .i64 xn) = wc at hcut ⊢
  clear hHeld s1 w1 w1f
  obtain ⟨hth, hch, hrg⟩ := DC.fin (ef' := #[.slice none 0 0, .int .i64 0, .int .i64 0, .int .i64 0, .int .i64 0, .int .i64 0, .int .i64 0]) hcut rfl rfl
  have HTH := hid hth
  have HCH := hid hch
  have HRG := hid hrg
  clear hth hch hrg
  clear hcut
  go_wp2_with (refine wpList_store_mid (by rfl) 73 (.tmp 6) (.tmp 20) (by rfl) (w.heap.size + 1) 0 #[.slice none 0 0, .int .i64 0, .int .i64 0, .int .i64 0, .int .i64 0, .int .i64 0, .int .i64 0] (by rfl) (by rfl) HTH.out effInfo effOne ?_)
  generalize wc.setCells (w.heap.size + 1) 0 (#[.slice none 0 0, .int .i64 0, .int .i64 0, .int .i64 0, .int .i64 0, .int .i64 0, .int .i64 0] : Array Value).toList = W9 at HCH HRG ⊢
  refine bodyPost_ret (v := .agg #[.slice none 0 0, .int .i64 0, .int .i64 0, .int .i64 0, .int .i64 0, .int .i64 0, .int .i64 0]) ?_ rfl ⟨rfl, HCH.out⟩
  have hl := run_eff rfl HRG.out
  simp [results, Tryd.results86, asAddr, Act.put, hl]
end
end Go.Proofs.YtbiompmklijgoaaDoor
/-
  The contracts of package model's doDrop, doCopy, doImport, doExport. Conditions: those that stand in each theorem.
-/
namespace Go.Proofs.YtbiompmklijgoaaDoor
set_option linter.unusedVariables false
set_option linter.unusedSimpArgs false
open Go.RowKit Go.Deep Go.Maps

section
variable {w w' W V : World} {b : MB} {t : MT}
set_option maxRecDepth 100000 in
set_option maxHeartbeats 4000000 in
theorem m_doDrop (R : MR w b t) (m : Nat) (hm : m < t.n) (xk xn xr xd xs : Int) (a : Nat) (ha : a < 16) (xb xi : Int) :
    Calls Tryd.prog 89 #[.pointer (some ⟨b.g, 0, none⟩), .pointer (some ⟨b.sb, m * 16, none⟩), .agg #[.int .i64 xk, .int .i64 (a : Int), .int .i64 xb, .int .i64 xi, .int .i64 xn, .int .i64 xr, .int .i64 xd, .int .i64 xs]] w fun e w' => e = .returned (.agg #[.slice none 0 0, .int .i64 0, .int .i64 0, .int .i64 0, .int .i64 0, .int .i64 0, .int .i64 0]) ∧ ChgM w b (t.setS (m * 16 + a) 0) w' := by
  have D1 : DC w b b t ⟨xk, (a : Int), xb, xi, xn, xr, xd, xs⟩ ef0 _ := DC.start R
  unfold MA.cells ef0 at D1
  simp only at D1
  have hok := R.ok
  have hsl := hok.sl
  have h4 := hok.n4
  have q1 : (a : Int) < 16 := by omega
  have hz16 : m * 16 + a < 16 * t.n := by omega
  have HZ := hid hz16
  have HR := hid R
  clear R
  go_enter Tryd.func89, Tryd.ntmps89
  go_upto_region 1 with fail
  generalize ((w.alloc (.cells #[.int .i64 xk, .int .i64 (a : Int), .int .i64 xb, .int .i64 xi, .int .i64 xn, .int .i64 xr, .int .i64 xd, .int .i64 xs] 35)).alloc (.cells #[.slice none 0 0, .int .i64 0, .int .i64 0, .int .i64 0, .int .i64 0, .int .i64 0, .int .i64 0] 73)) = W2 at D1 ⊢
  have HD1 := hid D1
  go_cut [] (fun wx => DC w b b (t.setS (m * 16 + a) 0) ⟨xk, (a : Int), xb, xi, xn, xr, xd, xs⟩ ef0 wx)
  case first =>
    have c1 : W2.cell? ⟨w.heap.size, 1, none⟩ = some (.int .i64 (a : Int)) := D1.A.cell 1
    have s1 := D1.R.cs hz16
    have s2 := D1.R.cs_f (m * 16 + a)
    generalize t.sl.getD (m * 16 + a) 0 = y at s1
    clear hz16
    clear D1 hok hsl
    go_region
    all_goals (
      go_wp2_with fail
      go_meet
      first
        | exact (HD1.out.kp0 (Kp.draw _ 1)).setS HZ.out ⟨by omega, by omega⟩
        | exact (HD1.out.setS HZ.out ⟨by omega, by omega⟩).kp0 (Kp.draw _ 1))
  case rest =>
    have HDX := hid hcut
    obtain ⟨hth, hch, hrg⟩ := DC.fin (ef' := #[.slice none 0 0, .int .i64 0, .int .i64 0, .int .i64 0, .int .i64 0, .int .i64 0, .int .i64 0]) hcut rfl rfl
    have HTH := hid hth
    have HCH := hid hch
    have HRG := hid hrg
    clear hth hch hrg
    clear D1 hok hsl hcut
    go_wp2_with (refine wpList_store_mid (by rfl) 73 (.tmp 6) (.tmp 12) (by rfl) (w.heap.size + 1) 0 #[.slice none 0 0, .int .i64 0, .int .i64 0, .int .i64 0, .int .i64 0, .int .i64 0, .int .i64 0] (by rfl) (by rfl) HTH.out effInfo effOne ?_)
    generalize wc.setCells (w.heap.size + 1) 0 (#[.slice none 0 0, .int .i64 0, .int .i64 0, .int .i64 0, .int .i64 0, .int .i64 0, .int .i64 0] : Array Value).toList = W9 at HCH HRG ⊢
    refine bodyPost_ret (v := .agg #[.slice none 0 0, .int .i64 0, .int .i64 0, .int .i64 0, .int .i64 0, .int .i64 0, .int .i64 0]) ?_ rfl ⟨rfl, HCH.out⟩
    have hl := run_eff rfl HRG.out
    simp [results, Tryd.results89, asAddr, Act.put, hl]
end
end Go.Proofs.YtbiompmklijgoaaDoor
/-
  The contracts of package model's doCopy. Conditions: those that stand in each theorem.
-/
namespace Go.Proofs.YtbiompmklijgoaaDoor
set_option linter.unusedVariables false
set_option linter.unusedSimpArgs false
open Go.RowKit Go.Deep Go.Maps

section
variable {w w' W V : World} {b : MB} {t : MT}
set_option maxRecDepth 100000 in
set_option maxHeartbeats 4000000 in
theorem m_doCopy (R : MR w b t) (m : Nat) (hm : m < t.n) (xk xn xr xd xs : Int) (a : Nat) (ha : a < 16) (c : Nat) (hc : c < 16) (xi : Int) (y : Int) (hyy : y = t.sl.getD (m * 16 + c) 0) :
    Calls Tryd.prog 88 #[.pointer (some ⟨b.g, 0, none⟩), .pointer (some ⟨b.sb, m * 16, none⟩), .agg #[.int .i64 xk, .int .i64 (a : Int), .int .i64 (c : Int), .int .i64 xi, .int .i64 xn, .int .i64 xr, .int .i64 xd, .int .i64 xs]] w fun e w' => e = .returned (.agg #[.slice none 0 0, .int .i64 0, .int .i64 0, .int .i64 0, .int .i64 0, .int .i64 0, .int .i64 y]) ∧ ChgM w b (t.setS (m * 16 + a) y) w' := by
  have D1 : DC w b b t ⟨xk, (a : Int), (c : Int), xi, xn, xr, xd, xs⟩ ef0 _ := DC.start R
  unfold MA.cells ef0 at D1
  simp only at D1
  have hok := R.ok
  have hsl := hok.sl
  have h4 := hok.n4
  have q1 : (a : Int) < 16 := by omega
  have q2 : (c : Int) < 16 := by omega
  have hz16 : m * 16 + a < 16 * t.n := by omega
  have hy16 : m * 16 + c < 16 * t.n := by omega
  have hiy : t.idn (t.sl.getD (m * 16 + c) 0) := getD_of hok.isl (by rw [hsl]; exact hy16)
  rw [← hyy] at hiy
  have hy := hyy
  have HY := hid hy
  have HIY := hid hiy
  have HZ := hid hz16
  clear hy hiy hyy
  have HR := hid R
  clear R
  go_enter Tryd.func88, Tryd.ntmps88
  go_upto_region 1 with fail
  generalize ((w.alloc (.cells #[.int .i64 xk, .int .i64 (a : Int), .int .i64 (c : Int), .int .i64 xi, .int .i64 xn, .int .i64 xr, .int .i64 xd, .int .i64 xs] 35)).alloc (.cells #[.slice none 0 0, .int .i64 0, .int .i64 0, .int .i64 0, .int .i64 0, .int .i64 0, .int .i64 0] 73)) = W2 at D1 ⊢
  have HD1 := hid D1
  go_cut [] (fun wx => DC w b b (t.setS (m * 16 + a) y) ⟨xk, (a : Int), (c : Int), xi, xn, xr, xd, xs⟩ ef0 wx)
  case first =>
    have c1 : W2.cell? ⟨w.heap.size, 1, none⟩ = some (.int .i64 (a : Int)) := D1.A.cell 1
    have c2 : W2.cell? ⟨w.heap.size, 2, none⟩ = some (.int .i64 (c : Int)) := D1.A.cell 2
    have s1 := D1.R.cs hz16
    have s3 := D1.R.cs hy16
    rw [← HY.out] at s3
    have s2 := D1.R.cs_f (m * 16 + a)
    generalize t.sl.getD (m * 16 + a) 0 = y2 at s1
    clear hz16 hy16
    clear D1 hok hsl
    go_region
    all_goals (
      go_wp2_with fail
      go_meet
      first
        | exact (HD1.out.kp0 (Kp.draw _ 1)).setS HZ.out HIY.out
        | exact (HD1.out.setS HZ.out HIY.out).kp0 (Kp.draw _ 1))
  case rest =>
    have HDX := hid hcut
    have hcutd : DC w b b (t.setS (m * 16 + a) y) ⟨xk, (a : Int), (c : Int), xi, xn, xr, xd, xs⟩ ef0 wc.drew := hcut.kp0 (Kp.draw _ 1)
    obtain ⟨hth, hch, hrg⟩ := DC.fin (ef' := #[.slice none 0 0, .int .i64 0, .int .i64 0, .int .i64 0, .int .i64 0, .int .i64 0, .int .i64 y]) (hcutd) rfl rfl
    have HTH := hid hth
    have HCH := hid hch
    have HRG := hid hrg
    clear hth hch hrg
    have c1 : wc.cell? ⟨w.heap.size, 1, none⟩ = some (.int .i64 (a : Int)) := hcut.A.cell 1
    have s1 : wc.cell? ⟨b.sb, m * 16 + a, none⟩ = some (.int .i64 y) := by
      rw [hcut.R.cs hz16]
      show some (Value.int .i64 ((t.sl.set (m * 16 + a) y).getD (m * 16 + a) 0)) = _
      rw [getD_set, if_pos ⟨rfl, by rw [hsl]; exact hz16⟩]
    clear hz16 hy16
    clear D1 hok hsl hcut
    go_wp2
    refine wp_region_any (by kernel_rfl) ?_
    change wpAny _ _ _ _ _ _ _ (World.drew _)
    refine wpAny_take (i := 0) (v := _) rfl (by kernel_rfl) (by kernel_rfl) (by kernel_rfl) (fun _ _ _ h => h) (Or.inl ⟨by rfl, by (intro w; go_simp; try with_reducible rfl)⟩) ?_
    refine wpAny_take (i := 1) (v := _) rfl (by kernel_rfl) (by kernel_rfl) (by kernel_rfl) (fun _ _ _ h => h) (Or.inl ⟨by rfl, by (intro w; go_simp; try with_reducible rfl)⟩) ?_
    refine wpAny_take (i := 3) (v := _) rfl (by kernel_rfl) (by kernel_rfl) (by kernel_rfl) (fun _ _ _ h => h) (Or.inl ⟨by rfl, by (intro w; go_simp; try with_reducible rfl)⟩) ?_
    refine wpAny_ready (rs := [2]) (by kernel_rfl) (by simp) ?_
    refine AllReady.cons rfl (fun K hK => ?_) AllReady.nil
    go_simp
    refine hK _ _ ?_
    clear hK K
    refine wpAny_take (i := 4) (v := _) rfl (by kernel_rfl) (by kernel_rfl) (by kernel_rfl) (fun _ _ _ h => h) (Or.inl ⟨by rfl, by (intro w; go_simp; try with_reducible rfl)⟩) ?_
    refine wpAny_ready (rs := [5]) (by kernel_rfl) (by simp) ?_
    refine AllReady.cons rfl (fun K hK => ?_) AllReady.nil
    go_simp
    refine hK _ _ ?_
    clear hK K
    refine wpAny_take (i := 6) (v := _) rfl (by kernel_rfl) (by kernel_rfl) (by kernel_rfl) (fun _ _ _ h => h) (Or.inl ⟨by rfl, by (intro w; go_simp; try with_reducible rfl)⟩) ?_
    refine wpAny_ready (rs := [7]) (by kernel_rfl) (by simp) ?_
    refine AllReady.cons rfl (fun K hK => ?_) AllReady.nil
    refine step_store_mid (by rfl) 73 (.tmp 6) (.tmp 24) (by rfl) (w.heap.size + 1) 0 #[.slice none 0 0, .int .i64 0, .int .i64 0, .int .i64 0, .int .i64 0, .int .i64 0, .int .i64 y] (by rfl) (by rfl) HTH.out effInfo effOne ?_
    refine hK _ _ ?_
    clear hK K
    refine wpAny_done (by kernel_rfl) ?_ _
    go_wp2
    generalize wc.drew.setCells (w.heap.size + 1) 0 (#[.slice none 0 0, .int .i64 0, .int .i64 0, .int .i64 0, .int .i64 0, .int .i64 0, .int .i64 y] : Array Value).toList = W9 at HCH HRG ⊢
    refine bodyPost_ret (v := .agg #[.slice none 0 0, .int .i64 0, .int .i64 0, .int .i64 0, .int .i64 0, .int .i64 0, .int .i64 y]) ?_ rfl ⟨rfl, HCH.out⟩
    have hl := run_eff rfl HRG.out
    simp [results, Tryd.results88, asAddr, Act.put, hl]
end
end Go.Proofs.YtbiompmklijgoaaDoor
/-
  The contracts of package model's doImport, doExport. Conditions: those that stand in each theorem.
-/
namespace Go.Proofs.YtbiompmklijgoaaDoor
set_option linter.unusedVariables false
set_option linter.unusedSimpArgs false
open Go.RowKit Go.Deep Go.Maps

section
variable {w w' W V : World} {b : MB} {t : MT}
theorem MR.cg_f (R : MR w b t) (i : Nat) : w.frozen? ⟨b.g, i, none⟩ = false := by
  obtain ⟨c, sp, h1, h2, h3, G, B⟩ := R.mem
  exact G.frozen i
set_option maxRecDepth 100000 in
set_option maxHeartbeats 4000000 in
theorem m_doImport (R : MR w b t) (m : Nat) (hm : m < t.n) (xk xn xr xd xs : Int) (a : Nat) (ha : a < 16) (xb : Int) (i : Nat) (hi : i < 16) (y : Int) (hyy : y = t.gl.getD i 0) :
    Calls Tryd.prog 93 #[.pointer (some ⟨b.g, 0, none⟩), .pointer (some ⟨b.sb, m * 16, none⟩), .agg #[.int .i64 xk, .int .i64 (a : Int), .int .i64 xb, .int .i64 (i : Int), .int .i64 xn, .int .i64 xr, .int .i64 xd, .int .i64 xs]] w fun e w' => e = .returned (.agg #[.slice none 0 0, .int .i64 0, .int .i64 0, .int .i64 0, .int .i64 0, .int .i64 0, .int .i64 y]) ∧ ChgM w b (t.setS (m * 16 + a) y) w' := by
  have D1 : DC w b b t ⟨xk, (a : Int), xb, (i : Int), xn, xr, xd, xs⟩ ef0 _ := DC.start R
  unfold MA.cells ef0 at D1
  simp only at D1
  have hok := R.ok
  have hsl := hok.sl
  have h4 := hok.n4
  have q1 : (a : Int) < 16 := by omega
  have q2 : (i : Int) < 16 := by omega
  have hz16 : m * 16 + a < 16 * t.n := by omega
  have hgl := hok.gl
  have hiy : t.idn (t.gl.getD i 0) := getD_of hok.igl (by rw [hgl]; exact hi)
  rw [← hyy] at hiy
  have hy := hyy
  have HY := hid hy
  have HIY := hid hiy
  have HZ := hid hz16
  have HI := hid hi
  clear hy hiy hyy hgl
  have HR := hid R
  clear R
  go_enter Tryd.func93, Tryd.ntmps93
  go_upto_region 1 with fail
  generalize ((w.alloc (.cells #[.int .i64 xk, .int .i64 (a : Int), .int .i64 xb, .int .i64 (i : Int), .int .i64 xn, .int .i64 xr, .int .i64 xd, .int .i64 xs] 35)).alloc (.cells #[.slice none 0 0, .int .i64 0, .int .i64 0, .int .i64 0, .int .i64 0, .int .i64 0, .int .i64 0] 73)) = W2 at D1 ⊢
  have HD1 := hid D1
  go_cut [] (fun wx => DC w b b (t.setS (m * 16 + a) y) ⟨xk, (a : Int), xb, (i : Int), xn, xr, xd, xs⟩ ef0 wx)
  case first =>
    have c1 : W2.cell? ⟨w.heap.size, 1, none⟩ = some (.int .i64 (a : Int)) := D1.A.cell 1
    have c3 : W2.cell? ⟨w.heap.size, 3, none⟩ = some (.int .i64 (i : Int)) := D1.A.cell 3
    have s1 := D1.R.cs hz16
    have s3 := D1.R.cg hi
    rw [← HY.out] at s3
    have s2 := D1.R.cs_f (m * 16 + a)
    generalize t.sl.getD (m * 16 + a) 0 = y2 at s1
    clear hz16
    clear D1 hok hsl
    go_region
    all_goals (
      go_wp2_with fail
      go_meet
      first
        | exact (HD1.out.kp0 (Kp.draw _ 1)).setS HZ.out HIY.out
        | exact (HD1.out.setS HZ.out HIY.out).kp0 (Kp.draw _ 1))
  case rest =>
    have HDX := hid hcut
    have hcutd : DC w b b (t.setS (m * 16 + a) y) ⟨xk, (a : Int), xb, (i : Int), xn, xr, xd, xs⟩ ef0 wc.drew := hcut.kp0 (Kp.draw _ 1)
    obtain ⟨hth, hch, hrg⟩ := DC.fin (ef' := #[.slice none 0 0, .int .i64 0, .int .i64 0, .int .i64 0, .int .i64 0, .int .i64 0, .int .i64 y]) hcutd rfl rfl
    have HTH := hid hth
    have HCH := hid hch
    have HRG := hid hrg
    clear hth hch hrg
    have c1 : wc.cell? ⟨w.heap.size, 1, none⟩ = some (.int .i64 (a : Int)) := hcut.A.cell 1
    have s1 : wc.cell? ⟨b.sb, m * 16 + a, none⟩ = some (.int .i64 y) := by
      rw [hcut.R.cs hz16]
      show some (Value.int .i64 ((t.sl.set (m * 16 + a) y).getD (m * 16 + a) 0)) = _
      rw [getD_set, if_pos ⟨rfl, by rw [hsl]; exact hz16⟩]
    clear hz16 hcutd
    clear D1 hok hsl hcut
    go_wp2
    refine wp_region_any (by kernel_rfl) ?_
    change wpAny _ _ _ _ _ _ _ (World.drew _)
    refine wpAny_take (i := 0) (v := _) rfl (by kernel_rfl) (by kernel_rfl) (by kernel_rfl) (fun _ _ _ h => h) (Or.inl ⟨by rfl, by (intro w; go_simp; try with_reducible rfl)⟩) ?_
    refine wpAny_take (i := 1) (v := _) rfl (by kernel_rfl) (by kernel_rfl) (by kernel_rfl) (fun _ _ _ h => h) (Or.inl ⟨by rfl, by (intro w; go_simp; try with_reducible rfl)⟩) ?_
    refine wpAny_take (i := 3) (v := _) rfl (by kernel_rfl) (by kernel_rfl) (by kernel_rfl) (fun _ _ _ h => h) (Or.inl ⟨by rfl, by (intro w; go_simp; try with_reducible rfl)⟩) ?_
    refine wpAny_ready (rs := [2]) (by kernel_rfl) (by simp) ?_
    refine AllReady.cons rfl (fun K hK => ?_) AllReady.nil
    go_simp
    refine hK _ _ ?_
    clear hK K
    refine wpAny_take (i := 4) (v := _) rfl (by kernel_rfl) (by kernel_rfl) (by kernel_rfl) (fun _ _ _ h => h) (Or.inl ⟨by rfl, by (intro w; go_simp; try with_reducible rfl)⟩) ?_
    refine wpAny_ready (rs := [5]) (by kernel_rfl) (by simp) ?_
    refine AllReady.cons rfl (fun K hK => ?_) AllReady.nil
    go_simp
    refine hK _ _ ?_
    clear hK K
    refine wpAny_take (i := 6) (v := _) rfl (by kernel_rfl) (by kernel_rfl) (by kernel_rfl) (fun _ _ _ h => h) (Or.inl ⟨by rfl, by (intro w; go_simp; try with_reducible rfl)⟩) ?_
    refine wpAny_ready (rs := [7]) (by kernel_rfl) (by simp) ?_
    refine AllReady.cons rfl (fun K hK => ?_) AllReady.nil
    refine step_store_mid (by rfl) 73 (.tmp 6) (.tmp 25) (by rfl) (w.heap.size + 1) 0 #[.slice none 0 0, .int .i64 0, .int .i64 0, .int .i64 0, .int .i64 0, .int .i64 0, .int .i64 y] (by rfl) (by rfl) HTH.out effInfo effOne ?_
    refine hK _ _ ?_
    clear hK K
    refine wpAny_done (by kernel_rfl) ?_ _
    go_wp2
    generalize wc.drew.setCells (w.heap.size + 1) 0 (#[.slice none 0 0, .int .i64 0, .int .i64 0, .int .i64 0, .int .i64 0, .int .i64 0, .int .i64 y] : Array Value).toList = W9 at HCH HRG ⊢
    refine bodyPost_ret (v := .agg #[.slice none 0 0, .int .i64 0, .int .i64 0, .int .i64 0, .int .i64 0, .int .i64 0, .int .i64 y]) ?_ rfl ⟨rfl, HCH.out⟩
    have hl := run_eff rfl HRG.out
    simp [results, Tryd.results93, asAddr, Act.put, hl]
set_option maxRecDepth 100000 in
set_option maxHeartbeats 4000000 in
theorem m_doExport (R : MR w b t) (m : Nat) (hm : m < t.n) (xk xn xr xd xs : Int) (a : Nat) (ha : a < 16) (xb : Int) (i : Nat) (hi : i < 16) (y : Int) (hyy : y = t.sl.getD (m * 16 + a) 0) :
    Calls Tryd.prog 92 #[.pointer (some ⟨b.g, 0, none⟩), .pointer (some ⟨b.sb, m * 16, none⟩), .agg #[.int .i64 xk, .int .i64 (a : Int), .int .i64 xb, .int .i64 (i : Int), .int .i64 xn, .int .i64 xr, .int .i64 xd, .int .i64 xs]] w fun e w' => e = .returned (.agg #[.slice none 0 0, .int .i64 0, .int .i64 0, .int .i64 0, .int .i64 0, .int .i64 0, .int .i64 0]) ∧ ChgM w b (t.setG i y) w' := by
  have D1 : DC w b b t ⟨xk, (a : Int), xb, (i : Int), xn, xr, xd, xs⟩ ef0 _ := DC.start R
  unfold MA.cells ef0 at D1
  simp only at D1
  have hok := R.ok
  have hsl := hok.sl
  have h4 := hok.n4
  have q1 : (a : Int) < 16 := by omega
  have q2 : (i : Int) < 16 := by omega
  have hz16 : m * 16 + a < 16 * t.n := by omega
  have hiy : t.idn (t.sl.getD (m * 16 + a) 0) := getD_of hok.isl (by rw [hsl]; exact hz16)
  rw [← hyy] at hiy
  have hy := hyy
  have HY := hid hy
  have HIY := hid hiy
  have HZ := hid hz16
  have HI := hid hi
  clear hy hiy hyy
  have HR := hid R
  clear R
  go_enter Tryd.func92, Tryd.ntmps92
  go_upto_region 1 with fail
  generalize ((w.alloc (.cells #[.int .i64 xk, .int .i64 (a : Int), .int .i64 xb, .int .i64 (i : Int), .int .i64 xn, .int .i64 xr, .int .i64 xd, .int .i64 xs] 35)).alloc (.cells #[.slice none 0 0, .int .i64 0, .int .i64 0, .int .i64 0, .int .i64 0, .int .i64 0, .int .i64 0] 73)) = W2 at D1 ⊢
  have HD1 := hid D1
  go_cut [] (fun wx => DC w b b (t.setG i y) ⟨xk, (a : Int), xb, (i : Int), xn, xr, xd, xs⟩ ef0 wx)
  case first =>
    have c1 : W2.cell? ⟨w.heap.size, 1, none⟩ = some (.int .i64 (a : Int)) := D1.A.cell 1
    have c3 : W2.cell? ⟨w.heap.size, 3, none⟩ = some (.int .i64 (i : Int)) := D1.A.cell 3
    have s1 := D1.R.cs hz16
    rw [← HY.out] at s1
    have s3 := D1.R.cg hi
    have s2 := D1.R.cg_f (1 + i)
    generalize t.gl.getD i 0 = y2 at s3
    clear hz16
    clear D1 hok hsl
    go_region
    all_goals (
      go_wp2_with fail
      go_meet
      first
        | exact (HD1.out.kp0 (Kp.draw _ 1)).setG HI.out HIY.out
        | exact (HD1.out.setG HI.out HIY.out).kp0 (Kp.draw _ 1))
  case rest =>
    have HDX := hid hcut
    obtain ⟨hth, hch, hrg⟩ := DC.fin (ef' := #[.slice none 0 0, .int .i64 0, .int .i64 0, .int .i64 0, .int .i64 0, .int .i64 0, .int .i64 0]) hcut rfl rfl
    have HTH := hid hth
    have HCH := hid hch
    have HRG := hid hrg
    clear hth hch hrg
    clear D1 hok hsl hcut
    go_wp2_with (refine wpList_store_mid (by rfl) 73 (.tmp 6) (.tmp 19) (by rfl) (w.heap.size + 1) 0 #[.slice none 0 0, .int .i64 0, .int .i64 0, .int .i64 0, .int .i64 0, .int .i64 0, .int .i64 0] (by rfl) (by rfl) HTH.out effInfo effOne ?_)
    generalize wc.setCells (w.heap.size + 1) 0 (#[.slice none 0 0, .int .i64 0, .int .i64 0, .int .i64 0, .int .i64 0, .int .i64 0, .int .i64 0] : Array Value).toList = W9 at HCH HRG ⊢
    refine bodyPost_ret (v := .agg #[.slice none 0 0, .int .i64 0, .int .i64 0, .int .i64 0, .int .i64 0, .int .i64 0, .int .i64 0]) ?_ rfl ⟨rfl, HCH.out⟩
    have hl := run_eff rfl HRG.out
    simp [results, Tryd.results92, asAddr, Act.put, hl]
end
end Go.Proofs.YtbiompmklijgoaaDoor
