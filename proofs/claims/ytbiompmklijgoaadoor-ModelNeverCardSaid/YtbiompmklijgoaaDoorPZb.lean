/-
  The contract of package model's Do, of any act. Conditions: those that stand in each theorem.
-/
import Derived.Test.YtbiompmklijgoaaDoorPXa
import Derived.Test.YtbiompmklijgoaaDoorPXb
import Derived.Test.YtbiompmklijgoaaDoorPXc
import Derived.Test.YtbiompmklijgoaaDoorPGD
import Derived.Test.YtbiompmklijgoaaDoorPWa
import Derived.Test.YtbiompmklijgoaaDoorPWb
import Derived.Test.YtbiompmklijgoaaDoorPWc
import Derived.Test.YtbiompmklijgoaaDoorPWd
import Derived.Test.YtbiompmklijgoaaDoorPWe
import Derived.Test.YtbiompmklijgoaaDoorPWf
import Derived.Test.YtbiompmklijgoaaDoorPGB
import Derived.Test.YtbiompmklijgoaaDoorPGC
namespace Go.Proofs.YtbiompmklijgoaaDoor
set_option linter.unusedVariables false
set_option linter.unusedSimpArgs false
open Go.RowKit Go.Deep Go.Maps

/-- What an act reports. -/
structure ET where
  zs : List Int
  o : Int
  i : Int
  old : Int
  nw : Int
  made : Int
  load : Int
def ET.zero : ET := ⟨[], 0, 0, 0, 0, 0, 0⟩
def ET.told (zs : List Int) : ET := ⟨zs, 0, 0, 0, 0, 0, 0⟩
def ET.cells (e : ET) (v : Value) : Array Value := #[v, .int .i64 e.o, .int .i64 e.i, .int .i64 e.old, .int .i64 e.nw, .int .i64 e.made, .int .i64 e.load]
/-- A slot of mutator m. -/
def MT.slt (t : MT) (m : Nat) (a : Int) : Int := t.sl.getD (m * 16 + a.toNat) 0
def inI (i : Int) (n : Nat) : Bool := decide (0 ≤ i ∧ i < (n : Int))
def MT.err (t : MT) (mu : Int) (x : MA) : Int :=
  if t.hasM mu = false then 1 else if x.k < 0 then 1 else if 12 ≤ x.k then 1 else
  if slotB x.a = false then 1 else
  if (x.k = 1 ∨ x.k = 2 ∨ x.k = 5 ∨ x.k = 7) ∧ slotB x.b = false then 1 else
  if x.k = 0 ∧ shB x.r x.d x.s = false then 2 else
  if x.k = 1 ∧ t.slt mu.toNat x.b = 0 then 7 else
  if (x.k = 2 ∨ x.k = 3 ∨ x.k = 4 ∨ x.k = 11) ∧ t.slt mu.toNat x.a = 0 then 7 else
  if x.k = 1 ∧ inI x.i (t.obj (t.slt mu.toNat x.b)).r = false then 1 else
  if x.k = 2 ∧ inI x.i (t.obj (t.slt mu.toNat x.a)).r = false then 1 else
  if (x.k = 3 ∨ x.k = 4) ∧ inI x.i (t.obj (t.slt mu.toNat x.a)).d = false then 1 else
  if (x.k = 9 ∨ x.k = 10) ∧ inI x.i 16 = false then 1 else 0
def MT.done (t : MT) (m : Nat) (x : MA) : MT × ET :=
  if x.k = 0 then ((t.addM x.r.toNat x.d.toNat x.s.toNat).setS (m * 16 + x.a.toNat) ((t.ob.length : Int) + 1), ⟨[], 0, 0, 0, 0, (t.ob.length : Int) + 1, 0⟩)
  else if x.k = 1 then (t.setS (m * 16 + x.a.toNat) (t.ws.getD ((t.obj (t.slt m x.b)).f + x.i.toNat) 0), ⟨[], 0, 0, 0, 0, 0, t.ws.getD ((t.obj (t.slt m x.b)).f + x.i.toNat) 0⟩)
  else if x.k = 2 then (t.setW ((t.obj (t.slt m x.a)).f + x.i.toNat) (t.slt m x.b), ⟨[], t.slt m x.a, x.i, t.ws.getD ((t.obj (t.slt m x.a)).f + x.i.toNat) 0, t.slt m x.b, 0, 0⟩)
  else if x.k = 3 then (t.setW ((t.obj (t.slt m x.a)).f + (t.obj (t.slt m x.a)).r + x.i.toNat) x.n, ET.zero)
  else if x.k = 4 then (t, ET.told [t.ws.getD ((t.obj (t.slt m x.a)).f + (t.obj (t.slt m x.a)).r + x.i.toNat) 0])
  else if x.k = 5 then (t.setS (m * 16 + x.a.toNat) (t.slt m x.b), ⟨[], 0, 0, 0, 0, 0, t.slt m x.b⟩)
  else if x.k = 6 then (t.setS (m * 16 + x.a.toNat) 0, ET.zero)
  else if x.k = 7 then (t, ET.told [if t.slt m x.a = t.slt m x.b then 1 else 0])
  else if x.k = 8 then (t, ET.told [t.slt m x.a])
  else if x.k = 9 then (t.setG x.i.toNat (t.slt m x.a), ET.zero)
  else if x.k = 10 then (t.setS (m * 16 + x.a.toNat) (t.gl.getD x.i.toNat 0), ⟨[], 0, 0, 0, 0, 0, t.gl.getD x.i.toNat 0⟩)
  else (t, ET.told [((t.obj (t.slt m x.a)).r : Int), ((t.obj (t.slt m x.a)).d : Int), ((t.obj (t.slt m x.a)).k : Int)])
def MT.act (t : MT) (mu : Int) (x : MA) : MT × ET × Int := if t.err mu x = 0 then ((t.done mu.toNat x).1, (t.done mu.toNat x).2, 0) else (t, ET.zero, t.err mu x)
/-- What Do leaves. -/
def DoP (w : World) (b : MB) (p : MT × ET × Int) (e : Ending) (w' : World) : Prop := ∃ A n c, e = .returned (.tuple #[.agg (p.2.1.cells (.slice A n c)), .int .i64 p.2.2]) ∧ ChgM w b p.1 w' ∧ FarI w' w.heap.size (.slice A n c) p.2.1.zs
section
variable {w w' W V : World} {b : MB} {t t' : MT}
theorem getD_mem2 {a : List Int} {j : Nat} (h : j < a.length) : a.getD j 0 ∈ a := by
  rw [List.getD_eq_getElem?_getD, List.getElem?_eq_getElem h]
  exact List.getElem_mem h
theorem farNil (W : World) (B : Nat) : FarI W B (.slice none 0 0) [] := ⟨none, 0, rfl, Nat.le_refl _, by unfold maxLen; omega, fun i hi => by simp at hi⟩
theorem DoP.no {er : Int} {f : FuncId} {args : Array Value} (h : Calls Tryd.prog f args w fun e w' => e = .returned (.tuple #[.agg #[.slice none 0 0, .int .i64 0, .int .i64 0, .int .i64 0, .int .i64 0, .int .i64 0, .int .i64 0], .int .i64 er]) ∧ ChgM w b t w') (he : er ≠ 0) {mu : Int} {x : MA} (hE : t.err mu x = er) :
    Calls Tryd.prog f args w (DoP w b (t.act mu x)) := by
  have e : t.act mu x = (t, ET.zero, er) := by unfold MT.act; rw [hE, if_neg he]
  rw [e]
  exact h.mono fun _ _ ⟨h1, h2⟩ => ⟨none, 0, 0, h1, h2, farNil _ _⟩
theorem DoP.yes {f : FuncId} {args : Array Value} {mu : Int} {x : MA} {z : ET} (h : Calls Tryd.prog f args w fun e w' => ∃ A n c, e = .returned (.tuple #[.agg #[.slice A n c, .int .i64 z.o, .int .i64 z.i, .int .i64 z.old, .int .i64 z.nw, .int .i64 z.made, .int .i64 z.load], .int .i64 0]) ∧ ChgM w b t' w' ∧ FarI w' w.heap.size (.slice A n c) z.zs) (hE : t.err mu x = 0) (hd : t.done mu.toNat x = (t', z)) :
    Calls Tryd.prog f args w (DoP w b (t.act mu x)) := by
  have e : t.act mu x = (t', z, 0) := by unfold MT.act; rw [hE, if_pos rfl, hd]
  rw [e]
  exact h
theorem tell_of {f : FuncId} {args : Array Value} {W : World} {zs : List Int} (h : Calls Tryd.prog f args W fun e w' => ∃ v, e = .returned (.agg (tellc v)) ∧ ChgM W b t' w' ∧ FarI w' W.heap.size v zs) :
    Calls Tryd.prog f args W fun e w' => ∃ A n c, e = .returned (.agg #[.slice A n c, .int .i64 0, .int .i64 0, .int .i64 0, .int .i64 0, .int .i64 0, .int .i64 0]) ∧ ChgM W b t' w' ∧ FarI w' W.heap.size (.slice A n c) zs :=
  h.mono fun e w' ⟨v, h1, h2, h3⟩ => by
    obtain ⟨A, c, rfl, h4⟩ := id h3
    exact ⟨A, _, c, h1, h2, h3⟩
theorem quiet_of {f : FuncId} {args : Array Value} {W : World} {x1 x2 x3 x4 x5 x6 : Int} (h : Calls Tryd.prog f args W fun e w' => e = .returned (.agg #[.slice none 0 0, .int .i64 x1, .int .i64 x2, .int .i64 x3, .int .i64 x4, .int .i64 x5, .int .i64 x6]) ∧ ChgM W b t' w') :
    Calls Tryd.prog f args W fun e w' => ∃ A n c, e = .returned (.agg #[.slice A n c, .int .i64 x1, .int .i64 x2, .int .i64 x3, .int .i64 x4, .int .i64 x5, .int .i64 x6]) ∧ ChgM W b t' w' ∧ FarI w' W.heap.size (.slice A n c) [] :=
  h.mono fun e w' ⟨h1, h2⟩ => ⟨none, 0, 0, h1, h2, farNil _ _⟩
theorem MT.slot_has {t : MT} (ok : t.Ok) {m a : Nat} (hm : m < t.n) (ha : a < 16) (h : t.sl.getD (m * 16 + a) 0 ≠ 0) : t.has (t.sl.getD (m * 16 + a) 0) = true := by
  have := ok.isl _ (getD_mem2 (by rw [ok.sl]; omega) : t.sl.getD (m * 16 + a) 0 ∈ t.sl)
  exact decide_eq_true ⟨by have := this.1; omega, this.2⟩
theorem slotNat {x : Int} (h : slotB x = true) : ∃ a : Nat, x = (a : Int) ∧ a < 16 := by
  have := of_decide_eq_true h
  exact ⟨x.toNat, by omega, by omega⟩
theorem inNat {x : Int} {n : Nat} (h : inI x n = true) : ∃ a : Nat, x = (a : Int) ∧ a < n := by
  have := of_decide_eq_true h
  exact ⟨x.toNat, by omega, by omega⟩
theorem inNot {x : Int} {n : Nat} (h : inI x n = false) : ¬ (0 ≤ x ∧ x < (n : Int)) := of_decide_eq_false h
set_option maxRecDepth 100000 in
theorem m_Do0 (R : MR w b t) (hob : t.ob.length < 100000) (m : Nat) (hm : m < t.n) (xa xb xi xn xr xd xs : Int) (hx64 : W64 xn) :
    Calls Tryd.prog 40 #[.pointer (some ⟨b.g, 0, none⟩), .int .i64 (m : Int), .agg #[.int .i64 0, .int .i64 xa, .int .i64 xb, .int .i64 xi, .int .i64 xn, .int .i64 xr, .int .i64 xd, .int .i64 xs]] w (DoP w b (t.act (m : Int) ⟨0, xa, xb, xi, xn, xr, xd, xs⟩)) := by
  have hM : t.hasM (m : Int) = true := decide_eq_true ⟨by omega, by omega⟩
  rcases hsa : slotB xa
  · exact DoP.no (m_do0_no R m hm _ _ _ _ _ _ _ 1 rfl (fun W RW => m_ck2_1 RW m hm _ _ _ _ _ _ xa hsa xb xi)) (by decide) (by unfold MT.err; simp [hM, hsa])
  obtain ⟨a, rfl, ha⟩ := slotNat hsa
  rcases hsh : shB xr xd xs
  · exact DoP.no (m_do0_no R m hm _ _ _ _ _ _ _ 2 rfl (fun W RW => m_ck2_3 RW m hm _ _ _ _ _ _ a ha xb xi hsh)) (by decide) (by unfold MT.err; simp [hM, hsa, hsh])
  have hsh2 := of_decide_eq_true hsh
  obtain ⟨r, rfl⟩ : ∃ r : Nat, xr = (r : Int) := ⟨xr.toNat, by omega⟩
  obtain ⟨d, rfl⟩ : ∃ d : Nat, xd = (d : Int) := ⟨xd.toNat, by omega⟩
  obtain ⟨s, rfl⟩ : ∃ s : Nat, xs = (s : Int) := ⟨xs.toNat, by omega⟩
  have hE : t.err (m : Int) ⟨0, (a : Int), xb, xi, xn, (r : Int), (d : Int), (s : Int)⟩ = 0 := by unfold MT.err; simp [hM, hsa, hsh]
  exact DoP.yes (z := ⟨[], 0, 0, 0, 0, (t.ob.length : Int) + 1, 0⟩) (m_do0_ok R m hm _ _ _ _ _ _ _ _ _ _ _ _ _ _ (fun W RW => m_ck2_7 RW m hm _ _ _ _ _ _ a ha xb xi hsh) (fun W RW => quiet_of (m_doNew RW m hm _ _ a ha xb xi r d s hsh hob))) hE (by unfold MT.done; dsimp only; rw [if_pos rfl]; simp only [Int.toNat_natCast])
set_option maxRecDepth 100000 in
theorem m_Do1 (R : MR w b t) (hob : t.ob.length < 100000) (m : Nat) (hm : m < t.n) (xa xb xi xn xr xd xs : Int) (hx64 : W64 xn) :
    Calls Tryd.prog 40 #[.pointer (some ⟨b.g, 0, none⟩), .int .i64 (m : Int), .agg #[.int .i64 1, .int .i64 xa, .int .i64 xb, .int .i64 xi, .int .i64 xn, .int .i64 xr, .int .i64 xd, .int .i64 xs]] w (DoP w b (t.act (m : Int) ⟨1, xa, xb, xi, xn, xr, xd, xs⟩)) := by
  have hM : t.hasM (m : Int) = true := decide_eq_true ⟨by omega, by omega⟩
  rcases hsa : slotB xa
  · exact DoP.no (m_do1_no R m hm _ _ _ _ _ _ _ 1 rfl (fun W RW => m_ck25_1 RW m hm _ _ _ _ _ _ xa hsa xb xi)) (by decide) (by unfold MT.err; simp [hM, hsa])
  obtain ⟨a, rfl, ha⟩ := slotNat hsa
  rcases hsb : slotB xb
  · exact DoP.no (m_do1_no R m hm _ _ _ _ _ _ _ 1 rfl (fun W RW => m_ck25_2 RW m hm _ _ _ _ _ _ a ha xb hsb xi)) (by decide) (by unfold MT.err; simp [hM, hsa, hsb])
  obtain ⟨c, rfl, hc⟩ := slotNat hsb
  by_cases hy : t.sl.getD (m * 16 + c) 0 = 0
  · have hy2 : t.slt m (c : Int) = 0 := by unfold MT.slt; rw [Int.toNat_natCast]; exact hy
    exact DoP.no (m_do1_no R m hm _ _ _ _ _ _ _ 7 rfl (fun W RW => m_ck25_5 RW m hm _ _ _ _ _ _ a ha c hc xi hy)) (by decide) (by unfold MT.err; simp [hM, hsa, hsb, hy2])
  have hh := MT.slot_has R.ok hm hc hy
  have hsl : t.slt m (c : Int) = t.sl.getD (m * 16 + c) 0 := by unfold MT.slt; rw [Int.toNat_natCast]
  obtain ⟨y, HY⟩ : ∃ y, y = t.sl.getD (m * 16 + c) 0 := ⟨_, rfl⟩
  rw [← HY] at hy hh hsl
  rcases hix : inI xi (t.obj y).r
  · exact DoP.no (m_do1_no R m hm _ _ _ _ _ _ _ 1 rfl (fun W RW => m_ck25_6 RW m hm _ _ _ _ _ _ a ha c hc xi y HY hh (inNot hix))) (by decide) (by unfold MT.err; simp [hM, hsa, hsb, hsl, hy, hix])
  obtain ⟨i, rfl, hi⟩ := inNat hix
  have hE : t.err (m : Int) ⟨1, (a : Int), (c : Int), (i : Int), xn, xr, xd, xs⟩ = 0 := by unfold MT.err; simp [hM, hsa, hsb, hsl, hy, hix]
  exact DoP.yes (z := ⟨[], 0, 0, 0, 0, 0, t.ws.getD ((t.obj y).f + i) 0⟩) (m_do1_ok R m hm _ _ _ _ _ _ _ _ _ _ _ _ _ _ (fun W RW => m_ck25_7 RW m hm _ _ _ _ _ _ a ha c hc i y HY hh hi) (fun W RW => quiet_of (m_doLoad RW m hm _ _ _ _ _ a ha c hc i y _ HY hh hi rfl))) hE (by unfold MT.done; dsimp only; rw [if_neg (show ¬ (1 : Int) = 0 by decide), if_pos rfl]; simp only [Int.toNat_natCast, hsl])
set_option maxRecDepth 100000 in
theorem m_Do2 (R : MR w b t) (hob : t.ob.length < 100000) (m : Nat) (hm : m < t.n) (xa xb xi xn xr xd xs : Int) (hx64 : W64 xn) :
    Calls Tryd.prog 40 #[.pointer (some ⟨b.g, 0, none⟩), .int .i64 (m : Int), .agg #[.int .i64 2, .int .i64 xa, .int .i64 xb, .int .i64 xi, .int .i64 xn, .int .i64 xr, .int .i64 xd, .int .i64 xs]] w (DoP w b (t.act (m : Int) ⟨2, xa, xb, xi, xn, xr, xd, xs⟩)) := by
  have hM : t.hasM (m : Int) = true := decide_eq_true ⟨by omega, by omega⟩
  rcases hsa : slotB xa
  · exact DoP.no (m_do2_no R m hm _ _ _ _ _ _ _ 1 rfl (fun W RW => m_ck21_1 RW m hm _ _ _ _ _ _ xa hsa xb xi)) (by decide) (by unfold MT.err; simp [hM, hsa])
  obtain ⟨a, rfl, ha⟩ := slotNat hsa
  rcases hsb : slotB xb
  · exact DoP.no (m_do2_no R m hm _ _ _ _ _ _ _ 1 rfl (fun W RW => m_ck21_2 RW m hm _ _ _ _ _ _ a ha xb hsb xi)) (by decide) (by unfold MT.err; simp [hM, hsa, hsb])
  obtain ⟨c, rfl, hc⟩ := slotNat hsb
  by_cases hy : t.sl.getD (m * 16 + a) 0 = 0
  · have hy2 : t.slt m (a : Int) = 0 := by unfold MT.slt; rw [Int.toNat_natCast]; exact hy
    exact DoP.no (m_do2_no R m hm _ _ _ _ _ _ _ 7 rfl (fun W RW => m_ck21_4 RW m hm _ _ _ _ _ _ a ha c hc xi hy)) (by decide) (by unfold MT.err; simp [hM, hsa, hsb, hy2])
  have hh := MT.slot_has R.ok hm ha hy
  have hsl : t.slt m (a : Int) = t.sl.getD (m * 16 + a) 0 := by unfold MT.slt; rw [Int.toNat_natCast]
  obtain ⟨y, HY⟩ : ∃ y, y = t.sl.getD (m * 16 + a) 0 := ⟨_, rfl⟩
  rw [← HY] at hy hh hsl
  rcases hix : inI xi (t.obj y).r
  · exact DoP.no (m_do2_no R m hm _ _ _ _ _ _ _ 1 rfl (fun W RW => m_ck21_6 RW m hm _ _ _ _ _ _ a ha c hc xi y HY hh (inNot hix))) (by decide) (by unfold MT.err; simp [hM, hsa, hsb, hsl, hy, hix])
  obtain ⟨i, rfl, hi⟩ := inNat hix
  have hslB : t.slt m (c : Int) = t.sl.getD (m * 16 + c) 0 := by unfold MT.slt; rw [Int.toNat_natCast]
  have hE : t.err (m : Int) ⟨2, (a : Int), (c : Int), (i : Int), xn, xr, xd, xs⟩ = 0 := by unfold MT.err; simp [hM, hsa, hsb, hsl, hy, hix]
  exact DoP.yes (z := ⟨[], y, (i : Int), t.ws.getD ((t.obj y).f + i) 0, t.sl.getD (m * 16 + c) 0, 0, 0⟩) (m_do2_ok R m hm _ _ _ _ _ _ _ _ _ _ _ _ _ _ (fun W RW => m_ck21_7 RW m hm _ _ _ _ _ _ a ha c hc i y HY hh hi) (fun W RW => quiet_of (m_doStore RW m hm _ _ _ _ _ a ha c hc i y _ _ HY rfl hh hi rfl))) hE (by unfold MT.done; dsimp only; rw [if_neg (show ¬ (2 : Int) = 0 by decide), if_neg (show ¬ (2 : Int) = 1 by decide), if_pos rfl]; simp only [Int.toNat_natCast, hslB, hsl])
set_option maxRecDepth 100000 in
theorem m_Do3 (R : MR w b t) (hob : t.ob.length < 100000) (m : Nat) (hm : m < t.n) (xa xb xi xn xr xd xs : Int) (hx64 : W64 xn) :
    Calls Tryd.prog 40 #[.pointer (some ⟨b.g, 0, none⟩), .int .i64 (m : Int), .agg #[.int .i64 3, .int .i64 xa, .int .i64 xb, .int .i64 xi, .int .i64 xn, .int .i64 xr, .int .i64 xd, .int .i64 xs]] w (DoP w b (t.act (m : Int) ⟨3, xa, xb, xi, xn, xr, xd, xs⟩)) := by
  have hM : t.hasM (m : Int) = true := decide_eq_true ⟨by omega, by omega⟩
  rcases hsa : slotB xa
  · exact DoP.no (m_do3_no R m hm _ _ _ _ _ _ _ 1 rfl (fun W RW => m_ck36_1 RW m hm _ _ _ _ _ _ xa hsa xb xi)) (by decide) (by unfold MT.err; simp [hM, hsa])
  obtain ⟨a, rfl, ha⟩ := slotNat hsa
  by_cases hy : t.sl.getD (m * 16 + a) 0 = 0
  · have hy2 : t.slt m (a : Int) = 0 := by unfold MT.slt; rw [Int.toNat_natCast]; exact hy
    exact DoP.no (m_do3_no R m hm _ _ _ _ _ _ _ 7 rfl (fun W RW => m_ck36_4 RW m hm _ _ _ _ _ _ a ha xb xi hy)) (by decide) (by unfold MT.err; simp [hM, hsa, hy2])
  have hh := MT.slot_has R.ok hm ha hy
  have hsl : t.slt m (a : Int) = t.sl.getD (m * 16 + a) 0 := by unfold MT.slt; rw [Int.toNat_natCast]
  obtain ⟨y, HY⟩ : ∃ y, y = t.sl.getD (m * 16 + a) 0 := ⟨_, rfl⟩
  rw [← HY] at hy hh hsl
  rcases hix : inI xi (t.obj y).d
  · exact DoP.no (m_do3_no R m hm _ _ _ _ _ _ _ 1 rfl (fun W RW => m_ck36_6 RW m hm _ _ _ _ _ _ a ha xb xi y HY hh (inNot hix))) (by decide) (by unfold MT.err; simp [hM, hsa, hsl, hy, hix])
  obtain ⟨i, rfl, hi⟩ := inNat hix
  have hE : t.err (m : Int) ⟨3, (a : Int), xb, (i : Int), xn, xr, xd, xs⟩ = 0 := by unfold MT.err; simp [hM, hsa, hsl, hy, hix]
  exact DoP.yes (z := ET.zero) (m_do3_ok R m hm _ _ _ _ _ _ _ _ _ _ _ _ _ _ (fun W RW => m_ck36_7 RW m hm _ _ _ _ _ _ a ha xb i y HY hh hi) (fun W RW => quiet_of (m_doPut RW m hm _ _ _ _ _ hx64 a ha xb i y HY hh hi))) hE (by unfold MT.done; dsimp only; rw [if_neg (show ¬ (3 : Int) = 0 by decide), if_neg (show ¬ (3 : Int) = 1 by decide), if_neg (show ¬ (3 : Int) = 2 by decide), if_pos rfl]; simp only [Int.toNat_natCast, hsl])
set_option maxRecDepth 100000 in
theorem m_Do4 (R : MR w b t) (hob : t.ob.length < 100000) (m : Nat) (hm : m < t.n) (xa xb xi xn xr xd xs : Int) (hx64 : W64 xn) :
    Calls Tryd.prog 40 #[.pointer (some ⟨b.g, 0, none⟩), .int .i64 (m : Int), .agg #[.int .i64 4, .int .i64 xa, .int .i64 xb, .int .i64 xi, .int .i64 xn, .int .i64 xr, .int .i64 xd, .int .i64 xs]] w (DoP w b (t.act (m : Int) ⟨4, xa, xb, xi, xn, xr, xd, xs⟩)) := by
  have hM : t.hasM (m : Int) = true := decide_eq_true ⟨by omega, by omega⟩
  rcases hsa : slotB xa
  · exact DoP.no (m_do4_no R m hm _ _ _ _ _ _ _ 1 rfl (fun W RW => m_ck36_1 RW m hm _ _ _ _ _ _ xa hsa xb xi)) (by decide) (by unfold MT.err; simp [hM, hsa])
  obtain ⟨a, rfl, ha⟩ := slotNat hsa
  by_cases hy : t.sl.getD (m * 16 + a) 0 = 0
  · have hy2 : t.slt m (a : Int) = 0 := by unfold MT.slt; rw [Int.toNat_natCast]; exact hy
    exact DoP.no (m_do4_no R m hm _ _ _ _ _ _ _ 7 rfl (fun W RW => m_ck36_4 RW m hm _ _ _ _ _ _ a ha xb xi hy)) (by decide) (by unfold MT.err; simp [hM, hsa, hy2])
  have hh := MT.slot_has R.ok hm ha hy
  have hsl : t.slt m (a : Int) = t.sl.getD (m * 16 + a) 0 := by unfold MT.slt; rw [Int.toNat_natCast]
  obtain ⟨y, HY⟩ : ∃ y, y = t.sl.getD (m * 16 + a) 0 := ⟨_, rfl⟩
  rw [← HY] at hy hh hsl
  rcases hix : inI xi (t.obj y).d
  · exact DoP.no (m_do4_no R m hm _ _ _ _ _ _ _ 1 rfl (fun W RW => m_ck36_6 RW m hm _ _ _ _ _ _ a ha xb xi y HY hh (inNot hix))) (by decide) (by unfold MT.err; simp [hM, hsa, hsl, hy, hix])
  obtain ⟨i, rfl, hi⟩ := inNat hix
  have hE : t.err (m : Int) ⟨4, (a : Int), xb, (i : Int), xn, xr, xd, xs⟩ = 0 := by unfold MT.err; simp [hM, hsa, hsl, hy, hix]
  exact DoP.yes (z := ET.told [t.ws.getD ((t.obj y).f + (t.obj y).r + i) 0]) (m_do4_ok R m hm _ _ _ _ _ _ _ _ _ _ _ _ _ _ (fun W RW => m_ck36_7 RW m hm _ _ _ _ _ _ a ha xb i y HY hh hi) (fun W RW => tell_of (m_doGet RW m hm _ _ _ _ _ a ha xb i y _ HY hh hi rfl))) hE (by unfold MT.done; dsimp only; rw [if_neg (show ¬ (4 : Int) = 0 by decide), if_neg (show ¬ (4 : Int) = 1 by decide), if_neg (show ¬ (4 : Int) = 2 by decide), if_neg (show ¬ (4 : Int) = 3 by decide), if_pos rfl]; simp only [Int.toNat_natCast, hsl])
set_option maxRecDepth 100000 in
theorem m_Do5 (R : MR w b t) (hob : t.ob.length < 100000) (m : Nat) (hm : m < t.n) (xa xb xi xn xr xd xs : Int) (hx64 : W64 xn) :
    Calls Tryd.prog 40 #[.pointer (some ⟨b.g, 0, none⟩), .int .i64 (m : Int), .agg #[.int .i64 5, .int .i64 xa, .int .i64 xb, .int .i64 xi, .int .i64 xn, .int .i64 xr, .int .i64 xd, .int .i64 xs]] w (DoP w b (t.act (m : Int) ⟨5, xa, xb, xi, xn, xr, xd, xs⟩)) := by
  have hM : t.hasM (m : Int) = true := decide_eq_true ⟨by omega, by omega⟩
  rcases hsa : slotB xa
  · exact DoP.no (m_do5_no R m hm _ _ _ _ _ _ _ 1 rfl (fun W RW => m_ck1_1 RW m hm _ _ _ _ _ _ xa hsa xb xi)) (by decide) (by unfold MT.err; simp [hM, hsa])
  obtain ⟨a, rfl, ha⟩ := slotNat hsa
  rcases hsb : slotB xb
  · exact DoP.no (m_do5_no R m hm _ _ _ _ _ _ _ 1 rfl (fun W RW => m_ck1_2 RW m hm _ _ _ _ _ _ a ha xb hsb xi)) (by decide) (by unfold MT.err; simp [hM, hsa, hsb])
  obtain ⟨c, rfl, hc⟩ := slotNat hsb
  have hslB : t.slt m (c : Int) = t.sl.getD (m * 16 + c) 0 := by unfold MT.slt; rw [Int.toNat_natCast]
  have hE : t.err (m : Int) ⟨5, (a : Int), (c : Int), xi, xn, xr, xd, xs⟩ = 0 := by unfold MT.err; simp [hM, hsa, hsb]
  exact DoP.yes (z := ⟨[], 0, 0, 0, 0, 0, t.sl.getD (m * 16 + c) 0⟩) (m_do5_ok R m hm _ _ _ _ _ _ _ _ _ _ _ _ _ _ (fun W RW => m_ck1_7 RW m hm _ _ _ _ _ _ a ha c hc xi) (fun W RW => quiet_of (m_doCopy RW m hm _ _ _ _ _ a ha c hc xi _ rfl))) hE (by unfold MT.done; dsimp only; rw [if_neg (show ¬ (5 : Int) = 0 by decide), if_neg (show ¬ (5 : Int) = 1 by decide), if_neg (show ¬ (5 : Int) = 2 by decide), if_neg (show ¬ (5 : Int) = 3 by decide), if_neg (show ¬ (5 : Int) = 4 by decide), if_pos rfl]; simp only [Int.toNat_natCast, hslB])
set_option maxRecDepth 100000 in
theorem m_Do6 (R : MR w b t) (hob : t.ob.length < 100000) (m : Nat) (hm : m < t.n) (xa xb xi xn xr xd xs : Int) (hx64 : W64 xn) :
    Calls Tryd.prog 40 #[.pointer (some ⟨b.g, 0, none⟩), .int .i64 (m : Int), .agg #[.int .i64 6, .int .i64 xa, .int .i64 xb, .int .i64 xi, .int .i64 xn, .int .i64 xr, .int .i64 xd, .int .i64 xs]] w (DoP w b (t.act (m : Int) ⟨6, xa, xb, xi, xn, xr, xd, xs⟩)) := by
  have hM : t.hasM (m : Int) = true := decide_eq_true ⟨by omega, by omega⟩
  rcases hsa : slotB xa
  · exact DoP.no (m_do6_no R m hm _ _ _ _ _ _ _ 1 rfl (fun W RW => m_ck0_1 RW m hm _ _ _ _ _ _ xa hsa xb xi)) (by decide) (by unfold MT.err; simp [hM, hsa])
  obtain ⟨a, rfl, ha⟩ := slotNat hsa
  have hE : t.err (m : Int) ⟨6, (a : Int), xb, xi, xn, xr, xd, xs⟩ = 0 := by unfold MT.err; simp [hM, hsa]
  exact DoP.yes (z := ET.zero) (m_do6_ok R m hm _ _ _ _ _ _ _ _ _ _ _ _ _ _ (fun W RW => m_ck0_7 RW m hm _ _ _ _ _ _ a ha xb xi) (fun W RW => quiet_of (m_doDrop RW m hm _ _ _ _ _ a ha xb xi))) hE (by unfold MT.done; dsimp only; rw [if_neg (show ¬ (6 : Int) = 0 by decide), if_neg (show ¬ (6 : Int) = 1 by decide), if_neg (show ¬ (6 : Int) = 2 by decide), if_neg (show ¬ (6 : Int) = 3 by decide), if_neg (show ¬ (6 : Int) = 4 by decide), if_neg (show ¬ (6 : Int) = 5 by decide), if_pos rfl]; simp only [Int.toNat_natCast])
set_option maxRecDepth 100000 in
theorem m_Do7 (R : MR w b t) (hob : t.ob.length < 100000) (m : Nat) (hm : m < t.n) (xa xb xi xn xr xd xs : Int) (hx64 : W64 xn) :
    Calls Tryd.prog 40 #[.pointer (some ⟨b.g, 0, none⟩), .int .i64 (m : Int), .agg #[.int .i64 7, .int .i64 xa, .int .i64 xb, .int .i64 xi, .int .i64 xn, .int .i64 xr, .int .i64 xd, .int .i64 xs]] w (DoP w b (t.act (m : Int) ⟨7, xa, xb, xi, xn, xr, xd, xs⟩)) := by
  have hM : t.hasM (m : Int) = true := decide_eq_true ⟨by omega, by omega⟩
  rcases hsa : slotB xa
  · exact DoP.no (m_do7_no R m hm _ _ _ _ _ _ _ 1 rfl (fun W RW => m_ck1_1 RW m hm _ _ _ _ _ _ xa hsa xb xi)) (by decide) (by unfold MT.err; simp [hM, hsa])
  obtain ⟨a, rfl, ha⟩ := slotNat hsa
  rcases hsb : slotB xb
  · exact DoP.no (m_do7_no R m hm _ _ _ _ _ _ _ 1 rfl (fun W RW => m_ck1_2 RW m hm _ _ _ _ _ _ a ha xb hsb xi)) (by decide) (by unfold MT.err; simp [hM, hsa, hsb])
  obtain ⟨c, rfl, hc⟩ := slotNat hsb
  have hslA : t.slt m (a : Int) = t.sl.getD (m * 16 + a) 0 := by unfold MT.slt; rw [Int.toNat_natCast]
  have hslB : t.slt m (c : Int) = t.sl.getD (m * 16 + c) 0 := by unfold MT.slt; rw [Int.toNat_natCast]
  have hE : t.err (m : Int) ⟨7, (a : Int), (c : Int), xi, xn, xr, xd, xs⟩ = 0 := by unfold MT.err; simp [hM, hsa, hsb]
  by_cases hq : t.sl.getD (m * 16 + a) 0 = t.sl.getD (m * 16 + c) 0
  · exact DoP.yes (z := ET.told [1]) (m_do7_ok R m hm _ _ _ _ _ _ _ _ _ _ _ _ _ _ (fun W RW => m_ck1_7 RW m hm _ _ _ _ _ _ a ha c hc xi) (fun W RW => tell_of (m_doSame_yes RW m hm _ _ _ _ _ a ha c hc xi _ _ rfl rfl (by simpa using hq)))) hE (by unfold MT.done; dsimp only; rw [if_neg (show ¬ (7 : Int) = 0 by decide), if_neg (show ¬ (7 : Int) = 1 by decide), if_neg (show ¬ (7 : Int) = 2 by decide), if_neg (show ¬ (7 : Int) = 3 by decide), if_neg (show ¬ (7 : Int) = 4 by decide), if_neg (show ¬ (7 : Int) = 5 by decide), if_neg (show ¬ (7 : Int) = 6 by decide), if_pos rfl, Int.toNat_natCast, hslA, hslB, if_pos hq])
  · exact DoP.yes (z := ET.told [0]) (m_do7_ok R m hm _ _ _ _ _ _ _ _ _ _ _ _ _ _ (fun W RW => m_ck1_7 RW m hm _ _ _ _ _ _ a ha c hc xi) (fun W RW => tell_of (m_doSame_no RW m hm _ _ _ _ _ a ha c hc xi _ _ rfl rfl (by simpa using hq)))) hE (by unfold MT.done; dsimp only; rw [if_neg (show ¬ (7 : Int) = 0 by decide), if_neg (show ¬ (7 : Int) = 1 by decide), if_neg (show ¬ (7 : Int) = 2 by decide), if_neg (show ¬ (7 : Int) = 3 by decide), if_neg (show ¬ (7 : Int) = 4 by decide), if_neg (show ¬ (7 : Int) = 5 by decide), if_neg (show ¬ (7 : Int) = 6 by decide), if_pos rfl, Int.toNat_natCast, hslA, hslB, if_neg hq])
set_option maxRecDepth 100000 in
theorem m_Do8 (R : MR w b t) (hob : t.ob.length < 100000) (m : Nat) (hm : m < t.n) (xa xb xi xn xr xd xs : Int) (hx64 : W64 xn) :
    Calls Tryd.prog 40 #[.pointer (some ⟨b.g, 0, none⟩), .int .i64 (m : Int), .agg #[.int .i64 8, .int .i64 xa, .int .i64 xb, .int .i64 xi, .int .i64 xn, .int .i64 xr, .int .i64 xd, .int .i64 xs]] w (DoP w b (t.act (m : Int) ⟨8, xa, xb, xi, xn, xr, xd, xs⟩)) := by
  have hM : t.hasM (m : Int) = true := decide_eq_true ⟨by omega, by omega⟩
  rcases hsa : slotB xa
  · exact DoP.no (m_do8_no R m hm _ _ _ _ _ _ _ 1 rfl (fun W RW => m_ck0_1 RW m hm _ _ _ _ _ _ xa hsa xb xi)) (by decide) (by unfold MT.err; simp [hM, hsa])
  obtain ⟨a, rfl, ha⟩ := slotNat hsa
  have hslA : t.slt m (a : Int) = t.sl.getD (m * 16 + a) 0 := by unfold MT.slt; rw [Int.toNat_natCast]
  have hE : t.err (m : Int) ⟨8, (a : Int), xb, xi, xn, xr, xd, xs⟩ = 0 := by unfold MT.err; simp [hM, hsa]
  exact DoP.yes (z := ET.told [t.sl.getD (m * 16 + a) 0]) (m_do8_ok R m hm _ _ _ _ _ _ _ _ _ _ _ _ _ _ (fun W RW => m_ck0_7 RW m hm _ _ _ _ _ _ a ha xb xi) (fun W RW => tell_of (m_doIdent RW m hm _ _ _ _ _ a ha xb xi _ rfl))) hE (by unfold MT.done; dsimp only; rw [if_neg (show ¬ (8 : Int) = 0 by decide), if_neg (show ¬ (8 : Int) = 1 by decide), if_neg (show ¬ (8 : Int) = 2 by decide), if_neg (show ¬ (8 : Int) = 3 by decide), if_neg (show ¬ (8 : Int) = 4 by decide), if_neg (show ¬ (8 : Int) = 5 by decide), if_neg (show ¬ (8 : Int) = 6 by decide), if_neg (show ¬ (8 : Int) = 7 by decide), if_pos rfl]; simp only [Int.toNat_natCast, hslA])
set_option maxRecDepth 100000 in
theorem m_Do9 (R : MR w b t) (hob : t.ob.length < 100000) (m : Nat) (hm : m < t.n) (xa xb xi xn xr xd xs : Int) (hx64 : W64 xn) :
    Calls Tryd.prog 40 #[.pointer (some ⟨b.g, 0, none⟩), .int .i64 (m : Int), .agg #[.int .i64 9, .int .i64 xa, .int .i64 xb, .int .i64 xi, .int .i64 xn, .int .i64 xr, .int .i64 xd, .int .i64 xs]] w (DoP w b (t.act (m : Int) ⟨9, xa, xb, xi, xn, xr, xd, xs⟩)) := by
  have hM : t.hasM (m : Int) = true := decide_eq_true ⟨by omega, by omega⟩
  rcases hsa : slotB xa
  · exact DoP.no (m_do9_no R m hm _ _ _ _ _ _ _ 1 rfl (fun W RW => m_ck64_1 RW m hm _ _ _ _ _ _ xa hsa xb xi)) (by decide) (by unfold MT.err; simp [hM, hsa])
  obtain ⟨a, rfl, ha⟩ := slotNat hsa
  rcases hix : inI xi 16
  · exact DoP.no (m_do9_no R m hm _ _ _ _ _ _ _ 1 rfl (fun W RW => m_ck64_6 RW m hm _ _ _ _ _ _ a ha xb xi (inNot hix))) (by decide) (by unfold MT.err; simp [hM, hsa, hix])
  obtain ⟨i, rfl, hi⟩ := inNat hix
  have hslA : t.slt m (a : Int) = t.sl.getD (m * 16 + a) 0 := by unfold MT.slt; rw [Int.toNat_natCast]
  have hE : t.err (m : Int) ⟨9, (a : Int), xb, (i : Int), xn, xr, xd, xs⟩ = 0 := by unfold MT.err; simp [hM, hsa, hix]
  exact DoP.yes (z := ET.zero) (m_do9_ok R m hm _ _ _ _ _ _ _ _ _ _ _ _ _ _ (fun W RW => m_ck64_7 RW m hm _ _ _ _ _ _ a ha xb i hi) (fun W RW => quiet_of (m_doExport RW m hm _ _ _ _ _ a ha xb i hi _ rfl))) hE (by unfold MT.done; dsimp only; rw [if_neg (show ¬ (9 : Int) = 0 by decide), if_neg (show ¬ (9 : Int) = 1 by decide), if_neg (show ¬ (9 : Int) = 2 by decide), if_neg (show ¬ (9 : Int) = 3 by decide), if_neg (show ¬ (9 : Int) = 4 by decide), if_neg (show ¬ (9 : Int) = 5 by decide), if_neg (show ¬ (9 : Int) = 6 by decide), if_neg (show ¬ (9 : Int) = 7 by decide), if_neg (show ¬ (9 : Int) = 8 by decide), if_pos rfl]; simp only [Int.toNat_natCast, hslA])
set_option maxRecDepth 100000 in
theorem m_Do10 (R : MR w b t) (hob : t.ob.length < 100000) (m : Nat) (hm : m < t.n) (xa xb xi xn xr xd xs : Int) (hx64 : W64 xn) :
    Calls Tryd.prog 40 #[.pointer (some ⟨b.g, 0, none⟩), .int .i64 (m : Int), .agg #[.int .i64 10, .int .i64 xa, .int .i64 xb, .int .i64 xi, .int .i64 xn, .int .i64 xr, .int .i64 xd, .int .i64 xs]] w (DoP w b (t.act (m : Int) ⟨10, xa, xb, xi, xn, xr, xd, xs⟩)) := by
  have hM : t.hasM (m : Int) = true := decide_eq_true ⟨by omega, by omega⟩
  rcases hsa : slotB xa
  · exact DoP.no (m_do10_no R m hm _ _ _ _ _ _ _ 1 rfl (fun W RW => m_ck64_1 RW m hm _ _ _ _ _ _ xa hsa xb xi)) (by decide) (by unfold MT.err; simp [hM, hsa])
  obtain ⟨a, rfl, ha⟩ := slotNat hsa
  rcases hix : inI xi 16
  · exact DoP.no (m_do10_no R m hm _ _ _ _ _ _ _ 1 rfl (fun W RW => m_ck64_6 RW m hm _ _ _ _ _ _ a ha xb xi (inNot hix))) (by decide) (by unfold MT.err; simp [hM, hsa, hix])
  obtain ⟨i, rfl, hi⟩ := inNat hix
  have hE : t.err (m : Int) ⟨10, (a : Int), xb, (i : Int), xn, xr, xd, xs⟩ = 0 := by unfold MT.err; simp [hM, hsa, hix]
  exact DoP.yes (z := ⟨[], 0, 0, 0, 0, 0, t.gl.getD i 0⟩) (m_do10_ok R m hm _ _ _ _ _ _ _ _ _ _ _ _ _ _ (fun W RW => m_ck64_7 RW m hm _ _ _ _ _ _ a ha xb i hi) (fun W RW => quiet_of (m_doImport RW m hm _ _ _ _ _ a ha xb i hi _ rfl))) hE (by unfold MT.done; dsimp only; rw [if_neg (show ¬ (10 : Int) = 0 by decide), if_neg (show ¬ (10 : Int) = 1 by decide), if_neg (show ¬ (10 : Int) = 2 by decide), if_neg (show ¬ (10 : Int) = 3 by decide), if_neg (show ¬ (10 : Int) = 4 by decide), if_neg (show ¬ (10 : Int) = 5 by decide), if_neg (show ¬ (10 : Int) = 6 by decide), if_neg (show ¬ (10 : Int) = 7 by decide), if_neg (show ¬ (10 : Int) = 8 by decide), if_neg (show ¬ (10 : Int) = 9 by decide), if_pos rfl]; simp only [Int.toNat_natCast])
set_option maxRecDepth 100000 in
theorem m_Do11 (R : MR w b t) (hob : t.ob.length < 100000) (m : Nat) (hm : m < t.n) (xa xb xi xn xr xd xs : Int) (hx64 : W64 xn) :
    Calls Tryd.prog 40 #[.pointer (some ⟨b.g, 0, none⟩), .int .i64 (m : Int), .agg #[.int .i64 11, .int .i64 xa, .int .i64 xb, .int .i64 xi, .int .i64 xn, .int .i64 xr, .int .i64 xd, .int .i64 xs]] w (DoP w b (t.act (m : Int) ⟨11, xa, xb, xi, xn, xr, xd, xs⟩)) := by
  have hM : t.hasM (m : Int) = true := decide_eq_true ⟨by omega, by omega⟩
  rcases hsa : slotB xa
  · exact DoP.no (m_do11_no R m hm _ _ _ _ _ _ _ 1 rfl (fun W RW => m_ck4_1 RW m hm _ _ _ _ _ _ xa hsa xb xi)) (by decide) (by unfold MT.err; simp [hM, hsa])
  obtain ⟨a, rfl, ha⟩ := slotNat hsa
  by_cases hy : t.sl.getD (m * 16 + a) 0 = 0
  · have hy2 : t.slt m (a : Int) = 0 := by unfold MT.slt; rw [Int.toNat_natCast]; exact hy
    exact DoP.no (m_do11_no R m hm _ _ _ _ _ _ _ 7 rfl (fun W RW => m_ck4_4 RW m hm _ _ _ _ _ _ a ha xb xi hy)) (by decide) (by unfold MT.err; simp [hM, hsa, hy2])
  have hh := MT.slot_has R.ok hm ha hy
  have hsl : t.slt m (a : Int) = t.sl.getD (m * 16 + a) 0 := by unfold MT.slt; rw [Int.toNat_natCast]
  obtain ⟨y, HY⟩ : ∃ y, y = t.sl.getD (m * 16 + a) 0 := ⟨_, rfl⟩
  rw [← HY] at hy hh hsl
  have hE : t.err (m : Int) ⟨11, (a : Int), xb, xi, xn, xr, xd, xs⟩ = 0 := by unfold MT.err; simp [hM, hsa, hsl, hy]
  exact DoP.yes (z := ET.told [((t.obj y).r : Int), ((t.obj y).d : Int), ((t.obj y).k : Int)]) (m_do11_ok R m hm _ _ _ _ _ _ _ _ _ _ _ _ _ _ (fun W RW => m_ck4_7 RW m hm _ _ _ _ _ _ a ha xb xi y HY hh) (fun W RW => tell_of (m_doShape RW m hm _ _ _ _ _ a ha xb xi y HY hh))) hE (by unfold MT.done; dsimp only; rw [if_neg (show ¬ (11 : Int) = 0 by decide), if_neg (show ¬ (11 : Int) = 1 by decide), if_neg (show ¬ (11 : Int) = 2 by decide), if_neg (show ¬ (11 : Int) = 3 by decide), if_neg (show ¬ (11 : Int) = 4 by decide), if_neg (show ¬ (11 : Int) = 5 by decide), if_neg (show ¬ (11 : Int) = 6 by decide), if_neg (show ¬ (11 : Int) = 7 by decide), if_neg (show ¬ (11 : Int) = 8 by decide), if_neg (show ¬ (11 : Int) = 9 by decide), if_neg (show ¬ (11 : Int) = 10 by decide)]; simp only [Int.toNat_natCast, hsl])
/-- Any act. -/
theorem m_Do (R : MR w b t) (hob : t.ob.length < 100000) (mu : Int) (x : MA) (hx : W64 x.n) :
    Calls Tryd.prog 40 #[.pointer (some ⟨b.g, 0, none⟩), .int .i64 mu, .agg x.cells] w (DoP w b (t.act mu x)) := by
  obtain ⟨xk, xa, xb, xi, xn, xr, xd, xs⟩ := x
  rcases hM : t.hasM mu
  · exact DoP.no (m_doBad_m R mu xk xa xb xi xn xr xd xs hM) (by decide) (by unfold MT.err; simp [hM])
  · by_cases h0 : xk < 0
    · exact DoP.no (m_doBad_lo R mu xk xa xb xi xn xr xd xs hM h0) (by decide) (by unfold MT.err; simp [hM, h0])
    · by_cases h1 : 12 ≤ xk
      · exact DoP.no (m_doBad_hi R mu xk xa xb xi xn xr xd xs hM h1) (by decide) (by unfold MT.err; simp [hM, h0, h1])
      · have hmu := of_decide_eq_true hM
        obtain ⟨m, rfl⟩ : ∃ m : Nat, mu = (m : Int) := ⟨mu.toNat, by omega⟩
        have hm : m < t.n := by omega
        obtain rfl | rfl | rfl | rfl | rfl | rfl | rfl | rfl | rfl | rfl | rfl | rfl : xk = 0 ∨ xk = 1 ∨ xk = 2 ∨ xk = 3 ∨ xk = 4 ∨ xk = 5 ∨ xk = 6 ∨ xk = 7 ∨ xk = 8 ∨ xk = 9 ∨ xk = 10 ∨ xk = 11 := by omega
        · exact m_Do0 R hob m hm xa xb xi xn xr xd xs hx
        · exact m_Do1 R hob m hm xa xb xi xn xr xd xs hx
        · exact m_Do2 R hob m hm xa xb xi xn xr xd xs hx
        · exact m_Do3 R hob m hm xa xb xi xn xr xd xs hx
        · exact m_Do4 R hob m hm xa xb xi xn xr xd xs hx
        · exact m_Do5 R hob m hm xa xb xi xn xr xd xs hx
        · exact m_Do6 R hob m hm xa xb xi xn xr xd xs hx
        · exact m_Do7 R hob m hm xa xb xi xn xr xd xs hx
        · exact m_Do8 R hob m hm xa xb xi xn xr xd xs hx
        · exact m_Do9 R hob m hm xa xb xi xn xr xd xs hx
        · exact m_Do10 R hob m hm xa xb xi xn xr xd xs hx
        · exact m_Do11 R hob m hm xa xb xi xn xr xd xs hx
end
end Go.Proofs.YtbiompmklijgoaaDoor
