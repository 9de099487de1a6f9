/-
  Roots beside the document's; what the laws' play does to both. Conditions: those that stand in each theorem.
-/
import Derived.Test.YtnidadhoojbmeaaSb
import Derived.Test.YtnidadhoojbmeaaSg
import Derived.Test.YtnidadhoojbmeaaSm
namespace Go.Proofs.Ytnidadhoojbmeaa
set_option linter.unusedVariables false
set_option linter.unusedSimpArgs false
open Go.RowKit Go.Deep Go.Maps

/-- Roots and the document's, both made since w0, apart. -/
structure P2 (w0 : World) (b : RB) (tb : TB) (t1 t2 : RT) (w : World) : Prop where
  rr : RR w b t1
  tr : TR w tb t2
  sep : ∀ x ∈ b.all, x ∉ tb.all
  kp : Kp [] w0 w
  nb : ∀ x ∈ b.all, w0.heap.size ≤ x
  nt : ∀ x ∈ tb.all, w0.heap.size ≤ x
section
variable {w0 w w' : World} {b : RB} {tb : TB} {t1 t2 t : RT}
theorem P2.stepR (h : P2 w0 b tb t1 t2 w) (R : RR w' b t) (K : Kp b.all w w') : P2 w0 b tb t t2 w' := ⟨R, h.tr.kp K (fun x hx hm => h.sep x hm hx), h.sep, h.kp.trans K (by simp) (fun x hx => .inr (h.nb x hx)), h.nb, h.nt⟩
theorem P2.stepT (h : P2 w0 b tb t1 t2 w) (T : TR w' tb t) (K : Kp tb.all w w') : P2 w0 b tb t1 t w' := ⟨h.rr.kp K (fun x hx hm => h.sep x hx hm), T, h.sep, h.kp.trans K (by simp) (fun x hx => .inr (h.nt x hx)), h.nb, h.nt⟩
theorem P2.kp0 (h : P2 w0 b tb t1 t2 w) (K : Kp [] w w') : P2 w0 b tb t1 t2 w' := ⟨h.rr.kp0 K, h.tr.kp0 K, h.sep, h.kp.chain K, h.nb, h.nt⟩
theorem P2.chgR (h : P2 w0 b tb t1 t2 w) (C : ChgP w b t w') : ∃ b', b'.g = b.g ∧ P2 w0 b' tb t t2 w' ∧ Kp b.all w w' := by
  obtain ⟨b', e, R, K, hn⟩ := C
  have hs := h.kp.size
  exact ⟨b', e, ⟨R, h.tr.kp K (fun x hx hm => h.sep x hm hx), fun x hx hm => by
    rcases hn x hx with h1 | h1
    · exact h.sep x h1 hm
    · have := h.tr.lt x hm; omega, h.kp.trans K (by simp) (fun x hx => .inr (h.nb x hx)), fun x hx => by
    rcases hn x hx with h1 | h1
    · exact h.nb x h1
    · omega, h.nt⟩, K⟩
theorem P2.chgT (h : P2 w0 b tb t1 t2 w) (C : TChg w tb t w') : ∃ tb', tb'.g = tb.g ∧ P2 w0 b tb' t1 t w' ∧ Kp tb.all w w' := by
  obtain ⟨tb', e, T, K, hn⟩ := C
  have hs := h.kp.size
  exact ⟨tb', e, ⟨h.rr.kp K (fun x hx hm => h.sep x hx hm), T, fun x hx hm => by
    rcases hn x hm with h1 | h1
    · exact h.sep x hx h1
    · have := h.rr.lt x hx; omega, h.kp.trans K (by simp) (fun x hx => .inr (h.nt x hx)), h.nb, fun x hx => by
    rcases hn x hx with h1 | h1
    · exact h.nt x h1
    · omega⟩, K⟩
end
/-- A call of the laws. -/
structure ActR where
  k : Int
  pk : Int
  pm : Int
  pi : Int
  a : Int
  vf : Value
  vt : Value
  f : List Int
  tt : List Int
def ActR.cells (x : ActR) : Array Value := #[.int .i64 x.k, .int .i64 x.pk, .int .i64 x.pm, .int .i64 x.pi, .int .i64 x.a, x.vf, x.vt]
structure ActR.Ok (x : ActR) (w : World) : Prop where
  a : W64 x.a
  f : IsI w x.vf x.f
  tt : IsI w x.vt x.tt
  w : ∀ y ∈ x.tt, W64 y
def RT.act (t : RT) (x : ActR) : RT :=
  if x.k = 0 then t.setM x.pk x.pm x.pi x.a else if x.k = 1 then t.pushM x.a else if x.k = 2 then t.popM else if x.k = 3 then (if repB x.f x.tt then (t.reps x.f x.tt t.xs).1 else t) else t
def PlayP (w0 : World) (b : RB) (tb : TB) (t : RT) (e : Ending) (w' : World) : Prop :=
  e = .returned (.bool true) ∧ ∃ b' tb', b'.g = b.g ∧ tb'.g = tb.g ∧ P2 w0 b' tb' t t w'
section
variable {w0 w w' : World} {b : RB} {tb : TB} {t : RT}
theorem IsI.old {v : Value} {zs : List Int} {T : List Nat} (h : IsI w0 v zs) (k : Kp [] w0 w) (hT : ∀ x ∈ T, w0.heap.size ≤ x) : IsO T w v zs := by
  obtain ⟨A, cap, rfl, h1, hA⟩ := h
  exact ⟨A, cap, rfl, h1, fun i hi => by
    obtain ⟨g, o, e, c⟩ := hA i hi
    exact ⟨g, o, e, fun hm => by have := hT g hm; have := cell_lt c; omega, cell_kp k c⟩⟩
set_option maxRecDepth 100000 in
set_option maxHeartbeats 4000000 in
theorem play_set (h : P2 w0 b tb t t w) (x : ActR) (hk : x.k = 0) :
    Calls Try.prog 11 #[.pointer (some ⟨b.g, 0, none⟩), .pointer (some ⟨tb.g, 0, none⟩), .agg x.cells] w (PlayP w0 b tb (t.act x)) := by
  obtain ⟨k, pk, pm, pi, a, vf, vt, f, tt⟩ := x
  simp only at hk
  subst hk
  have ha : t.act ⟨0, pk, pm, pi, a, vf, vt, f, tt⟩ = t.setM pk pm pi a := by simp [RT.act]
  rw [ha]
  have hb := Blk.new w 36 #[.int .i64 0, .int .i64 pk, .int .i64 pm, .int .i64 pi, .int .i64 a, vf, vt]
  have P0 := h.kp0 (Kp.new w (.cells #[.int .i64 0, .int .i64 pk, .int .i64 pm, .int .i64 pi, .int .i64 a, vf, vt] 36))
  have HXB : Hid (w.heap.size ∉ b.all) := fun hm => by have := h.rr.lt _ hm; omega
  have HXT : Hid (w.heap.size ∉ tb.all) := fun hm => by have := h.tr.lt _ hm; omega
  have HP0 := hid P0
  have HB := hid hb
  have b0 := hb.cell 0
  have b1 := hb.cell 1
  have b2 := hb.cell 2
  have b3 := hb.cell 3
  have b4 := hb.cell 4
  unfold ActR.cells
  clear h ha P0 hb
  go_enter Try.func11, Try.ntmps11
  go_wp2
  generalize w.alloc (.cells #[.int .i64 0, .int .i64 pk, .int .i64 pm, .int .i64 pi, .int .i64 a, vf, vt] 36) = w1 at *
  have PD := HP0.out.kp0 (Kp.draw w1 1)
  have BD := HB.out.kp (Kp.draw w1 1) (by simp)
  have s1 : w1.drew.cell? ⟨w.heap.size, 1, none⟩ = some (.int .i64 pk) := BD.cell 1
  have s2 : w1.drew.cell? ⟨w.heap.size, 2, none⟩ = some (.int .i64 pm) := BD.cell 2
  have s3 : w1.drew.cell? ⟨w.heap.size, 3, none⟩ = some (.int .i64 pi) := BD.cell 3
  have s4 : w1.drew.cell? ⟨w.heap.size, 4, none⟩ = some (.int .i64 a) := BD.cell 4
  go_region_held3 (fun W => W.cell? ⟨w.heap.size, 1, none⟩ = some (.int .i64 pk) ∧ W.cell? ⟨w.heap.size, 2, none⟩ = some (.int .i64 pm) ∧ W.cell? ⟨w.heap.size, 3, none⟩ = some (.int .i64 pi) ∧ W.cell? ⟨w.heap.size, 4, none⟩ = some (.int .i64 a)) (go_keep)
    (first
      | (go_at_call 14; refine (r_set (b := b) (P2.rr (by assumption)) pk pm pi a).mono ?_; rintro e w5 ⟨rfl, R5, K5⟩; have P5 := P2.stepR (by assumption) R5 K5; have B5 := Blk.kp (by assumption) K5 HXB.out; have u1 := B5.cell 1; have u2 := B5.cell 2; have u3 := B5.cell 3; have u4 := B5.cell 4; clear R5 K5)
      | (go_at_call 27; refine (t_setp (b := tb) (P2.tr (by assumption)) pk pm pi a).mono ?_; rintro e w6 ⟨rfl, T6, K6⟩; have P6 := P2.stepT (by assumption) T6 K6; have B6 := Blk.kp (by assumption) K6 HXT.out; have v1 := B6.cell 1; have v2 := B6.cell 2; have v3 := B6.cell 3; have v4 := B6.cell 4; clear T6 K6))
  all_goals (
    go_wp2
    go_ret
    exact ⟨rfl, b, tb, rfl, rfl, by assumption⟩)
end
end Go.Proofs.Ytnidadhoojbmeaa
