/-
  Sets of numbers as maps to bool, and the addresses that Leads gives. Conditions: those that stand in each theorem.
-/
import Derived.Test.YtnidadhoojbmeaaRl
import Derived.Test.YtnidadhoojbmeaaRb
import Derived.Maps.Own
import Derived.Maps.Views
import Derived.Maps.OwnSet
namespace Go.Proofs.Ytnidadhoojbmeaa
set_option linter.unusedVariables false
set_option linter.unusedSimpArgs false
open Go.RowKit Go.Deep Go.Maps Go.Shelf

theorem bl_law : Keyed Try.prog 3 := int_keyed Try.underlying3
theorem bl_zero_run (w : World) : (zeroValue 4).run Try.prog w = .ok (.bool false) w := by kernel_rfl
theorem bl_wf {i : Int} (h : W64 i) : (Lit.int .i64 i).wf = true := by
  have h1 := h.1
  have h2 := h.2
  simp [Lit.wf, IntKind.min, IntKind.max, IntKind.signed, IntKind.bits]; omega
/-- A map's block holds just these numbers. -/
structure BSet (w : World) (bm q : Nat) (l : List Int) : Prop where
  own_ : ∃ D : DataW Unit, w.ownsMap Try.prog 3 (plainElem Try.prog 4) bm q D ∧ IsMap D ∧ ∀ x, W64 x → D.atKey (.int .i64 x) (.lit (.bool false)) = .lit (.bool (l.contains x))
theorem bset_fresh (w : World) : BSet (w.alloc (.map #[] 0)) w.heap.size 0 [] :=
  ⟨.map [], World.ownsMap_made w _ _ _, ⟨[], rfl⟩, fun x _ => rfl⟩
theorem BSet.lt {w : World} {bm q : Nat} {l : List Int} (h : BSet w bm q l) : bm < w.heap.size := by
  obtain ⟨D, h1, _⟩ := h.own_; exact h1.lt
theorem BSet.kp {w W : World} {bm q : Nat} {l : List Int} {T : List Nat} (h : BSet w bm q l) (k : Kp T w W) (hb : bm ∉ T) : BSet W bm q l := by
  obtain ⟨D, h1, h2, h3⟩ := h.own_
  have hlt := h1.lt
  obtain ⟨es, clock, e1, F, hs, hD⟩ := h1
  exact ⟨D, ⟨es, clock, (k.block bm hlt hb).trans e1, F, hs, hD⟩, h2, h3⟩
set_option maxRecDepth 100000 in
theorem bl_inv {v : Value} {d : Bool} {ps : List MemPlace} (h : plainElem (H := Unit) Try.prog 4 v = some (.lit (.bool d), ps)) : v = .bool d := by
  unfold plainElem at h
  rw [Try.underlying4] at h
  cases v <;> simp at h
  rw [h.1]
theorem bset_look {w : World} {bm q : Nat} {l : List Int} (h : BSet w bm q l) {x : Int} (hx : W64 x) (n : Nat) : (Instr.lookup 71 (.map (some bm)) (.int .i64 x) false).run Try.prog (w.drewN n) = .ok (.bool (l.contains x)) (w.drewN n) := by
  obtain ⟨D, h1, h2, h3⟩ := h.own_
  obtain ⟨v, ps, hrun, hv⟩ := (show (w.drewN n).ownsMap _ _ _ _ _ _ from h1).lookup bl_law Try.underlying71 (bl_zero_run _) (plainElem_bool Try.underlying4 false) (keyOf_int_mk Try.underlying3 (bl_wf hx))
  rw [h3 x hx] at hv
  rw [hrun, bl_inv hv]
theorem bset_put {w : World} {bm q : Nat} {l : List Int} (h : BSet w bm q l) (hq : q < maxLen) {x : Int} (hx : W64 x) :
    ∃ F : Nat → World, ∀ n, (Instr.mapUpdate 71 (.map (some bm)) (.int .i64 x) (.bool true)).run Try.prog (w.drewN n) = .ok () (F n) ∧ BSet (F n) bm (q + 1) (l ++ [x]) ∧ Kp [bm] w (F n) := by
  have hy : ∀ n, ∃ w', (Instr.mapUpdate 71 (.map (some bm)) (.int .i64 x) (.bool true)).run Try.prog (w.drewN n) = .ok () w' ∧ BSet w' bm (q + 1) (l ++ [x]) ∧ Kp [bm] w w' := fun n => by
    obtain ⟨D, h1, h2, h3⟩ := h.own_
    obtain ⟨w', e1, e2, e3⟩ := (show (w.drewN n).ownsMap _ _ _ _ _ _ from h1).update bl_law Try.underlying71 hq (keyOf_int_mk Try.underlying3 (bl_wf hx)) (plainElem_bool Try.underlying4 true)
    have k : Kp [bm] (w.drewN n) w' := Kp.of_grown e3
    refine ⟨w', e1, ⟨_, e2, h2.put _ _, fun y hy => ?_⟩, (Kp.draw w n).trans k (U := [bm]) (by simp) (fun z hz => .inl hz)⟩
    by_cases e : y = x
    · subst e
      rw [atKey_put_same h2 (by simp [WideAt.IsKeyLit])]
      simp
    · rw [atKey_put_other (fun hc => e (by injection hc)), h3 y hy]
      simp [e]
  exact ⟨fun n => Classical.choose (hy n), fun n => Classical.choose_spec (hy n)⟩
/-- The different addresses of places, in the order of the first place of each. -/
def RT.leads (t : RT) (l : List Pl) : List Int := l.foldl (fun a p => if a.contains (t.get (p.k : Int) (p.m : Int) (p.i : Int)) then a else a ++ [t.get (p.k : Int) (p.m : Int) (p.i : Int)]) []
theorem leads_snoc (t : RT) (l : List Pl) (p : Pl) : t.leads (l ++ [p]) = if (t.leads l).contains (t.get (p.k : Int) (p.m : Int) (p.i : Int)) then t.leads l else t.leads l ++ [t.get (p.k : Int) (p.m : Int) (p.i : Int)] := by
  unfold RT.leads
  rw [List.foldl_append]
  rfl
end Go.Proofs.Ytnidadhoojbmeaa
