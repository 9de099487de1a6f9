/-
  The law's readers: same, states, objects, gaps, cursors of the program's side. Conditions: those that stand in each theorem.
-/
import Derived.Test.YthndilllnneijaaGreatPGOK
import Derived.Test.YthndilllnneijaaGreatPG18
import Derived.Test.YthndilllnneijaaGreatPG21
import Derived.Test.YthndilllnneijaaGreatPGOH
import Derived.Test.YthndilllnneijaaGreatPG4
import Derived.Test.YthndilllnneijaaGreatPGJI
import Derived.Deep.Grids
set_option linter.unusedSimpArgs false
set_option linter.unusedVariables false
set_option maxRecDepth 100000
namespace Go.Proofs.YthndilllnneijaaGreat
open Go.RowKit Go.Deep Go.Maps
section
variable {w W V : World} {b : HB} {d d2 : DB} {m m' m2 : HM} {q p q2 p2 g g' gb B B' : Nat} {A A' A2 : AS} {cs : Array Value}
theorem FarI.kp0 {v : Value} {zs : List Int} (h : FarI w B v zs) (k : Kp [] w W) : FarI W B v zs := by
 obtain ⟨Ad, cap, rfl, h1, h2, hA⟩ := h
 exact ⟨Ad, cap, rfl, h1, h2, fun i hi => by obtain ⟨gg, e, hb, c⟩ := hA i hi; exact ⟨gg, e, hb, cell_kp k c⟩⟩
end
def anyF (L : List (Nat × Nat)) (n : Nat) : Bool := L.any (fun g => decide (n ≤ g.2))
theorem fit0 {g : Nat × Nat} {n : Nat} : fitA (areaOf 0 g) n = decide (n ≤ g.2) := by
 unfold fitA areaOf
 rw [Nat.max_zero]
 by_cases h : n ≤ g.2
 · rw [decide_eq_true h, decide_eq_true (by omega)]
 · rw [decide_eq_false h, decide_eq_false (by omega)]
theorem rgL_small {m : HM} (I : m.Inv) {s n : Nat} {a : Nat × Nat} (h : a ∈ rgL m s n) : ∃ k, k < n ∧ m.st k = 1 ∧ m.sp k = s ∧ 64 * k ≤ a.1 ∧ a.1 + a.2 ≤ 64 * (k + 1) ∧ 1 ≤ a.2 ∧ 64 ≤ a.1 := by
 unfold rgL at h
 obtain ⟨k, hk, ha⟩ := List.mem_flatMap.1 h
 obtain ⟨hk1, hk2⟩ := mem_blkS.1 hk
 have hk3 := of_decide_eq_true hk2
 obtain ⟨i, hi, rfl⟩ := List.getElem_of_mem ha
 have hb := gap_bd I hi
 rw [List.getD_eq_getElem?_getD, List.getElem?_eq_getElem hi] at hb
 simp only [Option.getD_some] at hb
 exact ⟨k, hk1, hk3.1, hk3.2, by omega, by omega, by omega, by omega⟩
theorem least_fold {n : Nat} : ∀ (L : List (Nat × Nat)) (x : Nat × Nat), (∀ a ∈ L, 64 ≤ a.1 ∧ a.2 ≤ 64) → ((L.map (areaOf 0)).foldl (leastStep n) x = x ∧ (∀ a ∈ L, n ≤ a.2 → x.2 ≤ a.2)) ∨ (∃ a ∈ L, (L.map (areaOf 0)).foldl (leastStep n) x = a ∧ n ≤ a.2 ∧ a.2 < x.2 ∧ ∀ c ∈ L, n ≤ c.2 → a.2 ≤ c.2) := by
 intro L
 induction L with
 | nil => intro x _; exact .inl ⟨rfl, fun a ha => absurd ha (by simp)⟩
 | cons b L ih =>
   intro x hL
   have hb := hL b (List.mem_cons_self ..)
   rw [List.map_cons, List.foldl_cons]
   have hstep : leastStep n x (areaOf 0 b) = if n ≤ b.2 ∧ b.2 < x.2 then b else x := by
     unfold leastStep
     rw [fit0]
     unfold areaOf
     simp only [Nat.max_zero, decide_eq_true_eq, show b.1 + b.2 - b.1 = b.2 by omega]
   rw [hstep]
   by_cases h : n ≤ b.2 ∧ b.2 < x.2
   · rw [if_pos h]
     rcases ih b (fun a ha => hL a (List.mem_cons_of_mem _ ha)) with ⟨h1, h2⟩ | ⟨a, ha, h1, h2, h3, h4⟩
     · refine .inr ⟨b, List.mem_cons_self .., h1, h.1, h.2, fun c hc hn => ?_⟩
       rcases List.mem_cons.1 hc with rfl | hc
       · exact Nat.le_refl _
       · exact h2 c hc hn
     · refine .inr ⟨a, List.mem_cons_of_mem _ ha, h1, h2, by omega, fun c hc hn => ?_⟩
       rcases List.mem_cons.1 hc with rfl | hc
       · omega
       · exact h4 c hc hn
   · rw [if_neg h]
     rcases ih x (fun a ha => hL a (List.mem_cons_of_mem _ ha)) with ⟨h1, h2⟩ | ⟨a, ha, h1, h2, h3, h4⟩
     · refine .inl ⟨h1, fun c hc hn => ?_⟩
       rcases List.mem_cons.1 hc with rfl | hc
       · omega
       · exact h2 c hc hn
     · refine .inr ⟨a, List.mem_cons_of_mem _ ha, h1, h2, h3, fun c hc hn => ?_⟩
       rcases List.mem_cons.1 hc with rfl | hc
       · omega
       · exact h4 c hc hn
theorem leastG_spec {m : HM} (I : m.Inv) (s n : Nat) : (m.leastG s n = 0 ∧ anyF (rgL m s m.bl.length) n = false) ∨ (∃ a ∈ rgL m s m.bl.length, m.leastG s n = a.1 ∧ 64 ≤ a.1 ∧ n ≤ a.2 ∧ anyF (rgL m s m.bl.length) n = true ∧ ∀ c ∈ rgL m s m.bl.length, n ≤ c.2 → a.2 ≤ c.2) := by
 have hL : ∀ a ∈ rgL m s m.bl.length, 64 ≤ a.1 ∧ a.2 ≤ 64 := fun a ha => by
   obtain ⟨k, _, _, _, _, _, _, _⟩ := rgL_small I ha
   omega
 unfold HM.leastG
 rw [ars_map]
 rcases least_fold (n := n) _ (0, 65) hL with ⟨h1, h2⟩ | ⟨a, ha, h1, h2, h3, h4⟩
 · refine .inl ⟨by rw [h1], ?_⟩
   unfold anyF
   rw [List.any_eq_false]
   intro g hg hn
   have := h2 g hg (of_decide_eq_true hn)
   have := hL g hg
   simp only at *
   omega
 · refine .inr ⟨a, ha, by rw [h1], (hL a ha).1, h2, ?_, h4⟩
   unfold anyF
   rw [List.any_eq_true]
   exact ⟨a, ha, decide_eq_true h2⟩
section
variable {w W V : World} {b : HB} {m : HM} {q g B : Nat} {A : AS}
end
open Go.ChangeShapes Go.WideShapes Go.ChangeAt Go.Joins
section
variable {H : Type} {enc : TypeId × Value → H} {W : World} {base : Nat} {spare : Nat → Bool} {held : Bool} {r : Reach} {b0 : Nat}
theorem shp_cells {cs : List Value} {n : Nat} {x : DataW H × List MemPlace} (h : DataW.trod enc Tryz.prog W base spare held n 33 cs = some x) :
   ∃ a b c : Int, cs = [.int .i64 a, .int .i64 b, .int .i64 c] ∧ W64 a ∧ W64 b ∧ W64 c := by
 obtain ⟨y0, y1, y2, m, _, hlen, h0, h1, h2⟩ := trod_struct3 Tryz.underlying33 h
 obtain ⟨v0, v1, v2, rfl⟩ := three_of (hlen.trans cellsShape)
 simp only [cellsInt] at h0 h1 h2
 obtain ⟨a, rfl, wa⟩ := int_of (show DataW.trod enc Tryz.prog W base spare held m 3 [v0] = some y0 from h0) rfl
 obtain ⟨b, rfl, wb⟩ := int_of (show DataW.trod enc Tryz.prog W base spare held m 3 [v1] = some y1 from h1) rfl
 obtain ⟨c, rfl, wc⟩ := int_of (show DataW.trod enc Tryz.prog W base spare held m 3 [v2] = some y2 from h2) rfl
 exact ⟨a, b, c, rfl, wa, wb, wc⟩
end
section
variable {H : Type} {enc : TypeId × Value → H} {W : World} {base : Nat} {spare : Nat → Bool} {held : Bool} {r : Reach} {b0 : Nat}
theorem cellsQAct : Tryz.prog.cellsOf 51 = 6 := by kernel_rfl
theorem six_of {α : Type} {l : List α} (h : l.length = 6) : ∃ a b c d e f, l = [a, b, c, d, e, f] := by
 match l, h with
 | [a, b, c, d, e, f], _ => exact ⟨a, b, c, d, e, f, rfl⟩
theorem qact_cells {cs : List Value} {n : Nat} {x : DataW H × List MemPlace} (h : DataW.trod enc Tryz.prog W base spare held n 51 cs = some x) :
   ∃ y : QAct, W64 y.a ∧ cs = [.int .i64 y.k, .int .i64 y.a, .int .i64 y.s, .int .i64 y.x, .int .i64 y.y, .int .i64 y.z] := by
 obtain ⟨xs, m, _, _, hlen, hx, hf⟩ := DataW.trod_struct Tryz.underlying51 h
 obtain ⟨v0, v1, v2, v4, v5, v6, rfl⟩ := six_of (hlen.trans cellsQAct)
 have e0 : DataW.trod enc Tryz.prog W base spare held m 3 (([v0, v1, v2, v4, v5, v6].drop 0).take (Tryz.prog.cellsOf 3)) = xs[0]? := hf 0 _ rfl
 have e1 : DataW.trod enc Tryz.prog W base spare held m 3 (([v0, v1, v2, v4, v5, v6].drop 1).take (Tryz.prog.cellsOf 3)) = xs[1]? := hf 1 _ rfl
 have e2 : DataW.trod enc Tryz.prog W base spare held m 3 (([v0, v1, v2, v4, v5, v6].drop 2).take (Tryz.prog.cellsOf 3)) = xs[2]? := hf 2 _ rfl
 have e4 : DataW.trod enc Tryz.prog W base spare held m 33 (([v0, v1, v2, v4, v5, v6].drop 3).take (Tryz.prog.cellsOf 33)) = xs[3]? := hf 3 _ rfl
 rw [cellsInt] at e0 e1 e2
 rw [cellsShape] at e4
 have hx5 : xs.length = 4 := hx
 have g : ∀ i, i < 4 → ∃ y, xs[i]? = some y := fun i hi => ⟨xs[i]'(by omega), List.getElem?_eq_getElem (by omega)⟩
 obtain ⟨y0, q0⟩ := g 0 (by omega)
 obtain ⟨y1, q1⟩ := g 1 (by omega)
 obtain ⟨y2, q2⟩ := g 2 (by omega)
 obtain ⟨y4, q4⟩ := g 3 (by omega)
 obtain ⟨k, rfl, wk⟩ := int_of (show DataW.trod enc Tryz.prog W base spare held m 3 [v0] = _ from e0) q0
 obtain ⟨a, rfl, wa⟩ := int_of (show DataW.trod enc Tryz.prog W base spare held m 3 [v1] = _ from e1) q1
 obtain ⟨b, rfl, wb⟩ := int_of (show DataW.trod enc Tryz.prog W base spare held m 3 [v2] = _ from e2) q2
 rw [q4] at e4
 obtain ⟨s0, s1, s2, he, _⟩ := shp_cells (show DataW.trod enc Tryz.prog W base spare held m 33 [v4, v5, v6] = _ from e4)
 simp only [List.cons.injEq, and_true] at he
 obtain ⟨rfl, rfl, rfl⟩ := he
 exact ⟨⟨k, a, b, s0, s1, s2⟩, wa, rfl⟩
theorem qacts_shape {v : Value} {d : DataW H} {p : List MemPlace} (hv : Value.okWide Tryz.prog W r b0 41 v) (h : DataW.Trod enc Tryz.prog W base spare held 41 v d p) :
   ∃ A len cap, v = .slice A len cap ∧ QActs W A len := by
 obtain ⟨A, len, cap, rfl⟩ := okWide_slice Tryz.underlying41 hv
 refine ⟨A, len, cap, rfl, ?_⟩
 obtain ⟨fuel, hf⟩ := h
 rcases open_slice Tryz.underlying41 hf with ⟨hcs, _⟩ | ⟨a, len', cap', m, n, D, Pl, hcs, _, hl, _, hm, _, hi⟩
 · simp [Value.cells] at hcs
   obtain ⟨rfl, rfl, rfl⟩ := hcs
   exact fun i hi => absurd hi (by omega)
 · simp [Value.cells] at hcs
   obtain ⟨rfl, rfl, rfl⟩ := hcs
   have hlm : len ≤ m := by rw [hm]; split <;> omega
   intro i hlt
   obtain ⟨g, o, spot⟩ := a
   have hspot : spot = none := by
     obtain ⟨cs0, hc0, ht0⟩ := hi 0 (by omega)
     obtain ⟨y, _, rfl⟩ := qact_cells ht0
     rw [cellsQAct] at hc0
     have hs := World.cell?_spot ((World.cells?_some hc0).2.2 0 (by omega))
     simpa [Addr.add] using hs
   subst hspot
   obtain ⟨cs', hc, ht⟩ := hi i (by omega)
   obtain ⟨y, hy, rfl⟩ := qact_cells ht
   rw [cellsQAct] at hc
   obtain ⟨_, _, hat⟩ := World.cells?_some hc
   refine ⟨g, o, y, hy, rfl, ?_, ?_, ?_, ?_, ?_, ?_⟩
   · have := hat 0 (by omega); rw [cell_off, cell_off] at this; simpa using this
   · have := hat 1 (by omega); rw [cell_off, cell_off] at this; simpa using this
   · have := hat 2 (by omega); rw [cell_off, cell_off] at this; simpa using this
   · have := hat 3 (by omega); rw [cell_off, cell_off] at this; simpa using this
   · have := hat 4 (by omega); rw [cell_off, cell_off] at this; simpa using this
   · have := hat 5 (by omega); rw [cell_off, cell_off] at this; simpa using this
end
end Go.Proofs.YthndilllnneijaaGreat
