/-
  What package roots' filled owes as an iterator. Conditions: those that stand in each theorem.
-/
import Derived.Test.YtnidadhoojbmeaaRg
import Derived.Test.YtnidadhoojbmeaaRh
import Derived.Sort.QuietIn
namespace Go.Proofs.Ytnidadhoojbmeaa
set_option linter.unusedVariables false
set_option linter.unusedSimpArgs false
open Go.RowKit Go.Deep Go.Maps Go.Shelf
attribute [local go_sem] Oper.semAt_some

/-- The values of a row. -/
def RT.row (t : RT) (p : Pl) : List Int := if p.k = 0 then (t.sl.drop (p.m * 16)).take 16 else if p.k = 1 then t.gl else t.qu
/-- The places of a row that are not empty, of the first i ones. -/
def RT.rowUp (t : RT) (p : Pl) : Nat → List Pl
  | 0 => []
  | i + 1 => t.rowUp p i ++ (if (t.row p).getD i 0 ≠ 0 then [⟨p.k, p.m, i⟩] else [])
def RT.xsUp (t : RT) : Nat → List Pl
  | 0 => []
  | j + 1 => t.xsUp j ++ t.rowUp ((firstsL t.n).getD j ⟨0, 0, 0⟩) (t.row ((firstsL t.n).getD j ⟨0, 0, 0⟩)).length
/-- All places that are not empty, in order. -/
def RT.xs (t : RT) : List Pl := t.xsUp (t.n + 2)
/-- Where a place is. -/
def RB.adr (b : RB) (p : Pl) : Addr := if p.k = 0 then ⟨b.sb, p.m * 16 + p.i, none⟩ else if p.k = 1 then ⟨b.g, 1 + p.i, none⟩ else match b.qv with | .slice (some a) _ _ => ⟨a.block, p.i, none⟩ | _ => ⟨0, 0, none⟩
def RB.encs (b : RB) (p : Pl) : Array Value := #[p.val, .pointer (some (b.adr p))]
/-- Roots that are empty where t is. -/
def RT.like (t t' : RT) : Prop := t'.n = t.n ∧ t'.sl.length = t.sl.length ∧ t'.gl.length = t.gl.length ∧ t'.qu.length = t.qu.length ∧
  (∀ i, t'.sl.getD i 0 = 0 ↔ t.sl.getD i 0 = 0) ∧ (∀ i, t'.gl.getD i 0 = 0 ↔ t.gl.getD i 0 = 0) ∧ (∀ i, t'.qu.getD i 0 = 0 ↔ t.qu.getD i 0 = 0)
theorem RT.like_refl (t : RT) : t.like t := ⟨rfl, rfl, rfl, rfl, fun _ => Iff.rfl, fun _ => Iff.rfl, fun _ => Iff.rfl⟩
def PatR (b : RB) (t : RT) (Br : Nat) (W : World) : Prop := Blk W Br 25 #[.pointer (some ⟨b.g, 0, none⟩)] ∧ ∃ t', t.like t' ∧ RR W b t'
theorem row_lens {t : RT} (ok : t.Ok) {j : Nat} (hj : j < t.n + 2) : ∃ p, (firstsL t.n).getD j ⟨0, 0, 0⟩ = p ∧ p.i = 0 ∧ ((p.k = 0 ∧ p.m = j ∧ j < t.n ∧ (t.row p).length = 16) ∨ (p = ⟨1, 0, 0⟩ ∧ (t.row p).length = 16) ∨ (p = ⟨2, 0, 0⟩ ∧ (t.row p).length = t.qu.length)) := by
  refine ⟨_, rfl, ?_⟩
  by_cases h1 : j < t.n
  · have e : (firstsL t.n).getD j ⟨0, 0, 0⟩ = ⟨0, j, 0⟩ := by
      unfold firstsL
      rw [List.getD_eq_getElem?_getD, List.getElem?_append_left (by simpa using h1)]
      simp [slotsL, h1]
    rw [e]
    refine ⟨rfl, .inl ⟨rfl, rfl, h1, ?_⟩⟩
    have := ok.sl
    simp [RT.row]
    omega
  · by_cases h2 : j = t.n
    · have e : (firstsL t.n).getD j ⟨0, 0, 0⟩ = ⟨1, 0, 0⟩ := by
        unfold firstsL
        rw [List.getD_eq_getElem?_getD, List.getElem?_append_right (by simp; omega), h2]
        simp
      rw [e]
      exact ⟨rfl, .inr (.inl ⟨rfl, by simpa [RT.row] using ok.gl⟩)⟩
    · have e : (firstsL t.n).getD j ⟨0, 0, 0⟩ = ⟨2, 0, 0⟩ := by
        have h3 : j = t.n + 1 := by omega
        unfold firstsL
        rw [List.getD_eq_getElem?_getD, List.getElem?_append_right (by simp; omega), h3]
        simp
      rw [e]
      exact ⟨rfl, .inr (.inr ⟨rfl, by simp [RT.row]⟩)⟩
/-- A row in memory: its slice, its cells. -/
theorem row_mem {W : World} {b : RB} {t t' : RT} (ok : t.Ok) (hl : t.like t') (R : RR W b t') {p : Pl} (hp : (p.k = 0 ∧ p.m < t.n) ∨ (p.k = 1 ∧ p.m = 0) ∨ (p.k = 2 ∧ p.m = 0)) :
    ∃ A o cap, b.row t' (p.k : Int) (p.m : Int) = .slice A (t.row p).length cap ∧ ∀ i, i < (t.row p).length → ∃ g x, A = some ⟨g, o, none⟩ ∧ (b.adr { p with i := i }) = ⟨g, o + i, none⟩ ∧ W.cell? ⟨g, o + i, none⟩ = some (.int .i64 x) ∧ (x = 0 ↔ (t.row p).getD i 0 = 0) := by
  obtain ⟨l1, l2, l3, l4, l5, l6, l7⟩ := hl
  obtain ⟨k, m, i0⟩ := p
  simp only at hp
  rcases hp with ⟨rfl, hm⟩ | ⟨rfl, rfl⟩ | ⟨rfl, rfl⟩
  · have e : (t.row ⟨0, m, i0⟩).length = 16 := by have := ok.sl; simp [RT.row]; omega
    refine ⟨some ⟨b.sb, m * 16, none⟩, m * 16, 16, ?_, fun i hi => ?_⟩
    · unfold RB.row
      dsimp only
      rw [if_pos ⟨rfl, by omega, by omega⟩, Int.toNat_natCast, e]
    · rw [e] at hi
      refine ⟨b.sb, t'.sl.getD (m * 16 + i) 0, rfl, by simp [RB.adr], R.cs (by omega), ?_⟩
      rw [l5]
      have : (t.row ⟨0, m, i0⟩).getD i 0 = t.sl.getD (m * 16 + i) 0 := by
        simp only [RT.row, if_true, List.getD_eq_getElem?_getD]
        rw [List.getElem?_take_of_lt hi, List.getElem?_drop]
      rw [this]
  · have e : (t.row ⟨1, 0, i0⟩).length = 16 := by simpa [RT.row] using ok.gl
    refine ⟨some ⟨b.g, 1, none⟩, 1, 16, ?_, fun i hi => ?_⟩
    · unfold RB.row
      dsimp only
      rw [if_neg (by omega), if_pos ⟨rfl, rfl⟩, e]
    · rw [e] at hi
      exact ⟨b.g, t'.gl.getD i 0, rfl, by simp [RB.adr], R.cg hi, l6 i⟩
  · have e : (t.row ⟨2, 0, i0⟩).length = t'.qu.length := by simp [RT.row, l4]
    rcases R.q_form with ⟨hv, h0⟩ | ⟨g, cap, hv, _, _, _, _, hc⟩
    · have e0 : (t.row ⟨2, 0, i0⟩).length = 0 := by rw [e, h0]; rfl
      refine ⟨none, 0, 0, ?_, fun i hi => by omega⟩
      unfold RB.row
      dsimp only
      rw [if_neg (by omega), if_neg (by omega), if_pos ⟨rfl, rfl⟩, hv, e0]
    · refine ⟨some ⟨g, 0, none⟩, 0, cap, ?_, fun i hi => ?_⟩
      · unfold RB.row
        dsimp only
        rw [if_neg (by omega), if_neg (by omega), if_pos ⟨rfl, rfl⟩, hv, e]
      · rw [e] at hi
        exact ⟨g, t'.qu.getD i 0, rfl, by simp [RB.adr, hv], by rw [Nat.zero_add]; exact hc i hi, l7 i⟩
end Go.Proofs.Ytnidadhoojbmeaa
