/-
  The contract of package roots' firsts; the list of the places that are not empty. Conditions: those that stand in each theorem.
-/
import Derived.Test.YtnidadhoojbmeaaRb
namespace Go.Proofs.Ytnidadhoojbmeaa
set_option linter.unusedVariables false
set_option linter.unusedSimpArgs false
open Go.RowKit Go.Deep Go.Maps

/-- A place, by plain numbers. -/
structure Pl where
  k : Nat
  m : Nat
  i : Nat
  deriving DecidableEq, Repr
def Pl.val (p : Pl) : Value := .agg #[.int .i64 (p.k : Int), .int .i64 (p.m : Int), .int .i64 (p.i : Int)]
def plcells (l : List Pl) : List Value := l.flatMap fun p => [.int .i64 (p.k : Int), .int .i64 (p.m : Int), .int .i64 (p.i : Int)]
theorem plcells_length (l : List Pl) : (plcells l).length = l.length * 3 := by
  induction l with
  | nil => rfl
  | cons r rs ih => simp only [plcells, List.flatMap_cons, List.length_append, List.length_cons, List.length_nil] at ih ⊢; omega
theorem plcells_append (a b : List Pl) : plcells (a ++ b) = plcells a ++ plcells b := by simp [plcells]
theorem plcells_at (l : List Pl) (i : Nat) (hi : i < l.length) : (plcells l)[i * 3]? = some (.int .i64 ((l.getD i ⟨0, 0, 0⟩).k : Int)) ∧ (plcells l)[i * 3 + 1]? = some (.int .i64 ((l.getD i ⟨0, 0, 0⟩).m : Int)) ∧ (plcells l)[i * 3 + 2]? = some (.int .i64 ((l.getD i ⟨0, 0, 0⟩).i : Int)) := by
  induction l generalizing i with
  | nil => simp at hi
  | cons r rs ih =>
    have e : plcells (r :: rs) = .int .i64 (r.k : Int) :: .int .i64 (r.m : Int) :: .int .i64 (r.i : Int) :: plcells rs := rfl
    rcases i with _ | i
    · rw [e]; exact ⟨rfl, rfl, rfl⟩
    · have h := ih i (by simpa using hi)
      rw [e, show (i + 1) * 3 = i * 3 + 1 + 1 + 1 by omega]
      simp only [List.getElem?_cons_succ, List.getD_cons_succ]
      exact h
def slotsL (n : Nat) : List Pl := (List.range n).map fun m => ⟨0, m, 0⟩
def firstsL (n : Nat) : List Pl := slotsL n ++ [⟨1, 0, 0⟩, ⟨2, 0, 0⟩]
theorem slotsL_succ (n : Nat) : slotsL (n + 1) = slotsL n ++ [⟨0, n, 0⟩] := by simp [slotsL, List.range_succ]
@[simp] theorem slotsL_length (n : Nat) : (slotsL n).length = n := by simp [slotsL]
/-- A slice of places of the call's own. -/
def RowPl (B : Nat) (w : World) (l : List Pl) (e : Ending) (w' : World) : Prop :=
  ∃ v', e = .returned v' ∧ w'.ownsRow B 33 3 v' l.length (plcells l) ∧ Below B w w'
theorem infoPlace : (Try.prog.info? 33).map (fun i => (i.zero, i.size, i.bytes)) = some (some (.agg #[.int .i64 0, .int .i64 0, .int .i64 0]), 3, 24) := by kernel_rfl
theorem blk_newV (w : World) (xs : List Value) (t : TypeId) : ∀ (j : Nat) (u : Value), xs[j]? = some u → (w.alloc (.cells xs.toArray t)).cell? ((⟨w.heap.size, 0, none⟩ : Addr).add j) = some u := by
  intro j u hu
  have := blk_read (xs := xs) (sp := []) (by simpa using Blk.new w t xs.toArray) j u hu
  exact this
section
variable {w w' W : World} {b : RB} {t : RT}
set_option maxRecDepth 100000 in
set_option maxHeartbeats 1000000 in
theorem r_firsts (R : RR w b t) :
    Calls Try.prog 50 #[.pointer (some ⟨b.g, 0, none⟩)] w (RowPl w.heap.size w (firstsL t.n)) := by
  obtain ⟨i0, hi0, hz0, hz1, hz2⟩ := info_parts infoPlace
  obtain ⟨c, h1, h2, hc⟩ := R.c0
  have h4 := R.ok.n4
  clear R
  go_enter Try.func50, Try.ntmps50
  go_wp2
  go_loopw [3, 10] (fun s c wr => ∃ k : Nat, k ≤ t.n ∧ c = .int .i64 (k : Int) ∧ wr.ownsRow w.heap.size 33 3 s k (plcells (slotsL k)) ∧ Below w.heap.size w wr) (fun _ c _ => t.n - (intOf c).toNat)
  case atStart => exact ⟨0, by omega, rfl, ⟨rfl, .inl ⟨rfl, rfl⟩⟩, Below.refl _ _⟩
  case round =>
    obtain ⟨k, hk, rfl, own, bel⟩ := hrel
    have HO := hid own
    have HBE := hid bel
    have HSZ : Hid (w.heap.size ≤ wr.heap.size) := bel.size
    clear own bel
    by_cases hlt : k < t.n
    · have HN := hid (blk_newV wr [.int .i64 0, .int .i64 (k : Int), .int .i64 0] 33)
      have NONE : ∀ u ∈ ([.int .i64 0, .int .i64 (k : Int), .int .i64 0] : List Value), u.oneCell' = true := by
        intro u hu; simp at hu; rcases hu with rfl | rfl | rfl <;> rfl
      go_wp2_with (first
        | (at_builtin; refine wpList_append_own _ rfl (.tmp 13) (.tmp 16) 47 rfl w.heap.size 33 i0 (.agg #[.int .i64 0, .int .i64 0, .int .i64 0]) 3 24 Try.underlying47 hi0 hz0 hz1 hz2 rfl (by decide) _ _ _ rfl (HO.out.alloc _) ⟨wr.heap.size, 0, none⟩ 1 1 [.int .i64 0, .int .i64 (k : Int), .int .i64 0] rfl rfl HN.out NONE (by unfold maxLen; omega) (by omega) (by have := HSZ.out; simp; omega) ?_; intro v' w9 hown' hgr _; have HO' := hid hown'; have HG := hid hgr; clear hown' hgr))
      go_roundw
      case rel =>
        have kA : Kp [] wr (wr.alloc (.cells #[.int .i64 0, .int .i64 (k : Int), .int .i64 0] 33)) := Kp.new _ _
        have b1 := row_endV (k' := 0) (kA.below HSZ.out (by simp)) HSZ.out (own_kp0 HO.out kA) HG.out
        exact ⟨k + 1, by omega, by go_num, by rw [slotsL_succ, plcells_append]; exact HO'.out, HBE.out.trans b1⟩
      case measure => simp [intOf]; omega
    · obtain rfl : k = t.n := by omega
      have HN := hid (blk_newV wr [.int .i64 1, .int .i64 0, .int .i64 0, .int .i64 2, .int .i64 0, .int .i64 0] 33)
      have NONE : ∀ u ∈ ([.int .i64 1, .int .i64 0, .int .i64 0, .int .i64 2, .int .i64 0, .int .i64 0] : List Value), u.oneCell' = true := by
        intro u hu; simp only [List.mem_cons, List.not_mem_nil, or_false] at hu; rcases hu with rfl | rfl | rfl | rfl | rfl | rfl <;> rfl
      go_wp2_with (first
        | (at_builtin; refine wpList_append_own _ rfl (.tmp 19) (.tmp 22) 47 rfl w.heap.size 33 i0 (.agg #[.int .i64 0, .int .i64 0, .int .i64 0]) 3 24 Try.underlying47 hi0 hz0 hz1 hz2 rfl (by decide) _ _ _ rfl (HO.out.alloc _) ⟨wr.heap.size, 0, none⟩ 2 2 [.int .i64 1, .int .i64 0, .int .i64 0, .int .i64 2, .int .i64 0, .int .i64 0] rfl rfl HN.out NONE (by unfold maxLen; omega) (by omega) (by have := HSZ.out; simp; omega) ?_; intro v' w9 hown' hgr _; have HO' := hid hown'; have HG := hid hgr; clear hown' hgr))
      go_ret
      have kA : Kp [] wr (wr.alloc (.cells #[.int .i64 1, .int .i64 0, .int .i64 0, .int .i64 2, .int .i64 0, .int .i64 0] 33)) := Kp.new _ _
      have b1 := row_endV (k' := 0) (kA.below HSZ.out (by simp)) HSZ.out (own_kp0 HO.out kA) HG.out
      refine ⟨_, rfl, ?_, HBE.out.trans b1⟩
      unfold firstsL
      rw [plcells_append, List.length_append, slotsL_length]
      exact HO'.out
end
end Go.Proofs.Ytnidadhoojbmeaa
