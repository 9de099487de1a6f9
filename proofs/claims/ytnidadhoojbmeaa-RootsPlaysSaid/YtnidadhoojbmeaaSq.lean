/-
  The laws' great and made. Conditions: those that stand in each theorem.
-/
import Derived.Test.YtnidadhoojbmeaaSp
import Derived.Test.YtnidadhoojbmeaaSn
namespace Go.Proofs.Ytnidadhoojbmeaa
set_option linter.unusedVariables false
set_option linter.unusedSimpArgs false
open Go.RowKit Go.Deep Go.Maps

/-- All values are ints of 64 bits. -/
def RT.Wd (t : RT) : Prop := (∀ y ∈ t.sl, W64 y) ∧ (∀ y ∈ t.gl, W64 y) ∧ ∀ y ∈ t.qu, W64 y
theorem w64_zero : W64 0 := ⟨by decide, by decide⟩
theorem wd_getD {l : List Int} (h : ∀ y ∈ l, W64 y) (i : Nat) : W64 (l.getD i 0) := by
  rw [List.getD_eq_getElem?_getD]
  rcases Nat.lt_or_ge i l.length with h1 | h1
  · rw [List.getElem?_eq_getElem h1]; exact h _ (List.getElem_mem h1)
  · rw [List.getElem?_eq_none h1]; exact w64_zero
theorem wd_set {l : List Int} (h : ∀ y ∈ l, W64 y) (i : Nat) {v : Int} (hv : W64 v) : ∀ y ∈ l.set i v, W64 y := fun y hy => by
  rcases List.mem_or_eq_of_mem_set hy with h1 | h1
  · exact h y h1
  · rw [h1]; exact hv
theorem RT.Wd.get {t : RT} (h : t.Wd) (k m i : Int) : W64 (t.get k m i) := by
  unfold RT.get
  split
  · exact wd_getD h.1 _
  · split
    · exact wd_getD h.2.1 _
    · exact wd_getD h.2.2 _
theorem RT.Wd.set_ {t : RT} (h : t.Wd) (k m i : Int) {v : Int} (hv : W64 v) : (t.set k m i v).Wd := by
  unfold RT.set
  split
  · exact ⟨wd_set h.1 _ hv, h.2.1, h.2.2⟩
  · split
    · exact ⟨h.1, wd_set h.2.1 _ hv, h.2.2⟩
    · exact ⟨h.1, h.2.1, wd_set h.2.2 _ hv⟩
theorem RT.Wd.new (n : Nat) : (RT.new n).Wd := by
  refine ⟨fun y hy => ?_, fun y hy => ?_, fun y hy => by cases hy⟩
  · rw [(List.mem_replicate.1 hy).2]; exact w64_zero
  · rw [(List.mem_replicate.1 hy).2]; exact w64_zero
theorem RT.Wd.reps {t : RT} (h : t.Wd) (f : List Int) {tt : List Int} (ht : ∀ y ∈ tt, W64 y) (l : List Pl) : (t.reps f tt l).1.Wd := by
  have hh : ∀ (l : List Pl) (s : RT × Nat), s.1.Wd → (l.foldl (RT.rep1 f tt) s).1.Wd := by
    intro l
    induction l with
    | nil => exact fun s h => h
    | cons p l ih =>
      intro s hs
      refine ih _ ?_
      unfold RT.rep1
      split
      · exact hs.set_ _ _ _ (wd_getD ht _)
      · exact hs
  exact hh l (t, 0) h
theorem RT.Wd.act {t : RT} (h : t.Wd) {x : ActR} (ha : W64 x.a) (ht : ∀ y ∈ x.tt, W64 y) : (t.act x).Wd := by
  unfold RT.act
  split
  · unfold RT.setM; split
    · exact h.set_ _ _ _ ha
    · exact h
  · split
    · unfold RT.pushM; split
      · refine ⟨h.1, h.2.1, fun y hy => ?_⟩
        rcases List.mem_append.1 hy with h1 | h1
        · exact h.2.2 y h1
        · rw [List.mem_singleton.1 h1]; exact ha
      · exact h
    · split
      · exact ⟨h.1, h.2.1, fun y hy => h.2.2 y (List.mem_of_mem_drop hy)⟩
      · split
        · split
          · exact h.reps _ ht _
          · exact h
        · exact h
/-- A slice of calls, as it came in. -/
structure ActsR (w : World) (A : Option Addr) (n : Nat) (X : Nat → ActR) : Prop where
  le : n ≤ maxLen
  ok : ∀ i, i < n → (X i).Ok w
  at_ : ∀ i, i < n → ∃ g o, A = some ⟨g, o, none⟩ ∧ w.cell? ⟨g, o + i * 7, none⟩ = some (.int .i64 (X i).k) ∧ w.cell? ⟨g, o + i * 7 + 1, none⟩ = some (.int .i64 (X i).pk) ∧ w.cell? ⟨g, o + i * 7 + 2, none⟩ = some (.int .i64 (X i).pm) ∧ w.cell? ⟨g, o + i * 7 + 3, none⟩ = some (.int .i64 (X i).pi) ∧ w.cell? ⟨g, o + i * 7 + 4, none⟩ = some (.int .i64 (X i).a) ∧ w.cell? ⟨g, o + i * 7 + 5, none⟩ = some (X i).vf ∧ w.cell? ⟨g, o + i * 7 + 6, none⟩ = some (X i).vt
/-- What great tells. -/
def GreatP (n : Nat) (X : Nat → ActR) (w : World) (e : Ending) (w' : World) : Prop :=
  ∃ g : Bool, e = .returned (.bool g) ∧ (g = false → n ≤ 100 ∧ ∀ i, i < n → (X i).f.length ≤ 60 ∧ (X i).tt.length ≤ 60) ∧ ∃ m, w' = w.drewN m
section
variable {w0 w w' : World} {b : RB} {tb : TB} {t : RT}
set_option maxRecDepth 100000 in
set_option maxHeartbeats 2000000 in
theorem great_ok {A : Option Addr} {n c : Nat} {X : Nat → ActR} (h : ActsR w A n X) :
    Calls Try.prog 5 #[.slice A n c] w (GreatP n X w) := by
  have H := hid h
  have hle := h.le
  unfold maxLen at hle
  clear h
  go_enter Try.func5, Try.ntmps5
  go_wp2
  go_loopw [3] (fun s wr => ∃ k m : Nat, k ≤ n ∧ s = .int .i64 (k : Int) ∧ wr = w.drewN m ∧ ∀ i, i < k → (X i).f.length ≤ 60 ∧ (X i).tt.length ≤ 60) (fun s _ => n - (intOf s).toNat)
  case atStart => exact ⟨0, 0, by omega, rfl, rfl, fun i hi => absurd hi (by omega)⟩
  case round =>
    obtain ⟨k, m, hk, rfl, rfl, hall⟩ := hrel
    have HALL := hid hall
    clear hall
    by_cases hlt : k < n
    · obtain ⟨g, o, rfl, c0, c1, c2, c3, c4, c5, c6⟩ := H.out.at_ k hlt
      obtain ⟨Af, cf, hvf, _, _⟩ := (H.out.ok k hlt).f
      obtain ⟨At, ct, hvt, _, _⟩ := (H.out.ok k hlt).tt
      rw [hvf] at c5
      rw [hvt] at c6
      obtain ⟨x, hx⟩ : ∃ x, x = (X k).f.length := ⟨_, rfl⟩
      obtain ⟨y, hy⟩ : ∃ x, x = (X k).tt.length := ⟨_, rfl⟩
      rw [← hx] at c5
      rw [← hy] at c6
      have HX := hid hx
      have HY := hid hy
      clear hx hy hvf hvt c0 c1 c2 c3 c4
      by_cases hx60 : 60 < x
      · have dx : decide ((60 : Int) < (x : Int)) = true := decide_eq_true (by omega)
        have dx' : decide (60 < x) = true := decide_eq_true hx60
        go_wp2
        go_ret
        exact ⟨true, rfl, (fun h => by cases h), _, rfl⟩
      · have dx : decide ((60 : Int) < (x : Int)) = false := decide_eq_false (by omega)
        have dx' : decide (60 < x) = false := decide_eq_false hx60
        by_cases hy60 : 60 < y
        · have dy : decide ((60 : Int) < (y : Int)) = true := decide_eq_true (by omega)
          have dy' : decide (60 < y) = true := decide_eq_true hy60
          go_wp2
          go_ret
          exact ⟨true, rfl, (fun h => by cases h), _, rfl⟩
        · have dy : decide ((60 : Int) < (y : Int)) = false := decide_eq_false (by omega)
          have dy' : decide (60 < y) = false := decide_eq_false hy60
          go_wp2
          go_roundw
          case rel => exact ⟨k + 1, _, by omega, by go_num, rfl, fun i hi => by
            by_cases hik : i = k
            · subst hik; rw [← HX.out, ← HY.out]; omega
            · exact HALL.out i (by omega)⟩
          case measure => simp [intOf]; omega
    · obtain rfl : k = n := by omega
      by_cases hn : 100 < k
      · have dn : decide ((100 : Int) < (k : Int)) = true := decide_eq_true (by omega)
        have dn' : decide (100 < k) = true := decide_eq_true hn
        go_wp2
        go_ret
        exact ⟨true, by first | rfl | (congr 2), (fun h => by cases h), _, rfl⟩
      · have dn : decide ((100 : Int) < (k : Int)) = false := decide_eq_false (by omega)
        have dn' : decide (100 < k) = false := decide_eq_false hn
        go_wp2
        go_ret
        exact ⟨false, by first | rfl | (congr 2), fun _ => ⟨by omega, HALL.out⟩, _, rfl⟩
end
end Go.Proofs.Ytnidadhoojbmeaa
