/-
  The contracts of the reference's table: its small functions, Get, Set, Swap, over a table that reads as a list of entries. Conditions: those that stand in each theorem.
-/
import Derived.Test.YthhgcjbmnkdgjaaB
namespace Go.Proofs.Ythhgcjbmnkdgjaa
set_option linter.unusedVariables false
set_option linter.unusedSimpArgs false
open Go.RowKit

/-- A table of the reference at block g, its list in block h: it reads as the entries L of width wd. -/
def RTab (w : World) (g h wd : Nat) (L : List Nat) : Prop :=
  ∃ (c : Nat) (sp : List Value), Wd wd ∧ (∀ i, ent L i < 2 ^ wd) ∧ 1 ≤ L.length ∧ L.length ≤ 4096 ∧ L.length ≤ c ∧ c ≤ maxLen ∧ (icells L ++ sp).length = c ∧
    Blk w g 77 #[.int .i64 (wd : Int), .int .i64 ((most wd : Nat) : Int), .slice (some ⟨h, 0, none⟩) L.length c] ∧ Blk w h 3 (icells L ++ sp).toArray

section
variable {w w' : World} {g h wd : Nat} {L : List Nat}
theorem RTab.kp {S : List Nat} (T : RTab w g h wd L) (k : Kp S w w') (hg : g ∉ S) (hh : h ∉ S) : RTab w' g h wd L := by
  obtain ⟨c, sp, h1, h2, h3, h4, h5, h6, h7, b1, b2⟩ := T
  exact ⟨c, sp, h1, h2, h3, h4, h5, h6, h7, b1.kp k hg, b2.kp k hh⟩
theorem RTab.wd_ok (T : RTab w g h wd L) : Wd wd := by
  obtain ⟨c, sp, h1, _⟩ := T
  exact h1
theorem RTab.pos (T : RTab w g h wd L) : 0 < L.length := by
  obtain ⟨c, sp, _, _, h1, _⟩ := T
  exact h1
theorem RTab.le (T : RTab w g h wd L) : L.length ≤ 4096 := by
  obtain ⟨c, sp, _, _, _, h1, _⟩ := T
  exact h1
theorem RTab.lt (T : RTab w g h wd L) (i : Nat) : ent L i < 2 ^ wd := by
  obtain ⟨c, sp, _, h1, _⟩ := T
  exact h1 i
theorem RTab.g_lt (T : RTab w g h wd L) : g < w.heap.size := by
  obtain ⟨c, sp, _, _, _, _, _, _, _, b1, _⟩ := T
  exact b1.lt
theorem RTab.h_lt (T : RTab w g h wd L) : h < w.heap.size := by
  obtain ⟨c, sp, _, _, _, _, _, _, _, _, b1⟩ := T
  exact b1.lt
theorem RTab.cell0 (T : RTab w g h wd L) : w.cell? ⟨g, 0, none⟩ = some (.int .i64 (wd : Int)) := by
  obtain ⟨c, sp, _, _, _, _, _, _, _, b1, _⟩ := T
  exact b1.cell 0
theorem RTab.cell1 (T : RTab w g h wd L) : w.cell? ⟨g, 1, none⟩ = some (.int .i64 ((most wd : Nat) : Int)) := by
  obtain ⟨c, sp, _, _, _, _, _, _, _, b1, _⟩ := T
  exact b1.cell 1
theorem RTab.cell2 (T : RTab w g h wd L) : ∃ c, w.cell? ⟨g, 2, none⟩ = some (.slice (some ⟨h, 0, none⟩) L.length c) := by
  obtain ⟨c, sp, _, _, _, _, _, _, _, b1, _⟩ := T
  exact ⟨c, b1.cell 2⟩
theorem RTab.at_ (T : RTab w g h wd L) {k : Nat} (hk : k < L.length) : w.cell? ⟨h, k, none⟩ = some (.int .i64 ((ent L k : Nat) : Int)) := by
  obtain ⟨c, sp, _, _, _, _, _, _, _, _, b2⟩ := T
  exact (b2.cell k).trans (icells_get hk)
theorem RTab.frozen (T : RTab w g h wd L) (k : Nat) : w.frozen? ⟨h, k, none⟩ = false := by
  obtain ⟨c, sp, _, _, _, _, _, _, _, _, b2⟩ := T
  exact b2.frozen k
theorem RTab.gh (T : RTab w g h wd L) : g ≠ h := by
  obtain ⟨c, sp, _, _, _, _, _, _, _, b1, b2⟩ := T
  exact b1.ne_ b2 (by decide)
theorem RTab.drewN (T : RTab w g h wd L) (n : Nat) : RTab (w.drewN n) g h wd L := T
theorem STab.drewN (T : STab w g h wd L) (n : Nat) : STab (w.drewN n) g h wd L := T
theorem RTab.store (T : RTab w g h wd L) {k v : Nat} (hk : k < L.length) (hv : v < 2 ^ wd) : RTab (w.setCell ⟨h, k, none⟩ (.int .i64 (v : Int))) g h wd (L.set k v) := by
  have hne := T.gh
  obtain ⟨c, sp, h1, h2, h3, h4, h5, h6, h7, b1, b2⟩ := T
  refine ⟨c, sp, h1, fun i => ?_, by simpa using h3, by simpa using h4, by simpa using h5, h6, by simpa [icells] using h7, ?_, ?_⟩
  · rw [ent_set L k v i hk]
    split
    · exact hv
    · exact h2 i
  · have := b1.kp (Kp.cell w ⟨h, k, none⟩ (.int .i64 (v : Int))) (by simpa using hne)
    simpa using this
  · have := b2.set_ k (.int .i64 (v : Int))
    rw [icells_set hk] at this
    exact this

theorem r_made (T : RTab w g h wd L) :
    Calls Try.prog 44 #[.pointer (some ⟨g, 0, none⟩)] w fun e w' => e = .returned (.bool true) ∧ ∃ m, w' = w.drewN m := by
  have hc := T.cell0
  have hp : 0 < wd := T.wd_ok.pos
  clear T
  go_enter Try.func44, Try.ntmps44
  go_wp2
  go_ret
  exact ⟨rfl, 0, rfl⟩
theorem r_made_nil (w : World) : Calls Try.prog 44 #[.pointer none] w fun e w' => e = .returned (.bool false) ∧ ∃ m, w' = w.drewN m := by
  go_enter Try.func44, Try.ntmps44
  go_wp2
  go_ret
  exact ⟨rfl, 0, rfl⟩
theorem r_entries (T : RTab w g h wd L) :
    Calls Try.prog 55 #[.pointer (some ⟨g, 0, none⟩)] w fun e w' => e = .returned (.int .i64 (L.length : Int)) ∧ ∃ m, w' = w.drewN m := by
  obtain ⟨c, hc⟩ := T.cell2
  go_enter Try.func55, Try.ntmps55
  go_wp2_with (go_at_call 44; refine (r_made T).mono ?_; rintro e w' ⟨rfl, n1, rfl⟩)
  go_ret
  exact ⟨rfl, _, rfl⟩
theorem r_width (T : RTab w g h wd L) :
    Calls Try.prog 56 #[.pointer (some ⟨g, 0, none⟩)] w fun e w' => e = .returned (.int .i64 (wd : Int)) ∧ ∃ m, w' = w.drewN m := by
  have hc := T.cell0
  go_enter Try.func56, Try.ntmps56
  go_wp2_with (go_at_call 44; refine (r_made T).mono ?_; rintro e w' ⟨rfl, n1, rfl⟩)
  go_ret
  exact ⟨rfl, _, rfl⟩
theorem r_has (T : RTab w g h wd L) (i : Int) :
    Calls Try.prog 66 #[.pointer (some ⟨g, 0, none⟩), .int .i64 i] w fun e w' => e = .returned (.bool (hasB L i)) ∧ ∃ m, w' = w.drewN m := by
  obtain ⟨c, hc⟩ := T.cell2
  by_cases h0 : 0 ≤ i
  · by_cases h1 : i < (L.length : Int)
    · have e1 : hasB L i = true := decide_eq_true ⟨h0, h1⟩
      rw [e1]
      clear e1
      go_enter Try.func66, Try.ntmps66
      go_wp2_with (go_at_call 44; refine (r_made T).mono ?_; rintro e w' ⟨rfl, n1, rfl⟩)
      go_ret
      exact ⟨rfl, _, rfl⟩
    · have e1 : hasB L i = false := decide_eq_false fun hh => h1 hh.2
      have h1' : decide (i < (L.length : Int)) = false := decide_eq_false h1
      rw [e1]
      clear e1 h1
      go_enter Try.func66, Try.ntmps66
      go_wp2_with (go_at_call 44; refine (r_made T).mono ?_; rintro e w' ⟨rfl, n1, rfl⟩)
      go_ret
      exact ⟨rfl, _, rfl⟩
  · have e1 : hasB L i = false := decide_eq_false fun hh => h0 hh.1
    have h1' : decide (0 ≤ i) = false := decide_eq_false h0
    rw [e1]
    clear e1 h0
    go_enter Try.func66, Try.ntmps66
    go_wp2_with (go_at_call 44; refine (r_made T).mono ?_; rintro e w' ⟨rfl, n1, rfl⟩)
    go_ret
    exact ⟨rfl, _, rfl⟩
theorem r_may (T : RTab w g h wd L) (v : Int) :
    Calls Try.prog 67 #[.pointer (some ⟨g, 0, none⟩), .int .i64 v] w fun e w' => e = .returned (.bool (fitsB wd v)) ∧ ∃ m, w' = w.drewN m := by
  have hc := T.cell1
  by_cases h0 : 0 ≤ v
  · by_cases h1 : v ≤ ((most wd : Nat) : Int)
    · have e1 : fitsB wd v = true := decide_eq_true ⟨h0, h1⟩
      rw [e1]
      clear e1
      go_enter Try.func67, Try.ntmps67
      go_wp2
      go_ret
      exact ⟨rfl, 0, rfl⟩
    · have e1 : fitsB wd v = false := decide_eq_false fun hh => h1 hh.2
      have h1' : decide (v ≤ ((most wd : Nat) : Int)) = false := decide_eq_false h1
      rw [e1]
      clear e1 h1
      go_enter Try.func67, Try.ntmps67
      go_wp2
      go_ret
      exact ⟨rfl, 0, rfl⟩
  · have e1 : fitsB wd v = false := decide_eq_false fun hh => h0 hh.1
    have h1' : decide (0 ≤ v) = false := decide_eq_false h0
    rw [e1]
    clear e1 h0
    go_enter Try.func67, Try.ntmps67
    go_wp2
    go_ret
    exact ⟨rfl, 0, rfl⟩
theorem r_get (T : RTab w g h wd L) (i : Int) :
    Calls Try.prog 57 #[.pointer (some ⟨g, 0, none⟩), .int .i64 i] w fun e w' => e = .returned (.int .i64 (getS L i)) ∧ ∃ m, w' = w.drewN m := by
  obtain ⟨c, hc⟩ := T.cell2
  rcases hb : hasB L i
  · have e1 : getS L i = -1 := by unfold getS; rw [hb]; rfl
    rw [e1]
    clear e1
    go_enter Try.func57, Try.ntmps57
    go_wp2_with (go_at_call 66; refine (r_has (w := w) T _).mono ?_; rintro e w' ⟨rfl, n2, rfl⟩)
    go_ret
    exact ⟨rfl, _, rfl⟩
  · have e1 : getS L i = ((ent L i.toNat : Nat) : Int) := by unfold getS; rw [hb]; rfl
    rw [e1]
    obtain ⟨k, rfl, hk⟩ := hasB_nat hb
    have hx := T.at_ hk
    clear e1
    go_enter Try.func57, Try.ntmps57
    go_wp2_with (go_at_call 66; refine (r_has (w := w) T _).mono ?_; rintro e w' ⟨rfl, n2, rfl⟩)
    go_ret
    exact ⟨rfl, _, rfl⟩
theorem r_set (T : RTab w g h wd L) (i v : Int) :
    Calls Try.prog 49 #[.pointer (some ⟨g, 0, none⟩), .int .i64 i, .int .i64 v] w fun e w' => e = .returned (.int .i64 (setE wd L i v)) ∧ RTab w' g h wd (setL wd L i v) ∧ Kp [h] w w' := by
  obtain ⟨c, hc⟩ := T.cell2
  rcases hb : hasB L i
  · have e1 : setE wd L i v = 1 := by simp [setE, setOk, hb]
    have e2 : setL wd L i v = L := by simp [setL, setOk, hb]
    rw [e1, e2]
    clear e1 e2
    go_enter Try.func49, Try.ntmps49
    go_wp2_with (first | (go_at_call 44; refine (r_made T).mono ?_; rintro e w' ⟨rfl, n1, rfl⟩) | (go_at_call 66; refine (r_has (w := w.drewN _) T _).mono ?_; rintro e w' ⟨rfl, n2, rfl⟩))
    go_ret
    exact ⟨rfl, T, (Kp.refl _ _).drewN _⟩
  · rcases hf : fitsB wd v
    · have e1 : setE wd L i v = 1 := by simp [setE, setOk, hf]
      have e2 : setL wd L i v = L := by simp [setL, setOk, hf]
      rw [e1, e2]
      clear e1 e2
      go_enter Try.func49, Try.ntmps49
      go_wp2_with (first | (go_at_call 44; refine (r_made T).mono ?_; rintro e w' ⟨rfl, n1, rfl⟩) | (go_at_call 66; refine (r_has (w := w.drewN _) T _).mono ?_; rintro e w' ⟨rfl, n2, rfl⟩) | (go_at_call 67; refine (r_may (w := w.drewN _) T _).mono ?_; rintro e w' ⟨rfl, n3, rfl⟩))
      go_ret
      exact ⟨rfl, T, (Kp.refl _ _).drewN _⟩
    · have e1 : setE wd L i v = 0 := by simp [setE, setOk, hb, hf]
      have e2 : setL wd L i v = L.set i.toNat v.toNat := by simp [setL, setOk, hb, hf]
      rw [e1, e2]
      clear e1 e2
      obtain ⟨k, rfl, hk⟩ := hasB_nat hb
      obtain ⟨x, rfl, hx⟩ := fitsB_nat hf
      have HX := hid hx
      have hcell := T.at_ hk
      have hfr := T.frozen k
      clear hx
      go_enter Try.func49, Try.ntmps49
      go_wp2_with (first | (go_at_call 44; refine (r_made T).mono ?_; rintro e w' ⟨rfl, n1, rfl⟩) | (go_at_call 66; refine (r_has (w := w.drewN _) T _).mono ?_; rintro e w' ⟨rfl, n2, rfl⟩) | (go_at_call 67; refine (r_may (w := w.drewN _) T _).mono ?_; rintro e w' ⟨rfl, n3, rfl⟩))
      go_ret
      exact ⟨rfl, (T.drewN _).store hk HX.out, (Kp.draw w _).trans (Kp.cell _ _ _) (by simp) (by simp)⟩
theorem r_swap (T : RTab w g h wd L) (i o v : Int) :
    Calls Try.prog 51 #[.pointer (some ⟨g, 0, none⟩), .int .i64 i, .int .i64 o, .int .i64 v] w fun e w' => e = .returned (.tuple #[.bool (swapB wd L i o v), .int .i64 (swapE wd L i o v)]) ∧ RTab w' g h wd (swapL wd L i o v) ∧ Kp [h] w w' := by
  obtain ⟨c, hc⟩ := T.cell2
  have bad : swapOk wd L i o v = false → swapB wd L i o v = false ∧ swapE wd L i o v = 1 ∧ swapL wd L i o v = L := fun hk => by simp [swapB, swapE, swapL, hk]
  rcases hb : hasB L i
  · obtain ⟨e0, e1, e2⟩ := bad (by simp [swapOk, hb])
    rw [e0, e1, e2]
    clear e0 e1 e2 bad
    go_enter Try.func51, Try.ntmps51
    go_wp2_with (first | (go_at_call 44; refine (r_made T).mono ?_; rintro e w' ⟨rfl, n1, rfl⟩) | (go_at_call 66; refine (r_has (w := w.drewN _) T _).mono ?_; rintro e w' ⟨rfl, n2, rfl⟩))
    go_ret2
    exact ⟨rfl, T, (Kp.refl _ _).drewN _⟩
  · rcases hf : fitsB wd o
    · obtain ⟨e0, e1, e2⟩ := bad (by simp [swapOk, hf])
      rw [e0, e1, e2]
      clear e0 e1 e2 bad
      go_enter Try.func51, Try.ntmps51
      go_wp2_with (first | (go_at_call 44; refine (r_made T).mono ?_; rintro e w' ⟨rfl, n1, rfl⟩) | (go_at_call 66; refine (r_has (w := w.drewN _) T _).mono ?_; rintro e w' ⟨rfl, n2, rfl⟩) | (go_at_call 67; refine (r_may (w := w.drewN _) T _).mono ?_; rintro e w' ⟨rfl, n3, rfl⟩))
      go_ret2
      exact ⟨rfl, T, (Kp.refl _ _).drewN _⟩
    · rcases hf2 : fitsB wd v
      · obtain ⟨e0, e1, e2⟩ := bad (by simp [swapOk, hf2])
        rw [e0, e1, e2]
        clear e0 e1 e2 bad
        go_enter Try.func51, Try.ntmps51
        go_wp2_with (first | (go_at_call 44; refine (r_made T).mono ?_; rintro e w' ⟨rfl, n1, rfl⟩) | (go_at_call 66; refine (r_has (w := w.drewN _) T _).mono ?_; rintro e w' ⟨rfl, n2, rfl⟩) | (go_at_call 67; refine (r_may (w := w.drewN _) T _).mono ?_; rintro e w' ⟨rfl, n3, rfl⟩))
        go_ret2
        exact ⟨rfl, T, (Kp.refl _ _).drewN _⟩
      · have hok : swapOk wd L i o v = true := by simp [swapOk, hb, hf, hf2]
        have e1 : swapE wd L i o v = 0 := by simp [swapE, hok]
        rw [e1]
        clear e1 bad
        obtain ⟨k, rfl, hk⟩ := hasB_nat hb
        have hcell := T.at_ hk
        have hfr := T.frozen k
        by_cases hs : ((ent L k : Nat) : Int) = o
        · have e0 : swapB wd L (k : Int) o v = true := by unfold swapB; rw [hok]; exact decide_eq_true hs
          have e2 : swapL wd L (k : Int) o v = L.set k v.toNat := by unfold swapL; rw [e0]; rfl
          rw [e0, e2]
          clear e0 e2 hok
          obtain ⟨x, rfl, hx⟩ := fitsB_nat hf2
          have HX := hid hx
          have hs' : (((ent L k : Nat) : Int) != o) = false := by rw [hs]; exact bne_self_eq_false _
          clear hs hx
          go_enter Try.func51, Try.ntmps51
          go_wp2_with (first | (go_at_call 44; refine (r_made T).mono ?_; rintro e w' ⟨rfl, n1, rfl⟩) | (go_at_call 66; refine (r_has (w := w.drewN _) T _).mono ?_; rintro e w' ⟨rfl, n2, rfl⟩) | (go_at_call 67; refine (r_may (w := w.drewN _) T _).mono ?_; rintro e w' ⟨rfl, n3, rfl⟩))
          go_ret2
          exact ⟨rfl, (T.drewN _).store hk HX.out, (Kp.draw w _).trans (Kp.cell _ _ _) (by simp) (by simp)⟩
        · have e0 : swapB wd L (k : Int) o v = false := by unfold swapB; rw [hok]; exact decide_eq_false hs
          have e2 : swapL wd L (k : Int) o v = L := by unfold swapL; rw [e0]; rfl
          rw [e0, e2]
          clear e0 e2 hok
          have hs' : (((ent L k : Nat) : Int) != o) = true := bne_iff_ne.2 hs
          clear hs
          go_enter Try.func51, Try.ntmps51
          go_wp2_with (first | (go_at_call 44; refine (r_made T).mono ?_; rintro e w' ⟨rfl, n1, rfl⟩) | (go_at_call 66; refine (r_has (w := w.drewN _) T _).mono ?_; rintro e w' ⟨rfl, n2, rfl⟩) | (go_at_call 67; refine (r_may (w := w.drewN _) T _).mono ?_; rintro e w' ⟨rfl, n3, rfl⟩))
          go_ret2
          exact ⟨rfl, T, (Kp.refl _ _).drewN _⟩
end
end Go.Proofs.Ythhgcjbmnkdgjaa
