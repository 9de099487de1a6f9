/-
  The contracts of package side's small functions, over a table that reads as a list of entries: what each returns, and what becomes of the table. Conditions: those that stand in each theorem.
-/
import Derived.Test.YtkhemendnoeciaaGreatU
import Derived.Test.YtkhemendnoeciaaGreatN
import Derived.WalkKit
import Derived.WalkSpells
import Derived.WalkLawsBesides
import Derived.Deep.QuietTactic
import Derived.BigQuiet
import Derived.Laws.BitsAllLaws
import Derived.BigRegion
namespace Go.Proofs.YtkhemendnoeciaaGreat
set_option linter.unusedVariables false
set_option linter.unusedSimpArgs false
open Go.RowKit



section
variable {w w' : World} {g : Nat} {t : TypeId} {cs : Array Value}
end

def wcells (ws : List Nat) : List Value := ws.map fun (x : Nat) => .int .u64 (x : Int)
def icells (L : List Nat) : List Value := L.map fun (x : Nat) => .int .i64 (x : Int)

/-- A table of package side at block g, its words in block h: it reads as the entries L of width wd. -/
def STab (w : World) (g h wd : Nat) (L : List Nat) : Prop :=
  ∃ (ws : List Nat) (c : Nat) (sp : List Value), Enc wd ws L ∧ 1 ≤ L.length ∧ L.length ≤ 4096 ∧ ws.length ≤ c ∧ c ≤ maxLen ∧ (wcells ws ++ sp).length = c ∧
    Blk w g 98 #[.int .i64 (L.length : Int), .int .i64 (wd : Int), .slice (some ⟨h, 0, none⟩) ws.length c] ∧ Blk w h 100 (wcells ws ++ sp).toArray

section
variable {w w' : World} {g h wd : Nat} {L : List Nat}
theorem STab.kp {S : List Nat} (T : STab w g h wd L) (k : Kp S w w') (hg : g ∉ S) (hh : h ∉ S) : STab w' g h wd L := by
  obtain ⟨ws, c, sp, h1, h2, h3, h4, h5, h6, b1, b2⟩ := T
  exact ⟨ws, c, sp, h1, h2, h3, h4, h5, h6, b1.kp k hg, b2.kp k hh⟩
theorem STab.wd_ok (T : STab w g h wd L) : Wd wd := by
  obtain ⟨ws, c, sp, h1, _⟩ := T
  exact h1.wd_ok
theorem STab.pos (T : STab w g h wd L) : 0 < L.length := by
  obtain ⟨ws, c, sp, _, h1, _⟩ := T
  exact h1
theorem STab.le (T : STab w g h wd L) : L.length ≤ 4096 := by
  obtain ⟨ws, c, sp, _, _, h1, _⟩ := T
  exact h1
theorem STab.lt (T : STab w g h wd L) (i : Nat) : ent L i < 2 ^ wd := by
  obtain ⟨ws, c, sp, h1, _⟩ := T
  exact h1.lt i
theorem STab.cell0 (T : STab w g h wd L) : w.cell? ⟨g, 0, none⟩ = some (.int .i64 (L.length : Int)) := by
  obtain ⟨ws, c, sp, _, _, _, _, _, _, b1, _⟩ := T
  exact b1.cell 0
theorem STab.cell1 (T : STab w g h wd L) : w.cell? ⟨g, 1, none⟩ = some (.int .i64 (wd : Int)) := by
  obtain ⟨ws, c, sp, _, _, _, _, _, _, b1, _⟩ := T
  exact b1.cell 1
theorem STab.g_lt (T : STab w g h wd L) : g < w.heap.size := by
  obtain ⟨ws, c, sp, _, _, _, _, _, _, b1, _⟩ := T
  exact b1.lt
theorem STab.h_lt (T : STab w g h wd L) : h < w.heap.size := by
  obtain ⟨ws, c, sp, _, _, _, _, _, _, _, b1⟩ := T
  exact b1.lt
end


theorem made_yes {g h wd : Nat} {L : List Nat} {w : World} (T : STab w g h wd L) :
    Calls Tryz.prog 107 #[.pointer (some ⟨g, 0, none⟩)] w fun e w' => e = .returned (.bool true) ∧ ∃ m, w' = w.drewN m := by
  have hc := T.cell0
  have hp := T.pos
  clear T
  go_enter Tryz.func107, Tryz.ntmps107
  go_wp2
  go_ret
  exact ⟨rfl, 0, rfl⟩
theorem made_nil (w : World) : Calls Tryz.prog 107 #[.pointer none] w fun e w' => e = .returned (.bool false) ∧ ∃ m, w' = w.drewN m := by
  go_enter Tryz.func107, Tryz.ntmps107
  go_wp2
  go_ret
  exact ⟨rfl, 0, rfl⟩
theorem made_zero {g : Nat} {w : World} (hc : w.cell? ⟨g, 0, none⟩ = some (.int .i64 0)) :
    Calls Tryz.prog 107 #[.pointer (some ⟨g, 0, none⟩)] w fun e w' => e = .returned (.bool false) ∧ ∃ m, w' = w.drewN m := by
  go_enter Tryz.func107, Tryz.ntmps107
  go_wp2
  go_ret
  exact ⟨rfl, 0, rfl⟩
theorem greatest_any {g h wd : Nat} {L : List Nat} {w : World} (T : STab w g h wd L) :
    Calls Tryz.prog 139 #[.pointer (some ⟨g, 0, none⟩)] w fun e w' => e = .returned (.int .i64 (most wd : Nat)) ∧ ∃ m, w' = w.drewN m := by
  have hc := T.cell1
  rcases T.wd_ok with rfl | rfl | rfl | rfl
  all_goals
    clear T
    go_enter Tryz.func139, Tryz.ntmps139
    go_wp2
    go_ret
    exact ⟨rfl, 0, rfl⟩
theorem has_yes {g h wd : Nat} {L : List Nat} {w : World} (T : STab w g h wd L) (i : Int) (h0 : 0 ≤ i) (h1 : i < L.length) :
    Calls Tryz.prog 137 #[.pointer (some ⟨g, 0, none⟩), .int .i64 i] w fun e w' => e = .returned (.bool true) ∧ ∃ m, w' = w.drewN m := by
  have hc := T.cell0
  clear T
  go_enter Tryz.func137, Tryz.ntmps137
  go_wp2
  go_ret
  exact ⟨rfl, 0, rfl⟩
theorem has_no {g h wd : Nat} {L : List Nat} {w : World} (T : STab w g h wd L) (i : Int) (hn : ¬ (0 ≤ i ∧ i < L.length)) :
    Calls Tryz.prog 137 #[.pointer (some ⟨g, 0, none⟩), .int .i64 i] w fun e w' => e = .returned (.bool false) ∧ ∃ m, w' = w.drewN m := by
  have hc := T.cell0
  clear T
  by_cases h0 : 0 ≤ i
  · have h1 : ¬ i < L.length := fun h => hn ⟨h0, h⟩
    clear hn
    go_enter Tryz.func137, Tryz.ntmps137
    go_wp2
    go_ret
    exact ⟨rfl, 0, rfl⟩
  · clear hn
    go_enter Tryz.func137, Tryz.ntmps137
    go_wp2
    go_ret
    exact ⟨rfl, 0, rfl⟩
theorem fits_yes {g h wd : Nat} {L : List Nat} {w : World} (T : STab w g h wd L) (v : Int) (h0 : 0 ≤ v) (h1 : v ≤ (most wd : Nat)) :
    Calls Tryz.prog 141 #[.pointer (some ⟨g, 0, none⟩), .int .i64 v] w fun e w' => e = .returned (.bool true) ∧ ∃ m, w' = w.drewN m := by
  go_enter Tryz.func141, Tryz.ntmps141
  go_wp2_with (go_at_call 139; refine (greatest_any T).mono ?_; rintro e w' ⟨rfl, nq, rfl⟩)
  go_ret
  exact ⟨rfl, nq, rfl⟩
theorem fits_no {g h wd : Nat} {L : List Nat} {w : World} (T : STab w g h wd L) (v : Int) (hn : ¬ (0 ≤ v ∧ v ≤ (most wd : Nat))) :
    Calls Tryz.prog 141 #[.pointer (some ⟨g, 0, none⟩), .int .i64 v] w fun e w' => e = .returned (.bool false) ∧ ∃ m, w' = w.drewN m := by
  by_cases h0 : 0 ≤ v
  · have h1 : decide (v ≤ ((most wd : Nat) : Int)) = false := decide_eq_false fun h => hn ⟨h0, h⟩
    clear hn
    go_enter Tryz.func141, Tryz.ntmps141
    go_wp2_with (go_at_call 139; refine (greatest_any T).mono ?_; rintro e w' ⟨rfl, nq, rfl⟩)
    go_ret
    exact ⟨rfl, nq, rfl⟩
  · clear hn
    go_enter Tryz.func141, Tryz.ntmps141
    go_wp2
    go_ret
    exact ⟨rfl, 0, rfl⟩
theorem has_any {g h wd : Nat} {L : List Nat} {w : World} (T : STab w g h wd L) (i : Int) :
    Calls Tryz.prog 137 #[.pointer (some ⟨g, 0, none⟩), .int .i64 i] w fun e w' => e = .returned (.bool (hasB L i)) ∧ ∃ m, w' = w.drewN m := by
  rcases hb : hasB L i
  · exact has_no T i (of_decide_eq_false hb)
  · exact has_yes T i (of_decide_eq_true hb).1 (of_decide_eq_true hb).2
theorem fits_any {g h wd : Nat} {L : List Nat} {w : World} (T : STab w g h wd L) (v : Int) :
    Calls Tryz.prog 141 #[.pointer (some ⟨g, 0, none⟩), .int .i64 v] w fun e w' => e = .returned (.bool (fitsB wd v)) ∧ ∃ m, w' = w.drewN m := by
  rcases hb : fitsB wd v
  · exact fits_no T v (of_decide_eq_false hb)
  · exact fits_yes T v (of_decide_eq_true hb).1 (of_decide_eq_true hb).2
theorem covers_any {g h wd : Nat} {L : List Nat} {w : World} (T : STab w g h wd L) (a n : Int) :
    Calls Tryz.prog 140 #[.pointer (some ⟨g, 0, none⟩), .int .i64 a, .int .i64 n] w fun e w' => e = .returned (.bool (coversB L a n)) ∧ ∃ m, w' = w.drewN m := by
  have hc := T.cell0
  have hl := T.le
  rcases hb : hasB L a
  · have e1 : coversB L a n = false := decide_eq_false fun hh => of_decide_eq_false hb ⟨hh.1, hh.2.1⟩
    rw [e1]
    clear e1
    go_enter Tryz.func140, Tryz.ntmps140
    go_wp2_with (go_at_call 137; refine (has_any T _).mono ?_; rintro e w' ⟨rfl, n2, rfl⟩)
    go_ret
    exact ⟨rfl, _, rfl⟩
  · obtain ⟨k, rfl, hk⟩ := hasB_nat hb
    by_cases h1 : 1 ≤ n
    · by_cases h2 : n ≤ (L.length : Int) - (k : Int)
      · have e1 : coversB L (k : Int) n = true := decide_eq_true ⟨by omega, by omega, h1, h2⟩
        rw [e1]
        clear e1
        go_enter Tryz.func140, Tryz.ntmps140
        go_wp2_with (go_at_call 137; refine (has_any T _).mono ?_; rintro e w' ⟨rfl, n2, rfl⟩)
        go_ret
        exact ⟨rfl, _, rfl⟩
      · have e1 : coversB L (k : Int) n = false := decide_eq_false fun hh => h2 hh.2.2.2
        have e2 : decide (n ≤ (L.length : Int) - (k : Int)) = false := decide_eq_false h2
        rw [e1]
        clear e1
        go_enter Tryz.func140, Tryz.ntmps140
        go_wp2_with (go_at_call 137; refine (has_any T _).mono ?_; rintro e w' ⟨rfl, n2, rfl⟩)
        go_ret
        exact ⟨rfl, _, rfl⟩
    · have e1 : coversB L (k : Int) n = false := decide_eq_false fun hh => h1 hh.2.2.1
      have e2 : decide (1 ≤ n) = false := decide_eq_false h1
      rw [e1]
      clear e1
      go_enter Tryz.func140, Tryz.ntmps140
      go_wp2_with (go_at_call 137; refine (has_any T _).mono ?_; rintro e w' ⟨rfl, n2, rfl⟩)
      go_ret
      exact ⟨rfl, _, rfl⟩
end Go.Proofs.YtkhemendnoeciaaGreat
