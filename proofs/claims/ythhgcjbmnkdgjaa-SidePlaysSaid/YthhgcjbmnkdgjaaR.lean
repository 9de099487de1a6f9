/-
  The contracts of slices.Equal at words, of package side's alike and Same, of the reference's Same. Conditions: those that stand in each theorem.
-/
import Derived.Test.YthhgcjbmnkdgjaaO
namespace Go.Proofs.Ythhgcjbmnkdgjaa
set_option linter.unusedVariables false
set_option linter.unusedSimpArgs false
open Go.RowKit Go.Deep

/-- Words that read as a list. -/
def WordsAt (w : World) (h : Nat) (ws : List Nat) : Prop := ∀ i, i < ws.length → w.cell? ⟨h, i, none⟩ = some (.int .u64 ((ws.getD i 0 : Nat) : Int))
theorem words_of {w : World} {h : Nat} {ws : List Nat} {sp : List Value} (b : Blk w h 79 (wcells ws ++ sp).toArray) : WordsAt w h ws := fun i hi => (b.cell i).trans (wcells_get hi)
set_option maxHeartbeats 1000000 in
theorem equal_words {w : World} {h h' c c' : Nat} {ws ws' : List Nat} (hw : WordsAt w h ws) (hw' : WordsAt w h' ws') (hlen : ws.length = ws'.length) (hl : ws.length ≤ 4096) :
    Calls Try.prog 61 #[.slice (some ⟨h, 0, none⟩) ws.length c, .slice (some ⟨h', 0, none⟩) ws'.length c'] w fun e w' => e = .returned (.bool (decide (ws = ws'))) ∧ ∃ m, w' = w.drewN m := by
  have HW := hid hw
  have HW' := hid hw'
  rw [← hlen]
  have HL := hid hlen
  clear hw hw' hlen
  go_enter Try.func61, Try.ntmps61
  go_wp2
  go_loopw [13] (fun c wr => ∃ k n : Nat, k ≤ ws.length ∧ Hid (∀ j : Nat, j < k → ws.getD j 0 = ws'.getD j 0) ∧ c = .int .i64 (k : Int) ∧ wr = w.drewN n) (fun c _ => ws.length - (intOf c).toNat)
  case atStart => exact ⟨0, 0, by omega, (fun j hj => absurd hj (by omega)), rfl, rfl⟩
  case round =>
    obtain ⟨k, n, hk, HE, rfl, rfl⟩ := hrel
    by_cases hlt : k < ws.length
    · have c0 := HW.out k hlt
      have c1 := HW'.out k (by have := HL.out; omega)
      by_cases he : ws.getD k 0 = ws'.getD k 0
      · have HE' : Hid (∀ j : Nat, j < k + 1 → ws.getD j 0 = ws'.getD j 0) := fun j hj => by
          by_cases hj' : j < k
          · exact HE.out j hj'
          · obtain rfl : j = k := by omega
            exact he
        rw [he] at c0
        generalize ws'.getD k 0 = x at c0 c1
        clear he
        go_wp2
        go_quiet (fail)
        go_wp2
        go_roundw
        case rel => exact ⟨k + 1, _, by omega, HE', by go_num, rfl⟩
        case measure => simp [intOf]; omega
      · have e : decide (ws = ws') = false := decide_eq_false fun hh => he (by rw [hh])
        have E := hid e
        have hne : (((ws.getD k 0 : Nat) : Int) != ((ws'.getD k 0 : Nat) : Int)) = true := bne_iff_ne.2 (by omega)
        generalize ws'.getD k 0 = x at c1 hne
        generalize ws.getD k 0 = y at c0 hne
        clear he e
        go_wp2
        go_quiet (fail)
        go_wp2
        go_ret
        rw [E.out]
        exact ⟨rfl, n + nq, by simp⟩
    · obtain rfl : k = ws.length := by omega
      have e : decide (ws = ws') = true := by
        refine decide_eq_true (List.ext_getElem HL.out fun j h1 h2 => ?_)
        have := HE.out j h1
        rw [List.getD_eq_getElem?_getD, List.getElem?_eq_getElem h1, List.getD_eq_getElem?_getD, List.getElem?_eq_getElem h2] at this
        exact this
      have E := hid e
      clear e
      go_wp2
      go_ret
      rw [E.out]
      exact ⟨rfl, _, rfl⟩

section
variable {w : World} {g h wd g' h' wd' : Nat} {L L' : List Nat}
set_option maxHeartbeats 1000000 in
theorem alike_any (T : STab w g h wd L) (T' : STab w g' h' wd' L') :
    Calls Try.prog 45 #[.pointer (some ⟨g, 0, none⟩), .pointer (some ⟨g', 0, none⟩)] w fun e w' => e = .returned (.bool (decide (L.length = L'.length) && decide (wd = wd'))) ∧ ∃ m, w' = w.drewN m := by
  have c0 := T.cell0
  have c1 := T.cell1
  have d0 := T'.cell0
  have d1 := T'.cell1
  by_cases h1 : L.length = L'.length
  · have g1 : (((L.length : Nat) : Int) == ((L'.length : Nat) : Int)) = true := by rw [h1]; exact beq_self_eq_true _
    by_cases h2 : wd = wd'
    · have g2 : (((wd : Nat) : Int) == ((wd' : Nat) : Int)) = true := by rw [h2]; exact beq_self_eq_true _
      rw [decide_eq_true h1, decide_eq_true h2]
      generalize L.length = n at *
      generalize L'.length = n' at *
      clear h1 h2
      go_enter Try.func45, Try.ntmps45
      go_wp2_with (fail)
      go_quiet ((first | (go_at_call 42; exact Calls.quiet_of (made_yes (w := w.drewN _) T)) | (go_at_call 42; exact Calls.quiet_of (made_yes (w := w.drewN _) T'))))
      go_wp2
      go_ret
      exact ⟨rfl, _, rfl⟩
    · have g2 : (((wd : Nat) : Int) == ((wd' : Nat) : Int)) = false := beq_eq_false_iff_ne.2 (by omega)
      rw [decide_eq_true h1, decide_eq_false h2]
      generalize L.length = n at *
      generalize L'.length = n' at *
      clear h1 h2
      go_enter Try.func45, Try.ntmps45
      go_wp2_with (fail)
      go_quiet ((first | (go_at_call 42; exact Calls.quiet_of (made_yes (w := w.drewN _) T)) | (go_at_call 42; exact Calls.quiet_of (made_yes (w := w.drewN _) T'))))
      go_wp2
      go_ret
      exact ⟨rfl, _, rfl⟩
  · have g1 : (((L.length : Nat) : Int) == ((L'.length : Nat) : Int)) = false := beq_eq_false_iff_ne.2 (by omega)
    rw [decide_eq_false h1, Bool.false_and]
    generalize L.length = n at *
    generalize L'.length = n' at *
    clear h1
    go_enter Try.func45, Try.ntmps45
    go_wp2_with (fail)
    go_quiet ((first | (go_at_call 42; exact Calls.quiet_of (made_yes (w := w.drewN _) T)) | (go_at_call 42; exact Calls.quiet_of (made_yes (w := w.drewN _) T'))))
    go_wp2
    go_ret
    exact ⟨rfl, _, rfl⟩

/-- Are two tables the same. -/
def sameB (wd : Nat) (L : List Nat) (wd' : Nat) (L' : List Nat) : Bool := decide (L.length = L'.length) && decide (wd = wd') && decide (L = L')
set_option maxHeartbeats 1000000 in
theorem same_any (T : STab w g h wd L) (T' : STab w g' h' wd' L') :
    Calls Try.prog 27 #[.pointer (some ⟨g, 0, none⟩), .pointer (some ⟨g', 0, none⟩)] w fun e w' => e = .returned (.bool (sameB wd L wd' L')) ∧ ∃ m, w' = w.drewN m := by
  have T0 := T
  have T0' := T'
  rcases hal : decide (L.length = L'.length) && decide (wd = wd')
  · have e : sameB wd L wd' L' = false := by unfold sameB; rw [hal]; rfl
    rw [e]
    have AL : Hid (∀ n, Calls Try.prog 45 #[.pointer (some ⟨g, 0, none⟩), .pointer (some ⟨g', 0, none⟩)] (w.drewN n) fun e w' => e = .returned (.bool false) ∧ ∃ m, w' = (w.drewN n).drewN m) := fun n => by
      have := alike_any (w := w.drewN n) T0 T0'
      rw [hal] at this
      exact this
    clear e hal T T'
    go_enter Try.func27, Try.ntmps27
    go_wp2_with (fail)
    go_quiet ((go_at_call 45; exact Calls.quiet_of (AL.out _)))
    go_wp2
    go_ret
    exact ⟨rfl, _, rfl⟩
  · obtain ⟨ws, c, sp, E, l1, l2, l3, l4, l5, b1, b2⟩ := T
    obtain ⟨ws', c', sp', E', l1', l2', l3', l4', l5', b1', b2'⟩ := T'
    have hal' := hal
    simp only [Bool.and_eq_true, decide_eq_true_eq] at hal'
    obtain ⟨e1, e2⟩ := hal'
    have hlen : ws.length = ws'.length := by rw [E.len, E'.len, e1, e2]
    have hlen2 : ws.length ≤ 4096 := by rw [E.len]; have := Nat.mul_le_mul l2 E.wd_ok.le; omega
    have hq : decide (ws = ws') = decide (L = L') := by
      subst e2
      refine decide_eq_decide.2 ⟨?_, ?_⟩
      · rintro rfl
        exact E.inj E' e1
      · rintro rfl
        exact E.ext E'
    have e : sameB wd L wd' L' = decide (ws = ws') := by unfold sameB; rw [hal, hq]; rfl
    rw [e]
    have c2 : w.cell? ⟨g, 2, none⟩ = some (.slice (some ⟨h, 0, none⟩) ws.length c) := b1.cell 2
    have d2 : w.cell? ⟨g', 2, none⟩ = some (.slice (some ⟨h', 0, none⟩) ws'.length c') := b1'.cell 2
    have HW := hid (words_of b2)
    have HW' := hid (words_of b2')
    have AL : Hid (∀ n, Calls Try.prog 45 #[.pointer (some ⟨g, 0, none⟩), .pointer (some ⟨g', 0, none⟩)] (w.drewN n) fun e w' => e = .returned (.bool true) ∧ ∃ m, w' = (w.drewN n).drewN m) := fun n => by
      have := alike_any (w := w.drewN n) T0 T0'
      rw [hal] at this
      exact this
    have HL := hid hlen
    clear e hal hq e1 e2 E E' b1 b2 b1' b2' l5 l5' hlen
    go_enter Try.func27, Try.ntmps27
    go_wp2_with (fail)
    go_quiet ((first | (go_at_call 45; exact Calls.quiet_of (AL.out _)) | (go_at_call 61; exact Calls.quiet_of (equal_words (w := w.drewN _) HW.out HW'.out HL.out hlen2))))
    go_wp2
    go_ret
    exact ⟨rfl, _, rfl⟩
end
end Go.Proofs.Ythhgcjbmnkdgjaa
