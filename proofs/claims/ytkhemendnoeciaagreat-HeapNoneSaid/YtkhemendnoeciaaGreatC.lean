/-
  The contracts of package side's Get, Set, Swap, Add, Entries, Width, Fill: what each returns, and what the table reads as behind it. Conditions: those that stand in each theorem.
-/
import Derived.Test.YtkhemendnoeciaaGreatB
namespace Go.Proofs.YtkhemendnoeciaaGreat
set_option linter.unusedVariables false
set_option linter.unusedSimpArgs false
open Go.RowKit

section
variable {g h wd : Nat} {L : List Nat} {w : World}
theorem entries_any (T : STab w g h wd L) :
    Calls Tryz.prog 90 #[.pointer (some ⟨g, 0, none⟩)] w fun e w' => e = .returned (.int .i64 (L.length : Int)) ∧ ∃ m, w' = w.drewN m := by
  have hc := T.cell0
  go_enter Tryz.func90, Tryz.ntmps90
  go_wp2_with (go_at_call 107; refine (made_yes T).mono ?_; rintro e w' ⟨rfl, nq, rfl⟩)
  go_ret
  exact ⟨rfl, nq, rfl⟩
theorem get_any (T : STab w g h wd L) (i : Int) :
    Calls Tryz.prog 127 #[.pointer (some ⟨g, 0, none⟩), .int .i64 i] w fun e w' => e = .returned (.int .i64 (getS L i)) ∧ ∃ m, w' = w.drewN m := by
  rcases hb : hasB L i
  · have e1 : getS L i = -1 := by unfold getS; rw [hb]; rfl
    rw [e1]
    clear e1
    go_enter Tryz.func127, Tryz.ntmps127
    go_wp2_with (first | (go_at_call 107; refine (made_yes T).mono ?_; rintro e w' ⟨rfl, n1, rfl⟩) | (go_at_call 137; refine (has_any (w := w.drewN _) T _).mono ?_; rintro e w' ⟨rfl, n2, rfl⟩))
    go_ret
    exact ⟨rfl, _, rfl⟩
  · have e1 : getS L i = ((ent L i.toNat : Nat) : Int) := by unfold getS; rw [hb]; rfl
    rw [e1]
    obtain ⟨k, rfl, hk⟩ := hasB_nat hb
    clear e1
    go_enter Tryz.func127, Tryz.ntmps127
    go_wp2_with (first | (go_at_call 107; refine (made_yes T).mono ?_; rintro e w' ⟨rfl, n1, rfl⟩) | (go_at_call 137; refine (has_any (w := w.drewN _) T _).mono ?_; rintro e w' ⟨rfl, n2, rfl⟩) | (go_at_call 130; refine (load_ok (w := w.drewN _) T k hk).mono ?_; rintro e w' ⟨rfl, n5, rfl⟩))
    go_ret
    exact ⟨rfl, _, rfl⟩
theorem set_any (T : STab w g h wd L) (i v : Int) :
    Calls Tryz.prog 134 #[.pointer (some ⟨g, 0, none⟩), .int .i64 i, .int .i64 v] w fun e w' => e = .returned (.int .i64 (setE wd L i v)) ∧ STab w' g h wd (setL wd L i v) ∧ Kp [h] w w' := by
  rcases hb : hasB L i
  · have e1 : setE wd L i v = 1 := by simp [setE, setOk, hb]
    have e2 : setL wd L i v = L := by simp [setL, setOk, hb]
    rw [e1, e2]
    clear e1 e2
    go_enter Tryz.func134, Tryz.ntmps134
    go_wp2_with (first | (go_at_call 107; refine (made_yes T).mono ?_; rintro e w' ⟨rfl, n1, rfl⟩) | (go_at_call 137; refine (has_any (w := w.drewN _) T _).mono ?_; rintro e w' ⟨rfl, n2, rfl⟩))
    go_ret
    exact ⟨rfl, T, (Kp.refl _ _).drewN _⟩
  · rcases hf : fitsB wd v
    · have e1 : setE wd L i v = 1 := by simp [setE, setOk, hf]
      have e2 : setL wd L i v = L := by simp [setL, setOk, hf]
      rw [e1, e2]
      clear e1 e2
      go_enter Tryz.func134, Tryz.ntmps134
      go_wp2_with (first | (go_at_call 107; refine (made_yes T).mono ?_; rintro e w' ⟨rfl, n1, rfl⟩) | (go_at_call 137; refine (has_any (w := w.drewN _) T _).mono ?_; rintro e w' ⟨rfl, n2, rfl⟩) | (go_at_call 141; refine (fits_any (w := w.drewN _) T _).mono ?_; rintro e w' ⟨rfl, n3, rfl⟩))
      go_ret
      exact ⟨rfl, T, (Kp.refl _ _).drewN _⟩
    · have e1 : setE wd L i v = 0 := by simp [setE, setOk, hb, hf]
      have e2 : setL wd L i v = L.set i.toNat v.toNat := by simp [setL, setOk, hb, hf]
      rw [e1, e2]
      clear e1 e2
      obtain ⟨k, rfl, hk⟩ := hasB_nat hb
      obtain ⟨x, rfl, hx⟩ := fitsB_nat hf
      have HX := hid hx
      clear hx
      go_enter Tryz.func134, Tryz.ntmps134
      go_wp2_with (first | (go_at_call 107; refine (made_yes T).mono ?_; rintro e w' ⟨rfl, n1, rfl⟩) | (go_at_call 137; refine (has_any (w := w.drewN _) T _).mono ?_; rintro e w' ⟨rfl, n2, rfl⟩) | (go_at_call 141; refine (fits_any (w := w.drewN _) T _).mono ?_; rintro e w' ⟨rfl, n3, rfl⟩) | (go_at_call 142; refine (store_ok (w := w.drewN _) T k hk x HX.out).mono ?_; rintro e w' ⟨rfl, T', K'⟩))
      go_ret
      exact ⟨rfl, T', K'.from_drewN⟩
end
end Go.Proofs.YtkhemendnoeciaaGreat
