/-
  The contracts of package side's Swap and Add: what each returns, and what the table reads as behind it. Conditions: those that stand in each theorem.
-/
import Derived.Test.YthhgcjbmnkdgjaaC
namespace Go.Proofs.Ythhgcjbmnkdgjaa
set_option linter.unusedVariables false
set_option linter.unusedSimpArgs false
open Go.RowKit

section
variable {g h wd : Nat} {L : List Nat} {w : World}
theorem swap_any (T : STab w g h wd L) (i o v : Int) :
    Calls Try.prog 38 #[.pointer (some ⟨g, 0, none⟩), .int .i64 i, .int .i64 o, .int .i64 v] w fun e w' => e = .returned (.tuple #[.bool (swapB wd L i o v), .int .i64 (swapE wd L i o v)]) ∧ STab w' g h wd (swapL wd L i o v) ∧ Kp [h] w w' := by
  have bad : swapOk wd L i o v = false → swapB wd L i o v = false ∧ swapE wd L i o v = 1 ∧ swapL wd L i o v = L := fun hk => by simp [swapB, swapE, swapL, hk]
  rcases hb : hasB L i
  · obtain ⟨e0, e1, e2⟩ := bad (by simp [swapOk, hb])
    rw [e0, e1, e2]
    clear e0 e1 e2 bad
    go_enter Try.func38, Try.ntmps38
    go_wp2_with (first | (go_at_call 42; refine (made_yes T).mono ?_; rintro e w' ⟨rfl, n1, rfl⟩) | (go_at_call 60; refine (has_any (w := w.drewN _) T _).mono ?_; rintro e w' ⟨rfl, n2, rfl⟩))
    go_ret2
    exact ⟨rfl, T, (Kp.refl _ _).drewN _⟩
  · rcases hf : fitsB wd o
    · obtain ⟨e0, e1, e2⟩ := bad (by simp [swapOk, hf])
      rw [e0, e1, e2]
      clear e0 e1 e2 bad
      go_enter Try.func38, Try.ntmps38
      go_wp2_with (first | (go_at_call 42; refine (made_yes T).mono ?_; rintro e w' ⟨rfl, n1, rfl⟩) | (go_at_call 60; refine (has_any (w := w.drewN _) T _).mono ?_; rintro e w' ⟨rfl, n2, rfl⟩) | (go_at_call 62; refine (fits_any (w := w.drewN _) T _).mono ?_; rintro e w' ⟨rfl, n3, rfl⟩))
      go_ret2
      exact ⟨rfl, T, (Kp.refl _ _).drewN _⟩
    · rcases hf2 : fitsB wd v
      · obtain ⟨e0, e1, e2⟩ := bad (by simp [swapOk, hf2])
        rw [e0, e1, e2]
        clear e0 e1 e2 bad
        go_enter Try.func38, Try.ntmps38
        go_wp2_with (first | (go_at_call 42; refine (made_yes T).mono ?_; rintro e w' ⟨rfl, n1, rfl⟩) | (go_at_call 60; refine (has_any (w := w.drewN _) T _).mono ?_; rintro e w' ⟨rfl, n2, rfl⟩) | (go_at_call 62; refine (fits_any (w := w.drewN _) T _).mono ?_; rintro e w' ⟨rfl, n3, rfl⟩))
        go_ret2
        exact ⟨rfl, T, (Kp.refl _ _).drewN _⟩
      · have hok : swapOk wd L i o v = true := by simp [swapOk, hb, hf, hf2]
        have e1 : swapE wd L i o v = 0 := by simp [swapE, hok]
        rw [e1]
        clear e1 bad
        obtain ⟨k, rfl, hk⟩ := hasB_nat hb
        by_cases hs : ((ent L k : Nat) : Int) = o
        · have e0 : swapB wd L (k : Int) o v = true := by unfold swapB; rw [hok]; exact decide_eq_true hs
          have e2 : swapL wd L (k : Int) o v = L.set k v.toNat := by unfold swapL; rw [e0]; rfl
          rw [e0, e2]
          clear e0 e2 hok
          obtain ⟨x, rfl, hx⟩ := fitsB_nat hf2
          have HX := hid hx
          have hs' : (((ent L k : Nat) : Int) != o) = false := by rw [hs]; exact bne_self_eq_false _
          clear hs hx
          go_enter Try.func38, Try.ntmps38
          go_wp2_with (first | (go_at_call 42; refine (made_yes T).mono ?_; rintro e w' ⟨rfl, n1, rfl⟩) | (go_at_call 60; refine (has_any (w := w.drewN _) T _).mono ?_; rintro e w' ⟨rfl, n2, rfl⟩) | (go_at_call 62; refine (fits_any (w := w.drewN _) T _).mono ?_; rintro e w' ⟨rfl, n3, rfl⟩) | (go_at_call 48; refine (load_ok (w := w.drewN _) T k hk).mono ?_; rintro e w' ⟨rfl, n5, rfl⟩) | (go_at_call 46; refine (store_ok (w := w.drewN _) T k hk x HX.out).mono ?_; rintro e w' ⟨rfl, T', K'⟩))
          go_ret2
          exact ⟨rfl, T', K'.from_drewN⟩
        · have e0 : swapB wd L (k : Int) o v = false := by unfold swapB; rw [hok]; exact decide_eq_false hs
          have e2 : swapL wd L (k : Int) o v = L := by unfold swapL; rw [e0]; rfl
          rw [e0, e2]
          clear e0 e2 hok
          have hs' : (((ent L k : Nat) : Int) != o) = true := bne_iff_ne.2 hs
          clear hs
          go_enter Try.func38, Try.ntmps38
          go_wp2_with (first | (go_at_call 42; refine (made_yes T).mono ?_; rintro e w' ⟨rfl, n1, rfl⟩) | (go_at_call 60; refine (has_any (w := w.drewN _) T _).mono ?_; rintro e w' ⟨rfl, n2, rfl⟩) | (go_at_call 62; refine (fits_any (w := w.drewN _) T _).mono ?_; rintro e w' ⟨rfl, n3, rfl⟩) | (go_at_call 48; refine (load_ok (w := w.drewN _) T k hk).mono ?_; rintro e w' ⟨rfl, n5, rfl⟩))
          go_ret2
          exact ⟨rfl, T, (Kp.refl _ _).drewN _⟩
theorem set_self (L : List Nat) (k : Nat) (hk : k < L.length) : L.set k (ent L k) = L := by
  apply List.ext_getElem (by simp)
  intro j h1 h2
  by_cases hj : k = j
  · subst hj; simp [ent, hk]
  · rw [List.getElem_set_ne hj]
theorem add_any (T : STab w g h wd L) (i d : Int) :
    Calls Try.prog 37 #[.pointer (some ⟨g, 0, none⟩), .int .i64 i, .int .i64 d] w fun e w' => e = .returned (.tuple #[.int .i64 (addV wd L i d), .int .i64 (addE L i d)]) ∧ STab w' g h wd (addL wd L i d) ∧ Kp [h] w w' := by
  have bad : addOk L i d = false → addV wd L i d = 0 ∧ addE L i d = 1 ∧ addL wd L i d = L := fun hk => by simp [addV, addE, addL, hk]
  rcases hb : hasB L i
  · obtain ⟨e0, e1, e2⟩ := bad (by simp [addOk, hb])
    rw [e0, e1, e2]
    clear e0 e1 e2 bad
    go_enter Try.func37, Try.ntmps37
    go_wp2_with (first | (go_at_call 42; refine (made_yes T).mono ?_; rintro e w' ⟨rfl, n1, rfl⟩) | (go_at_call 60; refine (has_any (w := w.drewN _) T _).mono ?_; rintro e w' ⟨rfl, n2, rfl⟩))
    go_ret2
    exact ⟨rfl, T, (Kp.refl _ _).drewN _⟩
  · by_cases hd1 : d < -255
    · obtain ⟨e0, e1, e2⟩ := bad (by simp [addOk, dB]; omega)
      rw [e0, e1, e2]
      clear e0 e1 e2 bad
      go_enter Try.func37, Try.ntmps37
      go_wp2_with (first | (go_at_call 42; refine (made_yes T).mono ?_; rintro e w' ⟨rfl, n1, rfl⟩) | (go_at_call 60; refine (has_any (w := w.drewN _) T _).mono ?_; rintro e w' ⟨rfl, n2, rfl⟩))
      go_ret2
      exact ⟨rfl, T, (Kp.refl _ _).drewN _⟩
    · by_cases hd2 : 255 < d
      · obtain ⟨e0, e1, e2⟩ := bad (by simp [addOk, dB]; omega)
        rw [e0, e1, e2]
        clear e0 e1 e2 bad
        go_enter Try.func37, Try.ntmps37
        go_wp2_with (first | (go_at_call 42; refine (made_yes T).mono ?_; rintro e w' ⟨rfl, n1, rfl⟩) | (go_at_call 60; refine (has_any (w := w.drewN _) T _).mono ?_; rintro e w' ⟨rfl, n2, rfl⟩))
        go_ret2
        exact ⟨rfl, T, (Kp.refl _ _).drewN _⟩
      · have hok : addOk L i d = true := by simp [addOk, dB, hb]; omega
        obtain ⟨k, rfl, hk⟩ := hasB_nat hb
        have e0 : addV wd L (k : Int) d = ((addN wd (ent L k) d : Nat) : Int) := by unfold addV; rw [hok]; rfl
        have e1 : addE L (k : Int) d = 0 := by unfold addE; rw [hok]; rfl
        have e2 : addL wd L (k : Int) d = L.set k (addN wd (ent L k) d) := by unfold addL; rw [hok]; rfl
        rw [e0, e1, e2]
        clear e0 e1 e2 hok bad
        have hM := most_lt T.wd_ok
        have hx : ent L k ≤ most wd := most_of_lt (T.lt k)
        by_cases hs : ent L k = most wd
        · have e3 : addN wd (ent L k) d = ent L k := by unfold addN; rw [if_pos hs]
          rw [e3, set_self L k hk]
          clear e3
          have hs' : (((ent L k : Nat) : Int) == ((most wd : Nat) : Int)) = true := by rw [hs]; exact beq_self_eq_true _
          clear hs
          go_enter Try.func37, Try.ntmps37
          go_wp2_with (first | (go_at_call 42; refine (made_yes T).mono ?_; rintro e w' ⟨rfl, n1, rfl⟩) | (go_at_call 60; refine (has_any (w := w.drewN _) T _).mono ?_; rintro e w' ⟨rfl, n2, rfl⟩) | (go_at_call 48; refine (load_ok (w := w.drewN _) T k hk).mono ?_; rintro e w' ⟨rfl, n5, rfl⟩) | (go_at_call 65; refine (greatest_any (w := w.drewN _) T).mono ?_; rintro e w' ⟨rfl, n4, rfl⟩))
          go_ret2
          exact ⟨rfl, T, (Kp.refl _ _).drewN _⟩
        · have e3 : ((addN wd (ent L k) d : Nat) : Int) = min (max ((ent L k : Int) + d) 0) ((most wd : Nat) : Int) := by unfold addN; rw [if_neg hs]; omega
          have hs' : (((ent L k : Nat) : Int) == ((most wd : Nat) : Int)) = false := beq_eq_false_iff_ne.2 fun hh => hs (by omega)
          have HX : Hid (addN wd (ent L k) d < 2 ^ wd) := lt_of_most (addN_le d hx)
          generalize hy : addN wd (ent L k) d = y at e3 HX
          clear hs hy
          by_cases c1 : (ent L k : Int) + d < 0
          · obtain rfl : y = 0 := by omega
            clear e3
            go_enter Try.func37, Try.ntmps37
            go_wp2_with (first | (go_at_call 42; refine (made_yes T).mono ?_; rintro e w' ⟨rfl, n1, rfl⟩) | (go_at_call 60; refine (has_any (w := w.drewN _) T _).mono ?_; rintro e w' ⟨rfl, n2, rfl⟩) | (go_at_call 48; refine (load_ok (w := w.drewN _) T k hk).mono ?_; rintro e w' ⟨rfl, n5, rfl⟩) | (go_at_call 65; refine (greatest_any (w := w.drewN _) T).mono ?_; rintro e w' ⟨rfl, n4, rfl⟩) | (go_at_call 46; refine (store_ok (w := w.drewN _) T k hk 0 HX.out).mono ?_; rintro e w' ⟨rfl, T', K'⟩))
            go_ret2
            exact ⟨rfl, T', K'.from_drewN⟩
          · by_cases c2 : ((most wd : Nat) : Int) < (ent L k : Int) + d
            · obtain rfl : y = most wd := by omega
              clear e3
              go_enter Try.func37, Try.ntmps37
              go_wp2_with (first | (go_at_call 42; refine (made_yes T).mono ?_; rintro e w' ⟨rfl, n1, rfl⟩) | (go_at_call 60; refine (has_any (w := w.drewN _) T _).mono ?_; rintro e w' ⟨rfl, n2, rfl⟩) | (go_at_call 48; refine (load_ok (w := w.drewN _) T k hk).mono ?_; rintro e w' ⟨rfl, n5, rfl⟩) | (go_at_call 65; refine (greatest_any (w := w.drewN _) T).mono ?_; rintro e w' ⟨rfl, n4, rfl⟩) | (go_at_call 46; refine (store_ok (w := w.drewN _) T k hk (most wd) HX.out).mono ?_; rintro e w' ⟨rfl, T', K'⟩))
              go_ret2
              exact ⟨rfl, T', K'.from_drewN⟩
            · have HE : Hid (((ent L k : Nat) : Int) + d = (y : Int)) := by show _ = _; omega
              clear e3
              go_enter Try.func37, Try.ntmps37
              go_wp2_with (first | (go_at_call 42; refine (made_yes T).mono ?_; rintro e w' ⟨rfl, n1, rfl⟩) | (go_at_call 60; refine (has_any (w := w.drewN _) T _).mono ?_; rintro e w' ⟨rfl, n2, rfl⟩) | (go_at_call 48; refine (load_ok (w := w.drewN _) T k hk).mono ?_; rintro e w' ⟨rfl, n5, rfl⟩) | (go_at_call 65; refine (greatest_any (w := w.drewN _) T).mono ?_; rintro e w' ⟨rfl, n4, rfl⟩) | (go_at_call 46; rw [HE.out]; refine (store_ok (w := w.drewN _) T k hk y HX.out).mono ?_; rintro e w' ⟨rfl, T', K'⟩))
              go_ret2
              exact ⟨rfl, T', K'.from_drewN⟩
end
end Go.Proofs.Ythhgcjbmnkdgjaa
