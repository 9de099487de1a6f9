/-
  The contracts of the reference's table: Add, Next, Last. Conditions: those that stand in each theorem.
-/
import Derived.Test.YthhgcjbmnkdgjaaG
import Derived.Test.YthhgcjbmnkdgjaaD
namespace Go.Proofs.Ythhgcjbmnkdgjaa
set_option linter.unusedVariables false
set_option linter.unusedSimpArgs false
open Go.RowKit

section
variable {g h wd : Nat} {L : List Nat} {w : World}
theorem r_add (T : RTab w g h wd L) (i d : Int) :
    Calls Try.prog 52 #[.pointer (some ⟨g, 0, none⟩), .int .i64 i, .int .i64 d] w fun e w' => e = .returned (.tuple #[.int .i64 (addV wd L i d), .int .i64 (addE L i d)]) ∧ RTab w' g h wd (addL wd L i d) ∧ Kp [h] w w' := by
  have bad : addOk L i d = false → addV wd L i d = 0 ∧ addE L i d = 1 ∧ addL wd L i d = L := fun hk => by simp [addV, addE, addL, hk]
  obtain ⟨c, hc⟩ := T.cell2
  have hc1 := T.cell1
  have hle := T.le
  rcases hb : hasB L i
  · obtain ⟨e0, e1, e2⟩ := bad (by simp [addOk, hb])
    rw [e0, e1, e2]
    clear e0 e1 e2 bad
    go_enter Try.func52, Try.ntmps52
    go_wp2_with (first | (go_at_call 44; refine (r_made T).mono ?_; rintro e w' ⟨rfl, n1, rfl⟩) | (go_at_call 66; refine (r_has (w := w.drewN _) T _).mono ?_; rintro e w' ⟨rfl, n2, rfl⟩))
    go_ret2
    exact ⟨rfl, T, (Kp.refl _ _).drewN _⟩
  by_cases hd1 : d < -255
  · obtain ⟨e0, e1, e2⟩ := bad (by simp [addOk, dB]; omega)
    rw [e0, e1, e2]
    clear e0 e1 e2 bad
    go_enter Try.func52, Try.ntmps52
    go_wp2_with (first | (go_at_call 44; refine (r_made T).mono ?_; rintro e w' ⟨rfl, n1, rfl⟩) | (go_at_call 66; refine (r_has (w := w.drewN _) T _).mono ?_; rintro e w' ⟨rfl, n2, rfl⟩))
    go_ret2
    exact ⟨rfl, T, (Kp.refl _ _).drewN _⟩
  by_cases hd2 : 255 < d
  · obtain ⟨e0, e1, e2⟩ := bad (by simp [addOk, dB]; omega)
    rw [e0, e1, e2]
    clear e0 e1 e2 bad
    go_enter Try.func52, Try.ntmps52
    go_wp2_with (first | (go_at_call 44; refine (r_made T).mono ?_; rintro e w' ⟨rfl, n1, rfl⟩) | (go_at_call 66; refine (r_has (w := w.drewN _) T _).mono ?_; rintro e w' ⟨rfl, n2, rfl⟩))
    go_ret2
    exact ⟨rfl, T, (Kp.refl _ _).drewN _⟩
  have hok : addOk L i d = true := by simp [addOk, dB, hb]; omega
  obtain ⟨k, rfl, hk⟩ := hasB_nat hb
  have e0 : addV wd L (k : Int) d = ((addN wd (ent L k) d : Nat) : Int) := by unfold addV; rw [hok]; rfl
  have e1 : addE L (k : Int) d = 0 := by unfold addE; rw [hok]; rfl
  have e2 : addL wd L (k : Int) d = L.set k (addN wd (ent L k) d) := by unfold addL; rw [hok]; rfl
  rw [e0, e1, e2]
  clear e0 e1 e2 hok bad
  have hM := most_lt T.wd_ok
  have hx : ent L k ≤ most wd := most_of_lt (T.lt k)
  have hcell := T.at_ hk
  have hfr := T.frozen k
  by_cases hs : ent L k = most wd
  · have e3 : addN wd (ent L k) d = ent L k := by unfold addN; rw [if_pos hs]
    rw [e3, set_self L k hk]
    clear e3
    have hs' : (((ent L k : Nat) : Int) != ((most wd : Nat) : Int)) = false := by rw [hs]; exact bne_self_eq_false _
    clear hs
    go_enter Try.func52, Try.ntmps52
    go_wp2_with (first | (go_at_call 44; refine (r_made T).mono ?_; rintro e w' ⟨rfl, n1, rfl⟩) | (go_at_call 66; refine (r_has (w := w.drewN _) T _).mono ?_; rintro e w' ⟨rfl, n2, rfl⟩))
    go_quiet (fail)
    go_wp2
    go_ret2
    exact ⟨rfl, T, (Kp.refl _ _).drewN _⟩
  · have e3 : ((addN wd (ent L k) d : Nat) : Int) = min (max ((ent L k : Int) + d) 0) ((most wd : Nat) : Int) := by unfold addN; rw [if_neg hs]; omega
    have hs' : (((ent L k : Nat) : Int) != ((most wd : Nat) : Int)) = true := bne_iff_ne.2 fun hh => hs (by omega)
    have HX : Hid (addN wd (ent L k) d < 2 ^ wd) := lt_of_most (addN_le d hx)
    generalize hy : addN wd (ent L k) d = y at e3 HX
    have hsum : IntKind.i64.wrap ((ent L k : Int) + d) = (ent L k : Int) + d := IntWalk.i64_in _ (by omega)
    clear hs hy
    have HE := hid e3
    clear e3
    go_enter Try.func52, Try.ntmps52
    go_wp2_with (first | (go_at_call 44; refine (r_made T).mono ?_; rintro e w' ⟨rfl, n1, rfl⟩) | (go_at_call 66; refine (r_has (w := w.drewN _) T _).mono ?_; rintro e w' ⟨rfl, n2, rfl⟩))
    go_quiet (fail)
    go_wp2
    go_region
    have hV : (if 0 < if (ent L k : Int) + d < ((most wd : Nat) : Int) then (ent L k : Int) + d else ((most wd : Nat) : Int) then if (ent L k : Int) + d < ((most wd : Nat) : Int) then (ent L k : Int) + d else ((most wd : Nat) : Int) else 0) = (y : Int) := by
      rw [HE.out]
      split <;> split <;> omega
    rw [hV]
    have T2 := (T.drewN (n1 + n2 + nq + 1)).store hk HX.out
    have K2 : Kp [h] w ((w.drewN (n1 + n2 + nq + 1)).setCell ⟨h, k, none⟩ (.int .i64 (y : Int))) := (Kp.draw w _).trans (Kp.cell _ _ _) (by simp) (by simp)
    generalize (w.drewN (n1 + n2 + nq + 1)).setCell ⟨h, k, none⟩ (.int .i64 (y : Int)) = W at T2 K2 ⊢
    clear hV hc hc1 hcell hfr hsum
    obtain ⟨c2, hc2⟩ := T2.cell2
    have hcell2 := T2.at_ (k := k) (by simpa using hk)
    rw [ent_set L k y k hk, if_pos rfl] at hcell2
    rw [List.length_set] at hc2
    go_wp2
    all_goals
      go_ret2
      exact ⟨rfl, T2, K2⟩
end
end Go.Proofs.Ythhgcjbmnkdgjaa
