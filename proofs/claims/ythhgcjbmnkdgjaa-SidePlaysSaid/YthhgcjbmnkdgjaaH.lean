/-
  The contracts of the reference's table: Fill, Add, Count. Conditions: those that stand in each theorem.
-/
import Derived.Test.YthhgcjbmnkdgjaaG
namespace Go.Proofs.Ythhgcjbmnkdgjaa
set_option linter.unusedVariables false
set_option linter.unusedSimpArgs false
open Go.RowKit

section
variable {g h wd : Nat} {L : List Nat} {w : World}
set_option maxHeartbeats 1000000 in
theorem r_fill (T : RTab w g h wd L) (a n v : Int) :
    Calls Try.prog 50 #[.pointer (some ⟨g, 0, none⟩), .int .i64 a, .int .i64 n, .int .i64 v] w fun e w' => e = .returned (.int .i64 (fillE wd L a n v)) ∧ RTab w' g h wd (fillL wd L a n v) ∧ Kp [h] w w' := by
  have bad : fillOk wd L a n v = false → fillE wd L a n v = 1 ∧ fillL wd L a n v = L := fun hk => by simp [fillE, fillL, hk]
  obtain ⟨c, hc⟩ := T.cell2
  have hle := T.le
  have hbad : coversB L a n = false → fillOk wd L a n v = false := fun hk => by simp [fillOk, hk]
  by_cases c1 : a < 0
  · obtain ⟨e0, e1⟩ := bad (hbad (decide_eq_false (by omega)))
    rw [e0, e1]
    clear e0 e1 bad hbad
    go_enter Try.func50, Try.ntmps50
    go_wp2_with (first | (go_at_call 44; refine (r_made T).mono ?_; rintro e w' ⟨rfl, n1, rfl⟩))
    go_ret
    exact ⟨rfl, T, (Kp.refl _ _).drewN _⟩
  by_cases c2 : n < 1
  · obtain ⟨e0, e1⟩ := bad (hbad (decide_eq_false (by omega)))
    rw [e0, e1]
    clear e0 e1 bad hbad
    go_enter Try.func50, Try.ntmps50
    go_wp2_with (first | (go_at_call 44; refine (r_made T).mono ?_; rintro e w' ⟨rfl, n1, rfl⟩))
    go_ret
    exact ⟨rfl, T, (Kp.refl _ _).drewN _⟩
  by_cases c3 : (L.length : Int) ≤ a
  · obtain ⟨e0, e1⟩ := bad (hbad (decide_eq_false (by omega)))
    rw [e0, e1]
    clear e0 e1 bad hbad
    go_enter Try.func50, Try.ntmps50
    go_wp2_with (first | (go_at_call 44; refine (r_made T).mono ?_; rintro e w' ⟨rfl, n1, rfl⟩))
    go_ret
    exact ⟨rfl, T, (Kp.refl _ _).drewN _⟩
  by_cases c4 : (L.length : Int) - a < n
  · obtain ⟨e0, e1⟩ := bad (hbad (decide_eq_false (by omega)))
    rw [e0, e1]
    clear e0 e1 bad hbad
    go_enter Try.func50, Try.ntmps50
    go_wp2_with (first | (go_at_call 44; refine (r_made T).mono ?_; rintro e w' ⟨rfl, n1, rfl⟩))
    go_ret
    exact ⟨rfl, T, (Kp.refl _ _).drewN _⟩
  rcases hf : fitsB wd v
  · obtain ⟨e0, e1⟩ := bad (by simp [fillOk, hf])
    rw [e0, e1]
    clear e0 e1 bad hbad
    go_enter Try.func50, Try.ntmps50
    go_wp2_with (first | (go_at_call 44; refine (r_made T).mono ?_; rintro e w' ⟨rfl, n1, rfl⟩) | (go_at_call 67; refine (r_may (w := w.drewN _) T _).mono ?_; rintro e w' ⟨rfl, n3, rfl⟩))
    go_ret
    exact ⟨rfl, T, (Kp.refl _ _).drewN _⟩
  · have hb : coversB L a n = true := decide_eq_true ⟨by omega, by omega, by omega, by omega⟩
    have e0 : fillE wd L a n v = 0 := by simp [fillE, fillOk, hb, hf]
    have e1 : fillL wd L a n v = fillN L a.toNat n.toNat v.toNat := by simp [fillL, fillOk, hb, hf]
    rw [e0, e1]
    clear e0 e1 bad hbad hb
    obtain ⟨i, rfl⟩ : ∃ i : Nat, a = (i : Int) := ⟨a.toNat, by omega⟩
    obtain ⟨z, rfl⟩ : ∃ z : Nat, n = (z : Int) := ⟨n.toNat, by omega⟩
    obtain ⟨x, rfl, hx⟩ := fitsB_nat hf
    have HX := hid hx
    have hz : i + z ≤ L.length := by omega
    clear hx
    simp only [Int.toNat_natCast]
    go_enter Try.func50, Try.ntmps50
    go_wp2_with (first | (go_at_call 44; refine (r_made T).mono ?_; rintro e w' ⟨rfl, n1, rfl⟩) | (go_at_call 67; refine (r_may (w := w.drewN _) T _).mono ?_; rintro e w' ⟨rfl, n3, rfl⟩))
    go_loopw [9] (fun s wr => ∃ j k : Nat, Hid (j = i + k) ∧ k ≤ z ∧ s = .int .i64 (j : Int) ∧ RTab wr g h wd (fillN L i k x) ∧ Kp [h] w wr) (fun s _ => i + z - (intOf s).toNat)
    case atStart => exact ⟨i, 0, rfl, by omega, rfl, T, (Kp.refl _ _).drewN _⟩
    case round =>
      obtain ⟨j, k, HJ, hk, rfl, T1, K1⟩ := hrel
      obtain ⟨c', hc'⟩ := T1.cell2
      rw [fillN_length] at hc'
      clear T hc
      by_cases hlt : j < i + z
      · have HIN : Hid (j < (fillN L i k x).length) := by show _ < _; rw [fillN_length]; omega
        have hcell := T1.at_ HIN.out
        have hfr := T1.frozen j
        have hj : j < L.length := by omega
        have HK : Hid (k + 1 ≤ z) := by have := HJ.out; show _ ≤ _; omega
        clear hk c1 c2 c3 c4
        go_wp2
        go_roundw
        case rel => exact ⟨j + 1, k + 1, by have := HJ.out; show _ = _; omega, HK.out, by go_num, by have h3 := T1.store HIN.out HX.out; rw [HJ.out] at h3 ⊢; exact h3, K1.trans (Kp.cell _ _ _) (by simp) (by simp)⟩
        case measure => simp [intOf]; omega
      · obtain rfl : k = z := by have := HJ.out; omega
        clear c1 c2 c3 c4
        go_wp2
        go_ret
        exact ⟨rfl, T1, K1⟩
theorem r_count (T : RTab w g h wd L) (v : Int) :
    Calls Try.prog 58 #[.pointer (some ⟨g, 0, none⟩), .int .i64 v] w fun e w' => e = .returned (.int .i64 ((cntN (isV L v) L.length : Nat) : Int)) ∧ ∃ m, w' = w.drewN m := by
  obtain ⟨c, hc⟩ := T.cell2
  have hle := T.le
  go_enter Try.func58, Try.ntmps58
  go_wp2
  go_loopw [5, 6] (fun s c wr => ∃ k n : Nat, k ≤ L.length ∧ c = .int .i64 (k : Int) ∧ s = .int .i64 ((cntN (isV L v) k : Nat) : Int) ∧ wr = w.drewN n) (fun _ c _ => L.length - (intOf c).toNat)
  case atStart => exact ⟨0, 0, by omega, rfl, rfl, rfl⟩
  case round =>
    obtain ⟨k, n, hk, rfl, rfl, rfl⟩ := hrel
    have hcnt := cntN_le (isV L v) k
    by_cases hlt : k < L.length
    · have hcell := T.at_ hlt
      by_cases hv : ((ent L k : Nat) : Int) = v
      · have e := cntN_yes (isV_yes hv)
        have HE := hid e
        have hv' : (((ent L k : Nat) : Int) == v) = true := by rw [hv]; exact beq_self_eq_true _
        clear e hv
        go_wp2_with (go_at_call 55; refine (r_entries (w := w.drewN _) T).mono ?_; rintro e w' ⟨rfl, n4, rfl⟩)
        go_roundw
        case rel => exact ⟨k + 1, _, by omega, by go_num, by rw [HE.out]; go_num, rfl⟩
        case measure => simp [intOf]; omega
      · have e := cntN_no (isV_no hv)
        have HE := hid e
        have hv' : (((ent L k : Nat) : Int) == v) = false := beq_eq_false_iff_ne.2 hv
        clear e hv
        go_wp2_with (go_at_call 55; refine (r_entries (w := w.drewN _) T).mono ?_; rintro e w' ⟨rfl, n4, rfl⟩)
        go_roundw
        case rel => exact ⟨k + 1, _, by omega, by go_num, by rw [HE.out], rfl⟩
        case measure => simp [intOf]; omega
    · obtain rfl : k = L.length := by omega
      go_wp2_with (go_at_call 55; refine (r_entries (w := w.drewN _) T).mono ?_; rintro e w' ⟨rfl, n4, rfl⟩)
      go_ret
      exact ⟨rfl, _, rfl⟩
end
end Go.Proofs.Ythhgcjbmnkdgjaa
