/-
  The contract of package side's Fill: what it returns, and what the table reads as behind it. Conditions: those that stand in each theorem.
-/
import Derived.Test.YtkhemendnoeciaaGreatC
namespace Go.Proofs.YtkhemendnoeciaaGreat
set_option linter.unusedVariables false
set_option linter.unusedSimpArgs false
open Go.RowKit

section
variable {g h wd : Nat} {L : List Nat} {w : World}
theorem fill_any (T : STab w g h wd L) (a n v : Int) :
    Calls Tryz.prog 133 #[.pointer (some ⟨g, 0, none⟩), .int .i64 a, .int .i64 n, .int .i64 v] w fun e w' => e = .returned (.int .i64 (fillE wd L a n v)) ∧ STab w' g h wd (fillL wd L a n v) ∧ Kp [h] w w' := by
  have bad : fillOk wd L a n v = false → fillE wd L a n v = 1 ∧ fillL wd L a n v = L := fun hk => by simp [fillE, fillL, hk]
  rcases hb : coversB L a n
  · obtain ⟨e0, e1⟩ := bad (by simp [fillOk, hb])
    rw [e0, e1]
    clear e0 e1 bad
    go_enter Tryz.func133, Tryz.ntmps133
    go_wp2_with (first | (go_at_call 107; refine (made_yes T).mono ?_; rintro e w' ⟨rfl, n1, rfl⟩) | (go_at_call 140; refine (covers_any (w := w.drewN _) T _ _).mono ?_; rintro e w' ⟨rfl, n3, rfl⟩))
    go_ret
    exact ⟨rfl, T, (Kp.refl _ _).drewN _⟩
  · rcases hf : fitsB wd v
    · obtain ⟨e0, e1⟩ := bad (by simp [fillOk, hf])
      rw [e0, e1]
      clear e0 e1 bad
      go_enter Tryz.func133, Tryz.ntmps133
      go_wp2_with (first | (go_at_call 107; refine (made_yes T).mono ?_; rintro e w' ⟨rfl, n1, rfl⟩) | (go_at_call 140; refine (covers_any (w := w.drewN _) T _ _).mono ?_; rintro e w' ⟨rfl, n3, rfl⟩) | (go_at_call 141; refine (fits_any (w := w.drewN _) T _).mono ?_; rintro e w' ⟨rfl, n3, rfl⟩))
      go_ret
      exact ⟨rfl, T, (Kp.refl _ _).drewN _⟩
    · have e0 : fillE wd L a n v = 0 := by simp [fillE, fillOk, hb, hf]
      have e1 : fillL wd L a n v = fillN L a.toNat n.toNat v.toNat := by simp [fillL, fillOk, hb, hf]
      rw [e0, e1]
      clear e0 e1 bad
      have hc := of_decide_eq_true hb
      have hle := T.le
      obtain ⟨i, rfl⟩ : ∃ i : Nat, a = (i : Int) := ⟨a.toNat, by omega⟩
      obtain ⟨z, rfl⟩ : ∃ z : Nat, n = (z : Int) := ⟨n.toNat, by omega⟩
      obtain ⟨x, rfl, hx⟩ := fitsB_nat hf
      have HX := hid hx
      have hz : i + z ≤ L.length := by omega
      clear hx hc
      simp only [Int.toNat_natCast]
      have TT := hid T
      go_enter Tryz.func133, Tryz.ntmps133
      go_wp2_with (first | (go_at_call 107; refine (made_yes T).mono ?_; rintro e w' ⟨rfl, n1, rfl⟩) | (go_at_call 140; refine (covers_any (w := w.drewN _) T _ _).mono ?_; rintro e w' ⟨rfl, n3, rfl⟩) | (go_at_call 141; refine (fits_any (w := w.drewN _) T _).mono ?_; rintro e w' ⟨rfl, n3, rfl⟩))
      go_loopw [25] (fun c wr => ∃ k : Nat, k ≤ z ∧ c = .int .i64 (k : Int) ∧ STab wr g h wd (fillN L i k x) ∧ Kp [h] w wr) (fun c _ => z - (intOf c).toNat)
      case atStart => exact ⟨0, by omega, rfl, T, (Kp.refl _ _).drewN _⟩
      case round =>
        obtain ⟨k, hk, rfl, T1, K1⟩ := hrel
        by_cases hlt : k < z
        · have HIN : Hid (i + k < (fillN L i k x).length) := by show _ < _; rw [fillN_length]; omega
          clear T TT
          go_wp2_with (go_at_call 142; refine (store_ok T1 (i + k) HIN.out x HX.out).mono ?_; rintro e w' ⟨rfl, T', K'⟩)
          go_roundw
          case rel => exact ⟨k + 1, by omega, by go_num, T', K1.trans K' (by simp) (by simp)⟩
          case measure => simp [intOf]; omega
        · obtain rfl : k = z := by omega
          clear T TT
          go_wp2
          go_ret
          exact ⟨rfl, T1, K1⟩

theorem count_any (T : STab w g h wd L) (v : Int) :
    Calls Tryz.prog 93 #[.pointer (some ⟨g, 0, none⟩), .int .i64 v] w fun e w' => e = .returned (.int .i64 ((cntN (isV L v) L.length : Nat) : Int)) ∧ ∃ m, w' = w.drewN m := by
  have hc := T.cell0
  have hle := T.le
  go_enter Tryz.func93, Tryz.ntmps93
  go_wp2_with (first | (go_at_call 107; refine (made_yes T).mono ?_; rintro e w' ⟨rfl, n1, rfl⟩))
  go_loopw [5, 14] (fun s c wr => ∃ k n : Nat, k ≤ L.length ∧ c = .int .i64 (k : Int) ∧ s = .int .i64 ((cntN (isV L v) k : Nat) : Int) ∧ wr = w.drewN n) (fun _ c _ => L.length - (intOf c).toNat)
  case atStart => exact ⟨0, _, by omega, rfl, rfl, rfl⟩
  case round =>
    obtain ⟨k, n, hk, rfl, rfl, rfl⟩ := hrel
    have hcnt := cntN_le (isV L v) k
    by_cases hlt : k < L.length
    · by_cases hv : ((ent L k : Nat) : Int) = v
      · have e := cntN_yes (isV_yes hv)
        have HE := hid e
        have hv' : (((ent L k : Nat) : Int) == v) = true := by rw [hv]; exact beq_self_eq_true _
        clear e hv
        go_wp2_with (go_at_call 130; refine (load_ok (w := w.drewN _) T k hlt).mono ?_; rintro e w' ⟨rfl, n5, rfl⟩)
        go_roundw
        case rel => exact ⟨k + 1, _, by omega, by go_num, by rw [HE.out]; go_num, rfl⟩
        case measure => simp [intOf]; omega
      · have e := cntN_no (isV_no hv)
        have HE := hid e
        have hv' : (((ent L k : Nat) : Int) == v) = false := beq_eq_false_iff_ne.2 hv
        clear e hv
        go_wp2_with (go_at_call 130; refine (load_ok (w := w.drewN _) T k hlt).mono ?_; rintro e w' ⟨rfl, n5, rfl⟩)
        go_roundw
        case rel => exact ⟨k + 1, _, by omega, by go_num, by rw [HE.out], rfl⟩
        case measure => simp [intOf]; omega
    · obtain rfl : k = L.length := by omega
      go_wp2
      go_ret
      exact ⟨rfl, _, rfl⟩
end
end Go.Proofs.YtkhemendnoeciaaGreat
