/-
  The contracts of package roots' Queue, New, addresses, rising. Conditions: those that stand in each theorem.
-/
import Derived.Test.YtnidadhoojbmeaaRd
import Derived.Shelf.SlicesG.Clone
import Derived.Shelf.Slices.Empties
namespace Go.Proofs.Ytnidadhoojbmeaa
set_option linter.unusedVariables false
set_option linter.unusedSimpArgs false
open Go.RowKit Go.Deep Go.Maps

shelf_lay_g SlLaysN.n41 Slgn 41 at Try 25 as Try.cloneL

/-- A slice of numbers, wherever it lies. -/
def IsI (w : World) (v : Value) (zs : List Int) : Prop :=
  ∃ A cap, v = .slice A zs.length cap ∧ zs.length ≤ maxLen ∧ ∀ i, i < zs.length → ∃ g o, A = some ⟨g, o, none⟩ ∧ w.cell? ⟨g, o + i, none⟩ = some (.int .i64 (zs.getD i 0))
theorem IsI.kp0 {w W : World} {v : Value} {zs : List Int} (h : IsI w v zs) (k : Kp [] w W) : IsI W v zs := by
  obtain ⟨A, cap, rfl, h1, hA⟩ := h
  exact ⟨A, cap, rfl, h1, fun i hi => by obtain ⟨g, o, e, c⟩ := hA i hi; exact ⟨g, o, e, cell_kp k c⟩⟩
def posB (zs : List Int) : Bool := zs.all fun z => decide (0 < z)
def risB (zs : List Int) : Bool := (List.range zs.length).all fun i => decide (i = 0 ∨ zs.getD (i - 1) 0 < zs.getD i 0)
theorem posB_iff {zs : List Int} : posB zs = true ↔ ∀ i, i < zs.length → 0 < zs.getD i 0 := by
  unfold posB
  rw [List.all_eq_true]
  constructor
  · intro h i hi
    have := h (zs.getD i 0) (by rw [List.getD_eq_getElem?_getD, List.getElem?_eq_getElem hi]; exact List.getElem_mem hi)
    simpa using this
  · intro h x hx
    obtain ⟨i, hi, rfl⟩ := List.mem_iff_getElem.1 hx
    have := h i hi
    rw [List.getD_eq_getElem?_getD, List.getElem?_eq_getElem hi] at this
    simpa using this
theorem risB_iff {zs : List Int} : risB zs = true ↔ ∀ i, i + 1 < zs.length → zs.getD i 0 < zs.getD (i + 1) 0 := by
  unfold risB
  rw [List.all_eq_true]
  constructor
  · intro h i hi
    have := of_decide_eq_true (h (i + 1) (by simpa using hi))
    rcases this with h1 | h1
    · omega
    · exact h1
  · intro h i hi
    rw [decide_eq_true_eq]
    rcases i with _ | i
    · exact .inl rfl
    · exact .inr (h i (by simpa using hi))
theorem posB_false {zs : List Int} (h : posB zs = false) : ∃ j, j < zs.length ∧ zs.getD j 0 ≤ 0 ∧ ∀ i, i < j → 0 < zs.getD i 0 := by
  have hn : ¬ ∀ i, i < zs.length → 0 < zs.getD i 0 := fun hc => by rw [posB_iff.2 hc] at h; cases h
  have : ∃ j, j < zs.length ∧ zs.getD j 0 ≤ 0 := Classical.byContradiction fun hc => hn fun i hi => by
    rcases Int.lt_or_le 0 (zs.getD i 0) with h1 | h1
    · exact h1
    · exact absurd ⟨i, hi, h1⟩ hc
  obtain ⟨j, hj⟩ := this
  induction j using Nat.strongRecOn with
  | _ j ih =>
    by_cases hc : ∀ i, i < j → 0 < zs.getD i 0
    · exact ⟨j, hj.1, hj.2, hc⟩
    · have : ∃ i, i < j ∧ zs.getD i 0 ≤ 0 := Classical.byContradiction fun hx => hc fun i hi => by
        rcases Int.lt_or_le 0 (zs.getD i 0) with h1 | h1
        · exact h1
        · exact absurd ⟨i, hi, h1⟩ hx
      obtain ⟨i, hi, hi2⟩ := this
      exact ih i hi ⟨by omega, hi2⟩
section
variable {w w' W : World} {b : RB} {t : RT}
theorem r_addresses {v : Value} {zs : List Int} (h : IsI w v zs) :
    Calls Try.prog 41 #[v] w fun e w' => e = .returned (.bool (posB zs)) ∧ Kp [] w w' := by
  obtain ⟨A, cap, rfl, h1, hA⟩ := h
  unfold maxLen at h1
  have HA := hid hA
  clear hA
  go_enter Try.func41, Try.ntmps41
  go_wp2
  go_loopw [7] (fun c wr => ∃ k : Nat, k ≤ zs.length ∧ c = .int .i64 (k : Int) ∧ Kp [] w wr ∧ ∀ i, i < k → 0 < zs.getD i 0) (fun c _ => zs.length - (intOf c).toNat)
  case atStart => exact ⟨0, by omega, rfl, Kp.refl _ _, fun i hi => absurd hi (by omega)⟩
  case round =>
    obtain ⟨k, hk, rfl, kn, hp⟩ := hrel
    have HP := hid hp
    have HKN := hid kn
    clear hp kn
    by_cases hlt : k < zs.length
    · obtain ⟨g, o, rfl, hc⟩ := HA.out k hlt
      have hc := cell_kp HKN.out hc
      obtain ⟨x, hx⟩ : ∃ x, x = zs.getD k 0 := ⟨_, rfl⟩
      rw [← hx] at hc
      have HX := hid hx
      by_cases hx0 : x ≤ 0
      · have hd : decide (x ≤ 0) = true := decide_eq_true hx0
        have HF : Hid (posB zs = false) := by
          rcases hb : posB zs
          · rfl
          · have := posB_iff.1 hb k hlt; rw [← hx] at this; omega
        clear hx
        go_wp2
        go_ret
        rw [HF.out]
        exact ⟨by first | rfl | trivial, HKN.out⟩
      · have hd : decide (x ≤ 0) = false := decide_eq_false hx0
        have hd2 : 0 < x := by omega
        clear hx
        go_wp2
        go_roundw
        case rel => exact ⟨k + 1, by omega, by go_num, HKN.out, fun i hi => by
          by_cases hik : i = k
          · subst hik; rw [← HX.out]; omega
          · exact HP.out i (by omega)⟩
        case measure => simp [intOf]; omega
    · obtain rfl : k = zs.length := by omega
      go_wp2
      go_ret
      rw [posB_iff.2 HP.out]
      exact ⟨by first | rfl | trivial, HKN.out⟩
set_option maxHeartbeats 1000000 in
theorem r_rising {v : Value} {zs : List Int} (h : IsI w v zs) :
    Calls Try.prog 42 #[v] w fun e w' => e = .returned (.bool (risB zs)) ∧ Kp [] w w' := by
  obtain ⟨A, cap, rfl, h1, hA⟩ := h
  unfold maxLen at h1
  have HA := hid hA
  clear hA
  go_enter Try.func42, Try.ntmps42
  go_wp2
  go_loopw [3] (fun c wr => ∃ k : Nat, (k + 1 ≤ zs.length ∨ k = 0) ∧ c = .int .i64 ((k : Int) + 1) ∧ Kp [] w wr ∧ ∀ i, i < k → zs.getD i 0 < zs.getD (i + 1) 0) (fun c _ => zs.length - (intOf c).toNat)
  case atStart => exact ⟨0, .inr rfl, by simp, Kp.refl _ _, fun i hi => absurd hi (by omega)⟩
  case round =>
    obtain ⟨k, hk, rfl, kn, hp⟩ := hrel
    have HP := hid hp
    have HKN := hid kn
    clear hp kn
    by_cases hlt : k + 1 < zs.length
    · obtain ⟨g, o, rfl, hc⟩ := HA.out (k + 1) hlt
      obtain ⟨g', o', e', hc'⟩ := HA.out k (by omega)
      cases e'
      have hc := cell_kp HKN.out hc
      have hc' := cell_kp HKN.out hc'
      obtain ⟨x, hx⟩ : ∃ x, x = zs.getD (k + 1) 0 := ⟨_, rfl⟩
      obtain ⟨y, hy⟩ : ∃ x, x = zs.getD k 0 := ⟨_, rfl⟩
      rw [← hx] at hc
      rw [← hy] at hc'
      have HX := hid hx
      have HY := hid hy
      have q1 : (k : Int) + 1 < (zs.length : Int) := by omega
      have q2 : ((k : Int) + 1).toNat = k + 1 := by omega
      have q3 : IntKind.i64.wrap ((k : Int) + 1 - 1) = (k : Int) := by rw [IntKind.wrap_i64]; omega
      have q4 : (k : Int) + 1 - 1 = (k : Int) := by omega
      have q5 : (k : Int) < (zs.length : Int) := by omega
      have q6 : 0 ≤ (k : Int) + 1 := by omega
      have hk0 : k + 1 ≤ 9223372036854775806 := by omega
      clear hx hy hk
      by_cases hx0 : x ≤ y
      · have hd : decide (x ≤ y) = true := decide_eq_true hx0
        have HF : Hid (risB zs = false) := by
          show _ = _
          rcases hb : risB zs
          · rfl
          · have := risB_iff.1 hb k hlt; rw [← HX.out, ← HY.out] at this; omega
        go_wp2
        go_quiet (fail)
        go_wp2
        go_ret
        rw [HF.out]
        exact ⟨by first | rfl | trivial, HKN.out.drewN _⟩
      · have hd : decide (x ≤ y) = false := decide_eq_false hx0
        go_wp2
        go_quiet (fail)
        go_wp2
        go_roundw
        case rel => exact ⟨k + 1, .inl (by omega), by go_num, HKN.out.drewN _, fun i hi => by
          by_cases hik : i = k
          · subst hik; rw [← HX.out, ← HY.out]; omega
          · exact HP.out i (by omega)⟩
        case measure => simp [intOf]; omega
    · have q1 : ¬ ((k : Int) + 1 < (zs.length : Int)) := by omega
      have q2 : (zs.length : Int) ≤ (k : Int) + 1 := by omega
      have hk0 : k ≤ 9223372036854775806 := by omega
      have HE : Hid (risB zs = true) := risB_iff.2 fun i hi => HP.out i (by omega)
      clear hk hlt
      go_wp2
      go_ret
      rw [HE.out]
      exact ⟨by first | rfl | trivial, HKN.out⟩
theorem r_queue (R : RR w b t) :
    Calls Try.prog 36 #[.pointer (some ⟨b.g, 0, none⟩)] w (RowP w.heap.size w t.qu) := by
  have HR := hid R
  have hql := R.ok.qu
  rcases R.q_form with ⟨hv, h0⟩ | ⟨g, cap, hv, hc1, hc2, hne1, hne2, hcl⟩
  · have hcq := R.cq
    rw [hv] at hcq
    have H0 := hid h0
    clear R h0 hv
    go_enter Try.func36, Try.ntmps36
    go_wp2_with (first
      | (go_at_call 23; refine (r_made HR.out).mono ?_; rintro e w' ⟨rfl, n1, rfl⟩)
      | (go_at_call 25; refine (AnyG.slices_Clone_int_nil Try.cloneL 0 0 _).mono ?_; rintro e w' ⟨rfl, rfl⟩))
    go_ret
    rw [H0.out]
    exact ⟨_, rfl, ⟨rfl, .inl ⟨rfl, rfl⟩⟩, below_drewN (Below.refl _ _) _⟩
  · have hcq := R.cq
    rw [hv] at hcq
    have HCL : Hid (∀ n, Calls Try.prog 25 #[.slice (some ⟨g, 0, none⟩) t.qu.length cap] (w.drewN n) fun e w' => ∃ v', e = .returned v' ∧ w'.ownsRow w.heap.size 3 1 v' t.qu.length (zcells t.qu) ∧ Below w.heap.size w w') := fun n => by
      refine (AnyG.slices_Clone_int Try.cloneL g 0 t.qu.length cap t.qu (w.drewN n) (Nat.le_refl _) (by omega) (fun j hj => by rw [Nat.zero_add]; exact hcl j hj)).mono ?_
      rintro e w' ⟨v', rfl, own, _, bel⟩
      rw [List.take_length] at own
      exact ⟨v', rfl, own, (below_drewN (Below.refl _ w) n).trans bel⟩
    clear R hv hcl
    go_enter Try.func36, Try.ntmps36
    go_wp2_with (first
      | (go_at_call 23; refine (r_made HR.out).mono ?_; rintro e w' ⟨rfl, n1, rfl⟩)
      | (go_at_call 25; refine (HCL.out _).mono ?_; rintro e w2 ⟨v2, rfl, own2, bel2⟩; have HO := hid own2; have HB := hid bel2; clear own2 bel2))
    go_ret
    exact ⟨_, rfl, HO.out, HB.out⟩
end
end Go.Proofs.Ytnidadhoojbmeaa
