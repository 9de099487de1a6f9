/-
  The contracts of package heap's small readers. Conditions: those that stand in each theorem.
-/
import Derived.Test.YtkhemendnoeciaaGreatHb
namespace Go.Proofs.YtkhemendnoeciaaGreat
set_option linter.unusedVariables false
set_option linter.unusedSimpArgs false
open Go.RowKit Go.Deep Go.Maps

section
variable {w w' : World} {b : HB} {r : RM}
theorem h_made (R : Raw w b r) :
    Calls Tryz.prog 33 #[.pointer (some ⟨b.g, 0, none⟩)] w fun e w' => e = .returned (.bool true) ∧ ∃ m, w' = w.drewN m := by
  have hc := R.c0
  have hp : 0 < r.bl.length := Nat.lt_of_lt_of_le (by decide) R.bl2
  clear R
  go_enter Tryz.func33, Tryz.ntmps33
  go_wp2
  go_ret
  exact ⟨rfl, 0, rfl⟩
/-- Is a number below another one. -/
def inB (n : Nat) (i : Int) : Bool := decide (0 ≤ i ∧ i < (n : Int))
theorem h_hasBlock (R : Raw w b r) (i : Int) :
    Calls Tryz.prog 88 #[.pointer (some ⟨b.g, 0, none⟩), .int .i64 i] w fun e w' => e = .returned (.bool (inB r.bl.length i)) ∧ ∃ m, w' = w.drewN m := by
  have hc := R.c0
  have hp := R.bl64
  clear R
  by_cases h0 : 0 ≤ i
  · by_cases h1 : i < (r.bl.length : Int)
    · have e : inB r.bl.length i = true := decide_eq_true ⟨h0, h1⟩
      rw [e]; clear e
      go_enter Tryz.func88, Tryz.ntmps88
      go_wp2
      go_ret
      exact ⟨rfl, 0, rfl⟩
    · have e : inB r.bl.length i = false := decide_eq_false (fun h => h1 h.2)
      rw [e]; clear e
      go_enter Tryz.func88, Tryz.ntmps88
      go_wp2
      go_ret
      exact ⟨rfl, 0, rfl⟩
  · have e : inB r.bl.length i = false := decide_eq_false (fun h => h0 h.1)
    rw [e]; clear e
    go_enter Tryz.func88, Tryz.ntmps88
    go_wp2
    go_ret
    exact ⟨rfl, 0, rfl⟩
theorem h_hasWord (R : Raw w b r) (i : Int) :
    Calls Tryz.prog 100 #[.pointer (some ⟨b.g, 0, none⟩), .int .i64 i] w fun e w' => e = .returned (.bool (inB r.ws.length i)) ∧ ∃ m, w' = w.drewN m := by
  have hc := R.c1
  have hp : r.ws.length ≤ 4096 := by have := R.bl64; have := R.wl; omega
  clear R
  by_cases h0 : 0 ≤ i
  · by_cases h1 : i < (r.ws.length : Int)
    · have e : inB r.ws.length i = true := decide_eq_true ⟨h0, h1⟩
      rw [e]; clear e
      go_enter Tryz.func100, Tryz.ntmps100
      go_wp2
      go_ret
      exact ⟨rfl, 0, rfl⟩
    · have e : inB r.ws.length i = false := decide_eq_false (fun h => h1 h.2)
      rw [e]; clear e
      go_enter Tryz.func100, Tryz.ntmps100
      go_wp2
      go_ret
      exact ⟨rfl, 0, rfl⟩
  · have e : inB r.ws.length i = false := decide_eq_false (fun h => h0 h.1)
    rw [e]; clear e
    go_enter Tryz.func100, Tryz.ntmps100
    go_wp2
    go_ret
    exact ⟨rfl, 0, rfl⟩
/-- May a block be claimed at some time. -/
def blkB (n : Nat) (i : Int) : Bool := decide (1 ≤ i ∧ i < (n : Int))
theorem h_canBeUsed (R : Raw w b r) (i : Int) :
    Calls Tryz.prog 103 #[.pointer (some ⟨b.g, 0, none⟩), .int .i64 i] w fun e w' => e = .returned (.bool (blkB r.bl.length i)) ∧ ∃ m, w' = w.drewN m := by
  by_cases h0 : i = 0
  · subst h0
    have e : blkB r.bl.length 0 = false := decide_eq_false (by omega)
    rw [e]; clear e
    go_enter Tryz.func103, Tryz.ntmps103
    go_wp2
    go_ret
    exact ⟨rfl, 0, rfl⟩
  · have h1 : (i != 0) = true := bne_iff_ne.2 h0
    have e : blkB r.bl.length i = inB r.bl.length i := by unfold blkB inB; rw [decide_eq_decide]; omega
    rw [e]; clear e h0
    go_enter Tryz.func103, Tryz.ntmps103
    go_wp2_with (go_at_call 88; refine (h_hasBlock R _).mono ?_; rintro e w' ⟨rfl, n1, rfl⟩)
    go_ret
    exact ⟨rfl, _, rfl⟩
def spcB (i : Int) : Bool := decide (0 ≤ i ∧ i < 8)
theorem h_isSpace (w : World) (i : Int) :
    Calls Tryz.prog 113 #[.int .i64 i] w fun e w' => e = .returned (.bool (spcB i)) ∧ ∃ m, w' = w.drewN m := by
  by_cases h0 : 0 ≤ i
  · by_cases h1 : i < 8
    · have e : spcB i = true := decide_eq_true ⟨h0, h1⟩
      rw [e]; clear e
      go_enter Tryz.func113, Tryz.ntmps113
      go_wp2
      go_ret
      exact ⟨rfl, 0, rfl⟩
    · have e : spcB i = false := decide_eq_false (fun h => h1 h.2)
      rw [e]; clear e
      go_enter Tryz.func113, Tryz.ntmps113
      go_wp2
      go_ret
      exact ⟨rfl, 0, rfl⟩
  · have e : spcB i = false := decide_eq_false (fun h => h0 h.1)
    rw [e]; clear e
    go_enter Tryz.func113, Tryz.ntmps113
    go_wp2
    go_ret
    exact ⟨rfl, 0, rfl⟩
theorem h_up2 (n : Nat) (w : World) (hn : n ≤ 100000) :
    Calls Tryz.prog 132 #[.int .i64 (n : Int), .int .i64 2] w fun e w' => e = .returned (.int .i64 (((n + 1) / 2 * 2 : Nat) : Int)) ∧ ∃ m, w' = w.drewN m := by
  have e : (((n + 1) / 2 * 2 : Nat) : Int) = ((n : Int) + 2 - 1) / 2 * 2 := by omega
  rw [e]; clear e
  go_enter Tryz.func132, Tryz.ntmps132
  go_wp2
  go_ret
  exact ⟨rfl, 0, rfl⟩
theorem h_up64 (n : Nat) (w : World) (hn : n ≤ 100000) :
    Calls Tryz.prog 132 #[.int .i64 (n : Int), .int .i64 64] w fun e w' => e = .returned (.int .i64 (((n + 63) / 64 * 64 : Nat) : Int)) ∧ ∃ m, w' = w.drewN m := by
  have e : (((n + 63) / 64 * 64 : Nat) : Int) = ((n : Int) + 64 - 1) / 64 * 64 := by omega
  rw [e]; clear e
  go_enter Tryz.func132, Tryz.ntmps132
  go_wp2
  go_ret
  exact ⟨rfl, 0, rfl⟩
def clmB (s : Nat) : Bool := decide (s = 1 ∨ s = 2)
theorem h_isClaimed (R : Raw w b r) (i : Nat) (hi : i < r.bl.length) :
    Calls Tryz.prog 104 #[.pointer (some ⟨b.g, 0, none⟩), .int .i64 (i : Int)] w fun e w' => e = .returned (.bool (clmB (r.bl.getD i (0, 0)).1)) ∧ ∃ m, w' = w.drewN m := by
  have hc := R.c0
  have hs := R.stc hi
  have hl := R.bl64
  clear R
  generalize (r.bl.getD i (0, 0)).1 = s at hs ⊢
  by_cases h1 : s = 1
  · subst h1
    go_enter Tryz.func104, Tryz.ntmps104
    go_wp2
    go_ret
    exact ⟨rfl, 0, rfl⟩
  · by_cases h2 : s = 2
    · subst h2
      go_enter Tryz.func104, Tryz.ntmps104
      go_wp2
      go_ret
      exact ⟨rfl, 0, rfl⟩
    · have e : clmB s = false := decide_eq_false (by omega)
      rw [e]; clear e
      have e1 : ((s : Int) == 1) = false := beq_eq_false_iff_ne.2 (by omega)
      have e2 : ((s : Int) == 2) = false := beq_eq_false_iff_ne.2 (by omega)
      clear h1 h2
      go_enter Tryz.func104, Tryz.ntmps104
      go_wp2
      go_ret
      exact ⟨rfl, 0, rfl⟩
theorem h_group (R : Raw w b r) (i : Nat) (hi : i < r.bl.length) :
    Calls Tryz.prog 105 #[.pointer (some ⟨b.g, 0, none⟩), .int .i64 (i : Int)] w fun e w' => e = .returned (.slice (some ⟨b.hb, i * 2, none⟩) (grpEnd r.bl i - i) (r.cb - i)) ∧ ∃ m, w' = w.drewN m := by
  have hc := R.c0
  have hl := R.bl64
  have hcb := R.cb1
  have hcm := R.cb2
  have HS := hid (fun k (hk : k < r.bl.length) => R.stc hk)
  unfold maxLen at hcm
  clear R
  go_enter Tryz.func105, Tryz.ntmps105
  go_wp2
  go_loop [5] (fun c => ∃ k : Nat, i + 1 ≤ k ∧ k ≤ r.bl.length ∧ Hid (∀ j, i + 1 ≤ j → j < k → (r.bl.getD j (0, 0)).1 = 3) ∧ c = .int .i64 (k : Int)) (fun c => r.bl.length - (intOf c).toNat)
  case atStart => exact ⟨i + 1, by omega, by omega, (fun j h1 h2 => absurd h2 (by omega)), by go_num⟩
  case round =>
    obtain ⟨k, hk1, hk2, HK, rfl⟩ := hrel
    by_cases hlt : k < r.bl.length
    · have hs := HS.out k hlt
      by_cases h3 : (r.bl.getD k (0, 0)).1 = 3
      · have HK' : Hid (∀ j, i + 1 ≤ j → j < k + 1 → (r.bl.getD j (0, 0)).1 = 3) := fun j h1 h2 => by
          by_cases hj : j < k
          · exact HK.out j h1 hj
          · obtain rfl : j = k := by omega
            exact h3
        rw [h3] at hs
        clear h3
        go_wp2
        go_round
        case rel => exact ⟨k + 1, by omega, by omega, HK', by go_num⟩
        case measure => simp [intOf]; omega
      · have e : grpEnd r.bl i = k := (grpEnd_iff _ _ _ hi).2 ⟨hk1, hk2, HK.out, fun _ => h3⟩
        have HE := hid e
        generalize (r.bl.getD k (0, 0)).1 = s at hs h3
        have e2 : ((s : Int) == 3) = false := beq_eq_false_iff_ne.2 (by omega)
        clear h3 e
        go_wp2
        go_ret
        rw [HE.out]
        exact ⟨rfl, 0, rfl⟩
    · obtain rfl : k = r.bl.length := by omega
      have e : grpEnd r.bl i = r.bl.length := (grpEnd_iff _ _ _ hi).2 ⟨hk1, hk2, HK.out, fun h => absurd h (by omega)⟩
      have HE := hid e
      clear e
      go_wp2
      go_ret
      rw [HE.out]
      exact ⟨rfl, 0, rfl⟩
end
end Go.Proofs.YtkhemendnoeciaaGreat
