/-
  The contract of the law's made: a table and the reference's that read alike, or two that are nil. Conditions: those that stand in each theorem.
-/
import Derived.Test.YthhgcjbmnkdgjaaY
import Derived.Test.YthhgcjbmnkdgjaaLa
namespace Go.Proofs.Ythhgcjbmnkdgjaa
set_option linter.unusedVariables false
set_option linter.unusedSimpArgs false
open Go.RowKit

/-- A slice of calls. -/
def ActsAt (w : World) (A : Option Addr) (n : Nat) : Prop :=
  ∀ i, i < n → ∃ (g o : Nat) (k a b c : Int), A = some ⟨g, o, none⟩ ∧ w.cell? ⟨g, o + i * 4, none⟩ = some (.int .i64 k) ∧ w.cell? ⟨g, o + i * 4 + 1, none⟩ = some (.int .i64 a) ∧
    w.cell? ⟨g, o + i * 4 + 2, none⟩ = some (.int .i64 b) ∧ w.cell? ⟨g, o + i * 4 + 3, none⟩ = some (.int .i64 c)
theorem cell_kp {w W : World} {g i : Nat} {u : Value} (k : Kp [] w W) (h : w.cell? ⟨g, i, none⟩ = some u) : W.cell? ⟨g, i, none⟩ = some u := by
  rw [← h]; exact World.cell?_of_block (k.block g (cell_lt h) (by simp))
theorem ActsAt.kp {w W : World} {A : Option Addr} {n : Nat} (h : ActsAt w A n) (k : Kp [] w W) : ActsAt W A n := fun i hi => by
  obtain ⟨g, o, x, a, b, c, rfl, h0, h1, h2, h3⟩ := h i hi
  exact ⟨g, o, x, a, b, c, rfl, cell_kp k h0, cell_kp k h1, cell_kp k h2, cell_kp k h3⟩

/-- What made returns. -/
def MadeBoth (w : World) (n wd : Int) (e : Ending) (w' : World) : Prop :=
  Kp [] w w' ∧ (e = .returned (.tuple #[.pointer none, .pointer none]) ∨
    ∃ (g h g' h' : Nat) (wd' : Nat) (L : List Nat), e = .returned (.tuple #[.pointer (some ⟨g, 0, none⟩), .pointer (some ⟨g', 0, none⟩)]) ∧ Both w' g h g' h' wd' L ∧ wd = (wd' : Int) ∧ n = (L.length : Int) ∧
      w.heap.size ≤ g ∧ w.heap.size ≤ h ∧ w.heap.size ≤ g' ∧ w.heap.size ≤ h')

section
variable {w W W' : World}
set_option maxHeartbeats 1000000 in
theorem made_great (n wd : Int) (A : Option Addr) (len cap : Nat) (hg : 80 < len) :
    Calls Try.prog 28 #[.int .i64 n, .int .i64 wd, .slice A len cap] w (MadeBoth w n wd) := by
  go_enter Try.func28, Try.ntmps28
  go_wp2_with (go_at_call 13; refine (great_yes _ _ _ _ hg).mono ?_; rintro e w' ⟨rfl, n1, rfl⟩)
  go_ret2
  exact ⟨(Kp.refl [] w).drewN _, .inl rfl⟩
set_option maxRecDepth 100000 in
set_option maxHeartbeats 1000000 in
theorem made_bad (n wd : Int) (A : Option Addr) (len cap : Nat) (hg : len ≤ 80) (hb : newB n wd = false) (hA : ActsAt w A len) :
    Calls Try.prog 28 #[.int .i64 n, .int .i64 wd, .slice A len cap] w (MadeBoth w n wd) := by
  have HA := hid hA
  have HB := hid hb
  clear hA hb
  go_enter Try.func28, Try.ntmps28
  go_wp2_with (first | (go_at_call 13; refine (great_no _ _ _ _ hg).mono ?_; rintro e w' ⟨rfl, n1, rfl⟩) | (go_at_call 15; refine (new_bad _ _ _ HB.out).mono ?_; rintro e w' ⟨rfl, n2, rfl⟩) | (go_at_call 16; refine (r_new_bad _ _ _ HB.out).mono ?_; rintro e w' ⟨rfl, n3, rfl⟩))
  go_loopw [12] (fun c wr => ∃ k : Nat, k ≤ len ∧ c = .int .i64 (k : Int) ∧ Kp [] w wr) (fun c _ => len - (intOf c).toNat)
  case atStart => exact ⟨0, by omega, rfl, (Kp.refl [] w).drewN _⟩
  case round =>
    obtain ⟨k, hk, rfl, K1⟩ := hrel
    by_cases hlt : k < len
    · obtain ⟨g, o, x, a, b, c, rfl, c0, c1, c2, c3⟩ := (HA.out.kp K1) k hlt
      have HK := hid K1
      clear HA K1
      go_wp2_with (go_at_call 21; refine (play_un (un_nil _) x a b c).mono ?_; rintro e w2 ⟨rfl, k2⟩)
      go_roundw
      case rel => exact ⟨k + 1, by omega, by go_num, HK.out.trans k2 (by simp) (by simp)⟩
      case measure => simp [intOf]; omega
    · obtain rfl : k = len := by omega
      go_wp2
      go_ret2
      exact ⟨K1, .inl rfl⟩

theorem Both.mk' {g h g' h' wd : Nat} {L : List Nat} (T : STab w g h wd L) (R : RTab w g' h' wd L) : Both w g h g' h' wd L := ⟨T, R⟩
/-- What made's loop keeps. -/
def MadeR (w : World) (g h g' h' wd n : Nat) (W : World) : Prop := ∃ L : List Nat, L.length = n ∧ Both W g h g' h' wd L ∧ Kp [] w W
theorem MadeR.step {g h g' h' wd n : Nat} {e : Ending} (m : MadeR w g h g' h' wd n W) (hh : w.heap.size ≤ h) (hh' : w.heap.size ≤ h') (p : PlayP W g h g' h' wd n e W') : MadeR w g h g' h' wd n W' := by
  obtain ⟨L, hL, B, K⟩ := m
  obtain ⟨_, L2, hL2, B2, K2⟩ := p
  exact ⟨L2, hL2, B2, K.trans K2 (by simp) (by simp; omega)⟩
theorem play_made {g h g' h' wd n : Nat} (m : MadeR w g h g' h' wd n W) (k a b c : Int) :
    Calls Try.prog 21 #[.pointer (some ⟨g, 0, none⟩), .pointer (some ⟨g', 0, none⟩), .agg #[.int .i64 k, .int .i64 a, .int .i64 b, .int .i64 c]] W (PlayP W g h g' h' wd n) := by
  obtain ⟨L, rfl, B, K⟩ := m
  exact play_any B k a b c
set_option maxRecDepth 100000 in
set_option maxHeartbeats 1000000 in
theorem made_ok (n wd : Nat) (A : Option Addr) (len cap : Nat) (hg : len ≤ 80) (h1 : 1 ≤ n) (h2 : n ≤ 4096) (hw : Wd wd) (hA : ActsAt w A len) :
    Calls Try.prog 28 #[.int .i64 (n : Int), .int .i64 (wd : Int), .slice A len cap] w (MadeBoth w (n : Int) (wd : Int)) := by
  have HA := hid hA
  have HW := hid hw
  clear hA hw
  go_enter Try.func28, Try.ntmps28
  go_wp2_with (first | (go_at_call 13; refine (great_no _ _ _ _ hg).mono ?_; rintro e w' ⟨rfl, n1, rfl⟩) | (go_at_call 15; refine (new_ok n wd _ h1 h2 HW.out).mono ?_; rintro e w2 ⟨rfl, T2, K2⟩; have HT := hid T2; have HK := hid K2; clear T2 K2) | (go_at_call 16; refine (r_new_ok n wd _ h1 h2 HW.out).mono ?_; rintro e w3 ⟨rfl, R3, K3⟩; have HM := hid (show MadeR w (w.heap.size + 1) w.heap.size (w2.heap.size + 1) w2.heap.size wd n w3 from ⟨List.replicate n 0, by simp, ⟨HT.out.kp K3 (by simp) (by simp), R3⟩, (HK.out.from_drewN).trans K3 (by simp) (by simp)⟩); have HS : Hid (w.heap.size ≤ w2.heap.size) := HK.out.size; clear R3 K3 HT HK))
  go_loopw [12] (fun c wr => ∃ k : Nat, k ≤ len ∧ c = .int .i64 (k : Int) ∧ MadeR w (w.heap.size + 1) w.heap.size (w2.heap.size + 1) w2.heap.size wd n wr) (fun c _ => len - (intOf c).toNat)
  case atStart => exact ⟨0, by omega, rfl, HM.out⟩
  case round =>
    obtain ⟨k, hk, rfl, M1⟩ := hrel
    have HM1 := hid M1
    by_cases hlt : k < len
    · obtain ⟨L1, _, _, K1⟩ := M1
      obtain ⟨g, o, x, a, b, c, rfl, c0, c1, c2, c3⟩ := (HA.out.kp K1) k hlt
      clear HA K1 HM
      go_wp2_with (go_at_call 21; refine (play_made HM1.out x a b c).mono ?_; rintro e w4 p4; obtain ⟨rfl, p5⟩ := id p4; have HP := hid p4; clear p4 p5)
      go_roundw
      case rel => exact ⟨k + 1, by omega, by go_num, HM1.out.step (Nat.le_refl _) HS.out HP.out⟩
      case measure => simp [intOf]; omega
    · obtain rfl : k = len := by omega
      clear M1
      go_wp2
      go_ret2
      obtain ⟨L, hL, B, K⟩ := HM1.out
      have := HS.out
      exact ⟨K, .inr ⟨_, _, _, _, wd, L, rfl, B, rfl, by rw [hL], by omega, by omega, by omega, by omega⟩⟩
theorem made_any (n wd : Int) (A : Option Addr) (len cap : Nat) (hA : ActsAt w A len) :
    Calls Try.prog 28 #[.int .i64 n, .int .i64 wd, .slice A len cap] w (MadeBoth w n wd) := by
  by_cases hg : 80 < len
  · exact made_great n wd A len cap hg
  rcases hb : newB n wd
  · exact made_bad n wd A len cap (by omega) hb hA
  · unfold newB at hb
    simp only [Bool.and_eq_true, decide_eq_true_eq] at hb
    obtain ⟨⟨h1, h2⟩, h3⟩ := hb
    obtain ⟨wd', rfl, hw⟩ := wdB_nat h3
    obtain ⟨n', rfl⟩ : ∃ n' : Nat, n = (n' : Int) := ⟨n.toNat, by omega⟩
    exact made_ok n' wd' A len cap (by omega) (by omega) (by omega) hw hA
end
end Go.Proofs.Ythhgcjbmnkdgjaa
