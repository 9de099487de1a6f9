/-
  The contracts of the laws' Great and Made. Conditions: those that stand in each theorem.
-/
import Derived.Test.YtplgbpmldjngoaaIc
import Derived.Test.YtplgbpmldjngoaaHu
namespace Go.Proofs.Ytplgbpmldjngoaa
set_option linter.unusedVariables false
set_option linter.unusedSimpArgs false
open Go.RowKit Go.Deep Go.Maps

/-- A slice of calls. -/
def ActsAt (w : World) (A : Option Addr) (n : Nat) : Prop :=
  ∀ i, i < n → ∃ (g o : Nat) (y : ActM), y.Ok ∧ A = some ⟨g, o, none⟩ ∧ w.cell? ⟨g, o + i * 7, none⟩ = some (.int .i64 y.n) ∧ w.cell? ⟨g, o + i * 7 + 1, none⟩ = some (.int .i64 y.a) ∧
    w.cell? ⟨g, o + i * 7 + 2, none⟩ = some (.int .i64 y.b) ∧ w.cell? ⟨g, o + i * 7 + 3, none⟩ = some (.int .i64 y.c) ∧ w.cell? ⟨g, o + i * 7 + 4, none⟩ = some (.int .i64 y.x) ∧ w.cell? ⟨g, o + i * 7 + 5, none⟩ = some (.int .i64 y.d) ∧ w.cell? ⟨g, o + i * 7 + 6, none⟩ = some (.int .i64 y.k)
theorem ActsAt.kp {w W : World} {A : Option Addr} {n : Nat} (h : ActsAt w A n) (k : Kp [] w W) : ActsAt W A n := fun i hi => by
  obtain ⟨g, o, y, hy, rfl, h0, h1, h2, h3, h4, h5, h6⟩ := h i hi
  exact ⟨g, o, y, hy, rfl, cell_kp k h0, cell_kp k h1, cell_kp k h2, cell_kp k h3, cell_kp k h4, cell_kp k h5, cell_kp k h6⟩
section
variable {w W W' : World}
theorem h_great (A : Option Addr) (len cap : Nat) :
    Calls Try.prog 30 #[.slice A len cap] w fun e w' => e = .returned (.bool (decide (60 < len))) ∧ ∃ n, w' = w.drewN n := by
  by_cases h : 60 < len
  · rw [decide_eq_true h]
    have h1 : (60 : Int) < (len : Int) := by omega
    clear h
    go_enter Try.func30, Try.ntmps30
    go_wp2
    go_ret
    exact ⟨rfl, 0, rfl⟩
  · rw [decide_eq_false h]
    have h1 : (len : Int) ≤ (60 : Int) := by omega
    clear h
    go_enter Try.func30, Try.ntmps30
    go_wp2
    go_ret
    exact ⟨by first | rfl | simp [Int.not_lt.2 h1], 0, rfl⟩
/-- What Made returns. -/
def MadeP (w : World) (e : Ending) (w' : World) : Prop :=
  Kp [] w w' ∧ (e = .returned (.pointer none) ∨ ∃ (b : HB) (m : HM) (q : Nat), e = .returned (.pointer (some ⟨b.g, 0, none⟩)) ∧ SH w' b q m ∧ q ≤ 200 ∧ ∀ x ∈ b.all, w.heap.size ≤ x)
set_option maxRecDepth 100000 in
set_option maxHeartbeats 1000000 in
theorem h_made_ok (n : Nat) (A : Option Addr) (len cap : Nat) (hg : len ≤ 60) (h1 : 2 ≤ n) (h2 : n ≤ 12) (hA : ActsAt w A len) :
    Calls Try.prog 13 #[.int .i64 (n : Int), .slice A len cap] w (MadeP w) := by
  have HA := hid hA
  have HG := hid (show decide (60 < len) = false from decide_eq_false (by omega))
  clear hA
  go_enter Try.func13, Try.ntmps13
  go_wp2_with (first | (go_at_call 30; refine (h_great _ _ _).mono ?_; rintro e w' ⟨rfl, n0, rfl⟩; rw [HG.out]) | (go_at_call 54; refine (h_new_ok n _ h1 (by omega)).mono ?_; rintro e w2 ⟨b, rfl, S2, K2, N2⟩; have HS := hid S2; have HK := hid K2; have HN : Hid (∀ x ∈ b.all, w.heap.size ≤ x) := (by first | exact N2 | exact fun x hx => N2 x hx); clear S2 K2 N2))
  go_loopw [7] (fun c wr => ∃ (j : Nat) (m : HM), j ≤ len ∧ c = .int .i64 (j : Int) ∧ SH wr b (2 * j) m ∧ Kp [] w wr) (fun c _ => len - (intOf c).toNat)
  case atStart => exact ⟨0, _, by omega, rfl, HS.out, (by first | exact HK.out | exact HK.out.from_drewN)⟩
  case round =>
    obtain ⟨j, m, hj, rfl, S1, K1⟩ := hrel
    by_cases hlt : j < len
    · obtain ⟨g, o, y, hy, rfl, c0, c1, c2, c3, c4, c5, c6⟩ := (HA.out.kp K1) j hlt
      have HS1 := hid S1
      have HK1 := hid K1
      have HY := hid hy
      have HQ : Hid (2 * j ≤ 900000000) := by show _ ≤ _; omega
      clear HA K1 S1 hy HS HK
      obtain ⟨yn, ya, yb, yc, yx, yd, yk⟩ := y
      simp only at c0 c1 c2 c3 c4 c5 c6
      go_wp2_with (go_at_call 33; refine (h_do HS1.out ⟨yn, ya, yb, yc, yx, yd, yk⟩ HY.out HQ.out).mono ?_; rintro e w4 ⟨rfl, S4, K4⟩; have HS4 := hid S4; have HK4 := hid (HK1.out.trans K4 (U := []) (by simp) (fun x hx => .inr (HN.out x hx))); clear S4 K4)
      go_roundw
      case rel => exact ⟨j + 1, _, by omega, by go_num, HS4.out, HK4.out⟩
      case measure => simp [intOf]; omega
    · obtain rfl : j = len := by omega
      have HS1 := hid S1
      have HK1 := hid K1
      clear S1 K1
      go_wp2
      go_ret
      exact ⟨HK1.out, .inr ⟨b, m, _, rfl, HS1.out, by omega, HN.out⟩⟩
set_option maxRecDepth 100000 in
set_option maxHeartbeats 1000000 in
theorem h_made_any (n : Int) (A : Option Addr) (len cap : Nat) (hA : ActsAt w A len) :
    Calls Try.prog 13 #[.int .i64 n, .slice A len cap] w (MadeP w) := by
  by_cases hg : 60 < len
  · have HG := hid (show decide (60 < len) = true from decide_eq_true hg)
    clear hA hg
    go_enter Try.func13, Try.ntmps13
    go_wp2_with (first | (go_at_call 30; refine (h_great _ _ _).mono ?_; rintro e w' ⟨rfl, n0, rfl⟩; rw [HG.out]))
    go_ret
    exact ⟨Kp.draw _ _, .inl rfl⟩
  · have HG := hid (show decide (60 < len) = false from decide_eq_false hg)
    by_cases h12 : 12 < n
    · clear hA hg
      go_enter Try.func13, Try.ntmps13
      go_wp2_with (first | (go_at_call 30; refine (h_great _ _ _).mono ?_; rintro e w' ⟨rfl, n0, rfl⟩; rw [HG.out]))
      go_ret
      exact ⟨Kp.draw _ _, .inl rfl⟩
    · by_cases h2 : n < 2
      · have HB : Hid (¬ (2 ≤ n ∧ n ≤ 64)) := by intro h; omega
        clear hA hg
        go_enter Try.func13, Try.ntmps13
        go_wp2_with (first | (go_at_call 30; refine (h_great _ _ _).mono ?_; rintro e w' ⟨rfl, n0, rfl⟩; rw [HG.out]) | (go_at_call 54; refine (h_new_bad n _ HB.out).mono ?_; rintro e w2 ⟨rfl, n2, rfl⟩))
        go_ret
        exact ⟨Kp.draw _ _, .inl rfl⟩
      · obtain ⟨n, rfl⟩ : ∃ i : Nat, n = (i : Int) := ⟨n.toNat, by omega⟩
        exact h_made_ok n A len cap (by omega) (by omega) (by omega) hA
end
end Go.Proofs.Ytplgbpmldjngoaa
