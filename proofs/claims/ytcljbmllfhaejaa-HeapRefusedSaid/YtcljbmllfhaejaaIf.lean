/-
  The law HeapLines, walked. Conditions: those that stand in each theorem.
-/
import Derived.Test.YtcljbmllfhaejaaId
import Derived.Test.YtcljbmllfhaejaaIe
namespace Go.Proofs.Ytcljbmllfhaejaa
set_option linter.unusedVariables false
set_option linter.unusedSimpArgs false
open Go.RowKit Go.Deep Go.Maps

/-- Is one of n words from p on one of an object. -/
def HM.isB (m : HM) (p : Nat) : Nat → Bool
  | 0 => false
  | n + 1 => m.isB p n || decide (m.own (p + n) ≠ 0)
theorem isB_iff (m : HM) (p n : Nat) : m.isB p n = true ↔ ∃ x, x < n ∧ m.own (p + x) ≠ 0 := by
  induction n with
  | zero => simp [HM.isB]
  | succ n ih =>
    unfold HM.isB
    rw [Bool.or_eq_true, ih, decide_eq_true_eq]
    constructor
    · rintro (⟨x, h1, h2⟩ | h)
      · exact ⟨x, by omega, h2⟩
      · exact ⟨n, by omega, h⟩
    · rintro ⟨x, h1, h2⟩
      by_cases hx : x = n
      · subst hx; exact .inr h2
      · exact .inl ⟨x, by omega, h2⟩
theorem line_is {m : HM} (I : m.Inv) {k i : Nat} (hk : k < m.bl.length) (hst : m.st k = 1) (hi : i < 8) : (m.lnL k).getD i false = m.isB (k * 64 + i * 8) 8 := by
  rw [Bool.eq_iff_iff, lnL_iff I hk hst hi, isB_iff]
section
variable {w : World}
set_option maxRecDepth 100000 in
set_option maxHeartbeats 4000000 in
theorem lines_ok (n : Int) (A : Option Addr) (len cap : Nat) (hA : ActsAt w A len) :
    Calls Try.prog 7 #[.int .i64 n, .slice A len cap] w (TrueP w) := by
  have HA := hid hA
  clear hA
  go_enter Try.func7, Try.ntmps7
  go_wp2_with (fail)
  refine (h_made_any n A len cap HA.out).mono ?_
  rintro e w2 ⟨K2, rfl | ⟨b, m, q, rfl, S2, hq, N2⟩⟩
  · have HK := hid K2
    clear K2
    go_wp2_with (go_at_call 15; refine (alive_ok _).mono ?_; rintro e w3 ⟨rfl, K3⟩; have HK3 := hid (HK.out.chain K3); clear K3)
    go_ret
    exact ⟨rfl, HK3.out⟩
  · have HK := hid K2
    have HS := hid S2
    have I := S2.inv
    have HI := hid I
    have hl64 := I.len64
    clear K2 S2 N2 I
    go_wp2
    go_loopw [6] (fun c wr => ∃ k : Nat, k ≤ m.bl.length ∧ c = .int .i64 (k : Int) ∧ Kp [] w2 wr) (fun c _ => 64 - (intOf c).toNat)
    case atStart => exact ⟨0, by omega, rfl, Kp.refl _ _⟩
    case round =>
      obtain ⟨k, hk, rfl, K1⟩ := hrel
      have HK1 := hid K1
      have HS1 := hid (HS.out.kp0 K1)
      clear K1
      by_cases hlt : k < m.bl.length
      · have hb : inB m.bl.length (k : Int) = true := decide_eq_true ⟨by omega, by omega⟩
        have hx : (if inB m.bl.length (k : Int) = true then (m.st ((k : Int).toNat) : Int) else -1) = (m.st k : Int) := by rw [if_pos hb, Int.toNat_natCast]
        have HX := hid hx
        clear hb hx
        by_cases hst : m.st k = 1
        · have HST := hid hst
          have HLI := hid (fun i (hi : i < 8) => line_is HI.out hlt hst hi)
          have HLT := hid hlt
          clear hst
          go_wp2_with (first
            | (go_at_call 17; refine (h_blocks HS1.out).mono ?_; rintro e w' ⟨rfl, n1, rfl⟩)
            | (go_at_call 32; refine (h_lines (HS1.out.drewN _) k HLT.out HST.out).mono ?_; rintro e w5 ⟨g, rfl, B5, hg, K5⟩; have HB5 := hid B5; have HK5 := hid K5.from_drewN; have HS5 := hid (HS1.out.kp0 K5.from_drewN); clear B5 K5 hg)
            | (go_at_call 20; refine (h_state HS5.out _).mono ?_; rintro e w' ⟨rfl, n2, rfl⟩; rw [HX.out, HST.out]))
          go_loopw [8] (fun c wr2 => ∃ i : Nat, i ≤ 8 ∧ c = .int .i64 (i : Int) ∧ Kp [] w5 wr2) (fun c _ => 8 - (intOf c).toNat)
          case atStart => exact ⟨0, by omega, rfl, Kp.draw _ _⟩
          case round =>
            obtain ⟨i, hi, rfl, K6⟩ := hrel
            have HK6 := hid K6
            have HS6 := hid (HS5.out.kp0 K6)
            clear K6
            by_cases hi8 : i < 8
            · have HE8 := hid (HLI.out i hi8)
              go_wp2
              rw [decide_eq_true (show (i : Int) < 8 by omega)]
              go_loopw [9, 10] (fun s c wr3 => ∃ x : Nat, x ≤ 8 ∧ c = .int .i64 (x : Int) ∧ s = .bool (m.isB (k * 64 + i * 8) x) ∧ Kp [] w5 wr3) (fun _ c _ => 8 - (intOf c).toNat)
              case atStart => exact ⟨0, by omega, rfl, rfl, HK6.out⟩
              case round =>
                obtain ⟨x, hx, rfl, rfl, K7⟩ := hrel
                by_cases hx8 : x < 8
                · have HK7 := hid K7
                  have HS7 := hid (HS5.out.kp0 K7)
                  have HY : Hid (m.isB (k * 64 + i * 8) (x + 1) = (m.isB (k * 64 + i * 8) x || decide (m.own (k * 64 + i * 8 + x) ≠ 0))) := rfl
                  have ho : m.ownI ((k : Int) * 64 + (i : Int) * 8 + (x : Int)) = m.own (k * 64 + i * 8 + x) := by
                    rw [show ((k : Int) * 64 + (i : Int) * 8 + (x : Int)) = ((k * 64 + i * 8 + x : Nat) : Int) by omega]
                    unfold HM.ownI
                    rw [if_pos (by omega), Int.toNat_natCast]
                  have hw64 : W64 ((k : Int) * 64 + (i : Int) * 8 + (x : Int)) := ⟨by omega, by omega⟩
                  have HW := hid hw64
                  have hfe : m.findE ((k : Int) * 64 + (i : Int) * 8 + (x : Int)) = if m.own (k * 64 + i * 8 + x) = 0 then 4 else 0 := by unfold HM.findE; rw [ho]
                  clear K7 ho hw64
                  generalize m.isB (k * 64 + i * 8) x = y0 at HY ⊢
                  by_cases hz : m.own (k * 64 + i * 8 + x) = 0
                  · rw [if_pos hz] at hfe
                    have HFE := hid hfe
                    have HZ := hid hz
                    clear hfe hz
                    rcases y0
                    all_goals
                      go_wp2_with (go_at_call 33; refine (h_find HS7.out _ HW.out).mono ?_; rintro e w' ⟨rfl, n3, rfl⟩; rw [HFE.out])
                      go_roundw
                      case rel =>
                        refine ⟨x + 1, by omega, by go_num, ?_, HK7.out.drewN _⟩
                        rw [HY.out]
                        have := HZ.out
                        simp [this]
                      case measure => simp [intOf]; omega
                  · rw [if_neg hz] at hfe
                    have HFE := hid hfe
                    have HZ := hid hz
                    clear hfe hz
                    rcases y0
                    all_goals
                      go_wp2_with (go_at_call 33; refine (h_find HS7.out _ HW.out).mono ?_; rintro e w' ⟨rfl, n3, rfl⟩; rw [HFE.out])
                      go_roundw
                      case rel =>
                        refine ⟨x + 1, by omega, by go_num, ?_, HK7.out.drewN _⟩
                        rw [HY.out]
                        have := HZ.out
                        simp [this]
                      case measure => simp [intOf]; omega
                · obtain rfl : x = 8 := by omega
                  have hc0 := (HB5.out.kp K7 (by simp)).cell i
                  rw [lcells_get (by simp [HM.lnL]; omega), HE8.out] at hc0
                  have HK7 := hid K7
                  clear K7
                  generalize m.isB (k * 64 + i * 8) 8 = y at hc0 ⊢
                  rcases y
                  all_goals
                    go_wp2
                    go_roundw
                    case rel => exact ⟨i + 1, by omega, by go_num, HK7.out⟩
                    case measure => simp [intOf]; omega
            · obtain rfl : i = 8 := by omega
              go_wp2
              go_roundw
              case rel => exact ⟨k + 1, by omega, by go_num, HK1.out.chain (HK5.out.chain HK6.out)⟩
              case measure => simp [intOf]; omega
        · have HLT := hid hlt
          have HST := hid hst
          have e0 : ((m.st k : Int) != 1) = true := bne_iff_ne.2 (by omega)
          generalize hs : m.st k = s at e0 HX
          clear hst hs
          go_wp2_with (first
            | (go_at_call 17; refine (h_blocks HS1.out).mono ?_; rintro e w' ⟨rfl, n1, rfl⟩)
            | (go_at_call 32; refine (h_lines_not (HS1.out.drewN _) k HLT.out HST.out).mono ?_; rintro e w' ⟨rfl, n2, rfl⟩)
            | (go_at_call 20; refine (h_state (HS1.out.drewN _) _).mono ?_; rintro e w' ⟨rfl, n3, rfl⟩; rw [HX.out]))
          go_roundw
          case rel => exact ⟨k + 1, by omega, by go_num, HK1.out.drewN _⟩
          case measure => simp [intOf]; omega
      · obtain rfl : k = m.bl.length := by omega
        go_wp2_with (first
          | (go_at_call 17; refine (h_blocks HS1.out).mono ?_; rintro e w' ⟨rfl, n1, rfl⟩)
          | (go_at_call 15; refine (alive_ok _).mono ?_; rintro e w3 ⟨rfl, K3⟩; have HK3 := hid (HK.out.chain (HK1.out.chain K3.from_drewN)); clear K3))
        go_ret
        exact ⟨rfl, HK3.out⟩
end
end Go.Proofs.Ytcljbmllfhaejaa
