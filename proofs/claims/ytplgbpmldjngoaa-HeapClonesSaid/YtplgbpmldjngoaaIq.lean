/-
  The law HeapClones, walked. Conditions: those that stand in each theorem.
-/
import Derived.Test.YtplgbpmldjngoaaIo
import Derived.Test.YtplgbpmldjngoaaIj
namespace Go.Proofs.Ytplgbpmldjngoaa
set_option linter.unusedVariables false
set_option linter.unusedSimpArgs false
open Go.RowKit Go.Deep Go.Maps

section
variable {w : World}
set_option maxRecDepth 100000 in
set_option maxHeartbeats 3000000 in
theorem clones_ok (n : Int) (A : Option Addr) (len cap : Nat) (A2 : Option Addr) (len2 cap2 : Nat) (cl : Bool) (hA : ActsAt w A len) (hA2 : ActsAt w A2 len2) :
    Calls Try.prog 6 #[.int .i64 n, .slice A len cap, .slice A2 len2 cap2, .bool cl] w (TrueP w) := by
  have HA := hid hA
  have HA2 := hid hA2
  clear hA hA2
  go_enter Try.func6, Try.ntmps6
  go_wp2_with (fail)
  refine (h_made_any n A len cap HA.out).mono ?_
  rintro e w2 ⟨K2, rfl | ⟨b, m, q, rfl, S2, hq, N2⟩⟩
  · have HK := hid K2
    clear K2
    go_wp2_with (go_at_call 14; refine (alive_ok _).mono ?_; rintro e w3 ⟨rfl, K3⟩; have HK3 := hid (HK.out.chain K3); clear K3)
    go_ret
    exact ⟨rfl, HK3.out⟩
  · have HK := hid K2
    have HNb : Hid (∀ y ∈ b.all, w.heap.size ≤ y) := N2
    have HS := hid S2
    have hsl : m.stL.length ≤ 1000000 := by
      have h1 := stA_len S2.inv m.allL.length
      have h2 := all_le S2.inv
      unfold HM.stL
      omega
    have HSL := hid hsl
    clear K2 S2 N2 hsl
    by_cases hg : 60 < len2
    · have HG : Hid (decide (60 < len2) = true) := decide_eq_true hg
      clear hg
      go_wp2_with (first
        | (go_at_call 30; refine (h_great _ _ _).mono ?_; rintro e w' ⟨rfl, n0, rfl⟩; rw [HG.out])
        | (go_at_call 14; refine (alive_ok _).mono ?_; rintro e w3 ⟨rfl, K3⟩; have HK3 := hid (HK.out.chain K3.from_drewN); clear K3))
      go_ret
      exact ⟨rfl, HK3.out⟩
    · have HG : Hid (decide (60 < len2) = false) := decide_eq_false hg
      go_wp2_with (first
        | (go_at_call 30; refine (h_great _ _ _).mono ?_; rintro e w' ⟨rfl, n0, rfl⟩; rw [HG.out])
        | (go_at_call 31; refine (h_clone (HS.out.drewN _)).mono ?_; rintro e w3 ⟨c, rfl, S3, K3, N3⟩; have HSb := hid ((HS.out.drewN _).kp0 K3); have HSc := hid S3; have HK3 := hid (HK.out.chain K3.from_drewN); have HLb0 := hid HS.out.lt; have HN3 : Hid (∀ x ∈ c.all, w2.heap.size ≤ x) := N3; clear S3 K3 N3))
      refine (h_stateL HSb.out).mono ?_
      rintro e w4 ⟨v4, rfl, own4, bel4⟩
      obtain ⟨A4, cap4, rfl, _, hc4, _⟩ := FarI.of_own own4
      have HF4 : Hid (FarI w4 w3.heap.size (.slice A4 m.stL.length cap4) m.stL) := FarI.of_own own4
      have HK4 := hid (HK3.out.chain (Kp.of_below bel4))
      have HSb4 := hid (HSb.out.kp0 (Kp.of_below bel4))
      have HSc4 := hid (HSc.out.kp0 (Kp.of_below bel4))
      have HLb : Hid (∀ x ∈ b.all, x < w3.heap.size) := HSb.out.lt
      have HLc : Hid (∀ x ∈ c.all, x < w3.heap.size) := HSc.out.lt
      have HNc : Hid (∀ x ∈ c.all, w.heap.size ≤ x) := fun x hx => Nat.le_trans HK.out.size (HN3.out x hx)
      have HDcb : Hid (∀ x ∈ c.all, x ∉ b.all) := fun x hx hb => by have := HLb0.out x hb; have := HN3.out x hx; omega
      have HDbc : Hid (∀ x ∈ b.all, x ∉ c.all) := fun x hx hb => HDcb.out x hb hx
      clear own4 bel4 hc4 HSb HSc HK3
      go_wp2_with (first
        | (go_at_call 32; refine (h_stateL HSc4.out).mono ?_; rintro e w5 ⟨v5, rfl, own5, bel5⟩; have HF5 := hid (FarI.of_own own5); have HF45 := hid (HF4.out.kp (Kp.of_below bel5) (by simp)); have HK5 := hid (HK4.out.chain (Kp.of_below bel5)); have HSb5 := hid (HSb4.out.kp0 (Kp.of_below bel5)); have HSc5 := hid (HSc4.out.kp0 (Kp.of_below bel5)); clear own5 bel5)
        | (go_at_call 24; refine (ints_yes HF5.out HF45.out HSL.out).mono ?_; rintro e w' ⟨rfl, n6, rfl⟩; have HF6 := hid (HF45.out.kp (Kp.draw w5 n6) (by simp)); have HK6 := hid (HK5.out.drewN n6); have H6b := hid (HSb5.out.drewN n6); have H6c := hid (HSc5.out.drewN n6)))
      · obtain rfl : cl = true := by first | assumption | simp_all
        go_wp2
        go_loopw [14] (fun ct wr => ∃ (j : Nat) (mj : HM), j ≤ len2 ∧ ct = .int .i64 (j : Int) ∧ SH wr c (q + 2 * j) mj ∧ SH wr b q m ∧ FarI wr w3.heap.size (.slice A4 m.stL.length cap4) m.stL ∧ Kp [] w wr) (fun ct _ => len2 - (intOf ct).toNat)
        case atStart => exact ⟨0, m, by omega, rfl, H6c.out, H6b.out, HF6.out, HK6.out⟩
        case round =>
          obtain ⟨j, mj, hj, rfl, Sx, Sy, F, K⟩ := hrel
          by_cases hlt : j < len2
          · obtain ⟨g, o, y, hy, rfl, c0, c1, c2, c3, c4, c5, c6⟩ := (HA2.out.kp K) j hlt
            have HSx := hid Sx
            have HSy := hid Sy
            have HF := hid F
            have HKK := hid K
            have HY := hid hy
            have HQ : Hid (q + 2 * j ≤ 900000000) := by show _ ≤ _; omega
            clear Sx Sy F K hy H6b H6c HF6 HK6
            obtain ⟨yn, ya, yb, yc, yx, yd, yk⟩ := y
            simp only at c0 c1 c2 c3 c4 c5 c6
            have HDO : Hid (Calls Try.prog 33 #[.pointer (some ⟨c.g, 0, none⟩), .agg #[.int .i64 yn, .int .i64 ya, .int .i64 yb, .int .i64 yc, .int .i64 yx, .int .i64 yd, .int .i64 yk]] wr (DoP wr c (q + 2 * j) (mj.doE ⟨yn, ya, yb, yc, yx, yd, yk⟩) (mj.doM ⟨yn, ya, yb, yc, yx, yd, yk⟩))) := h_do HSx.out ⟨yn, ya, yb, yc, yx, yd, yk⟩ HY.out HQ.out
            go_wp2_with (fail)
            (with_reducible refine HDO.out.mono ?_)
            rintro e w7 ⟨rfl, S7, K7⟩
            have HS7 := hid S7
            have HSy7 := hid (HSy.out.kp K7 HDbc.out)
            have HF7 := hid (HF.out.kp K7 HLc.out)
            have HK7 := hid (HKK.out.trans K7 (U := []) (by simp) (fun t ht => .inr (HNc.out t ht)))
            clear S7 K7
            go_wp2
            go_roundw
            case rel =>
              have HF := (⟨j + 1, _, by omega, by go_num, HS7.out.mono (by omega), HSy7.out, HF7.out, HK7.out⟩ : ∃ (j' : Nat) (mj' : HM), j' ≤ len2 ∧ (Value.int .i64 ((j : Int) + 1)) = .int .i64 (j' : Int) ∧ SH w7 c (q + 2 * j') mj' ∧ SH w7 b q m ∧ FarI w7 w3.heap.size (.slice A4 m.stL.length cap4) m.stL ∧ Kp [] w w7)
              first | exact HF | ((repeat apply Exists.intro); exact ⟨HF, rfl⟩)
            case measure => simp [intOf]; omega
          · obtain rfl : j = len2 := by omega
            have HSy := hid Sy
            have HF := hid F
            have HKK := hid K
            clear Sx Sy F K H6b H6c HF6 HK6
            go_wp2_with (first
              | (go_at_call 32; refine (h_stateL HSy.out).mono ?_; rintro e w8 ⟨v8, rfl, own8, bel8⟩; have HF8 := hid (FarI.of_own own8); have HF9 := hid (HF.out.kp (Kp.of_below bel8) (by simp)); have HK8 := hid (HKK.out.chain (Kp.of_below bel8)); clear own8 bel8)
              | (go_at_call 24; refine (ints_yes HF8.out HF9.out HSL.out).mono ?_; rintro e w' ⟨rfl, n9, rfl⟩)
              | (go_at_call 14; refine (alive_ok _).mono ?_; rintro e w9 ⟨rfl, K9⟩; have HK9 : Hid (Kp [] w w9) := (by first | exact HK8.out.chain K9 | exact HK8.out.chain K9.from_drewN); clear K9))
            go_ret
            exact ⟨rfl, HK9.out⟩
      · obtain rfl : cl = false := by first | assumption | simp_all
        go_wp2
        go_loopw [14] (fun ct wr => ∃ (j : Nat) (mj : HM), j ≤ len2 ∧ ct = .int .i64 (j : Int) ∧ SH wr b (q + 2 * j) mj ∧ SH wr c q m ∧ FarI wr w3.heap.size (.slice A4 m.stL.length cap4) m.stL ∧ Kp [] w wr) (fun ct _ => len2 - (intOf ct).toNat)
        case atStart => exact ⟨0, m, by omega, rfl, H6b.out, H6c.out, HF6.out, HK6.out⟩
        case round =>
          obtain ⟨j, mj, hj, rfl, Sx, Sy, F, K⟩ := hrel
          by_cases hlt : j < len2
          · obtain ⟨g, o, y, hy, rfl, c0, c1, c2, c3, c4, c5, c6⟩ := (HA2.out.kp K) j hlt
            have HSx := hid Sx
            have HSy := hid Sy
            have HF := hid F
            have HKK := hid K
            have HY := hid hy
            have HQ : Hid (q + 2 * j ≤ 900000000) := by show _ ≤ _; omega
            clear Sx Sy F K hy H6b H6c HF6 HK6
            obtain ⟨yn, ya, yb, yc, yx, yd, yk⟩ := y
            simp only at c0 c1 c2 c3 c4 c5 c6
            have HDO : Hid (Calls Try.prog 33 #[.pointer (some ⟨b.g, 0, none⟩), .agg #[.int .i64 yn, .int .i64 ya, .int .i64 yb, .int .i64 yc, .int .i64 yx, .int .i64 yd, .int .i64 yk]] wr (DoP wr b (q + 2 * j) (mj.doE ⟨yn, ya, yb, yc, yx, yd, yk⟩) (mj.doM ⟨yn, ya, yb, yc, yx, yd, yk⟩))) := h_do HSx.out ⟨yn, ya, yb, yc, yx, yd, yk⟩ HY.out HQ.out
            go_wp2_with (fail)
            (with_reducible refine HDO.out.mono ?_)
            rintro e w7 ⟨rfl, S7, K7⟩
            have HS7 := hid S7
            have HSy7 := hid (HSy.out.kp K7 HDcb.out)
            have HF7 := hid (HF.out.kp K7 HLb.out)
            have HK7 := hid (HKK.out.trans K7 (U := []) (by simp) (fun t ht => .inr (HNb.out t ht)))
            clear S7 K7
            go_wp2
            go_roundw
            case rel =>
              have HF := (⟨j + 1, _, by omega, by go_num, HS7.out.mono (by omega), HSy7.out, HF7.out, HK7.out⟩ : ∃ (j' : Nat) (mj' : HM), j' ≤ len2 ∧ (Value.int .i64 ((j : Int) + 1)) = .int .i64 (j' : Int) ∧ SH w7 b (q + 2 * j') mj' ∧ SH w7 c q m ∧ FarI w7 w3.heap.size (.slice A4 m.stL.length cap4) m.stL ∧ Kp [] w w7)
              first | exact HF | ((repeat apply Exists.intro); exact ⟨HF, rfl⟩)
            case measure => simp [intOf]; omega
          · obtain rfl : j = len2 := by omega
            have HSy := hid Sy
            have HF := hid F
            have HKK := hid K
            clear Sx Sy F K H6b H6c HF6 HK6
            go_wp2_with (first
              | (go_at_call 32; refine (h_stateL HSy.out).mono ?_; rintro e w8 ⟨v8, rfl, own8, bel8⟩; have HF8 := hid (FarI.of_own own8); have HF9 := hid (HF.out.kp (Kp.of_below bel8) (by simp)); have HK8 := hid (HKK.out.chain (Kp.of_below bel8)); clear own8 bel8)
              | (go_at_call 24; refine (ints_yes HF8.out HF9.out HSL.out).mono ?_; rintro e w' ⟨rfl, n9, rfl⟩)
              | (go_at_call 14; refine (alive_ok _).mono ?_; rintro e w9 ⟨rfl, K9⟩; have HK9 : Hid (Kp [] w w9) := (by first | exact HK8.out.chain K9 | exact HK8.out.chain K9.from_drewN); clear K9))
            go_ret
            exact ⟨rfl, HK9.out⟩
end
end Go.Proofs.Ytplgbpmldjngoaa
