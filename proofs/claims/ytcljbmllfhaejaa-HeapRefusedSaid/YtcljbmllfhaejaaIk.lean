/-
  The law HeapRefused, walked. Conditions: those that stand in each theorem.
-/
import Derived.Test.YtcljbmllfhaejaaIj
namespace Go.Proofs.Ytcljbmllfhaejaa
set_option linter.unusedVariables false
set_option linter.unusedSimpArgs false
open Go.RowKit Go.Deep Go.Maps

theorem lack_has {m : HM} {a : Int} (h : m.lackE a ≠ 0) : m.has a = false := by
  rcases hb : m.has a
  · rfl
  · exact absurd (by simp [HM.lackE, hb]) h
/-- A call that returns an error changes nothing. -/
theorem do_same {m : HM} {y : ActM} (h : m.doE y ≠ 0) : m.doM y = m := by
  unfold HM.doE at h
  unfold HM.doM
  by_cases h0 : y.n = 0
  · rw [if_pos h0] at h ⊢
    unfold HM.claimM; rw [if_neg h]
  rw [if_neg h0] at h ⊢
  by_cases h1 : y.n = 1
  · rw [if_pos h1] at h ⊢
    unfold HM.claimM; rw [if_neg h]
  rw [if_neg h1] at h ⊢
  by_cases h2 : y.n = 2
  · rw [if_pos h2] at h ⊢
    unfold HM.releaseM; rw [if_neg h]
  rw [if_neg h2] at h ⊢
  by_cases h3 : y.n = 3
  · rw [if_pos h3] at h ⊢
    unfold HM.retagM; rw [if_neg h]
  rw [if_neg h3] at h ⊢
  by_cases h4 : y.n = 4
  · rw [if_pos h4] at h ⊢
    unfold HM.placeM; rw [if_neg h]
  rw [if_neg h4] at h ⊢
  by_cases h5 : y.n = 5
  · rw [if_pos h5] at h ⊢
    unfold HM.killM; rw [lack_has h]; rfl
  rw [if_neg h5] at h ⊢
  by_cases h6 : y.n = 6
  · rw [if_pos h6] at h ⊢
    unfold HM.moveM; rw [if_neg h]
  rw [if_neg h6] at h ⊢
  by_cases h7 : y.n = 7
  · rw [if_pos h7] at h ⊢
    unfold HM.setRefM; rw [if_neg h]
  rw [if_neg h7] at h ⊢
  by_cases h8 : y.n = 8
  · rw [if_pos h8] at h ⊢
    unfold HM.setDatM; rw [if_neg h]
  rw [if_neg h8] at h ⊢
  by_cases h9 : y.n = 9
  · rw [if_pos h9] at h ⊢
    unfold HM.pokeM; rw [if_neg h]
  rw [if_neg h9] at h ⊢
  by_cases h10 : y.n = 10
  · rw [if_pos h10] at h ⊢
    unfold HM.pinM; rw [lack_has h]; rfl
  rw [if_neg h10] at h ⊢
  by_cases h11 : y.n = 11
  · rw [if_pos h11] at h ⊢
    unfold HM.pinM; rw [lack_has h]; rfl
  rw [if_neg h11] at h ⊢
  by_cases h12 : y.n = 12
  · rw [if_pos h12] at h
    exact absurd rfl h
  · rw [if_neg h12]
section
variable {w : World}
set_option maxRecDepth 100000 in
set_option maxHeartbeats 8000000 in
theorem refused_ok (n : Int) (A : Option Addr) (len cap : Nat) (y : ActM) (hA : ActsAt w A len) (hy : y.Ok) :
    Calls Try.prog 9 #[.int .i64 n, .slice A len cap, y.val] w (TrueP w) := by
  have HY := hid hy
  have HA := hid hA
  clear hA hy
  obtain ⟨yn, ya, yb, yc, yx, yd, yk⟩ := y
  show Calls _ _ #[.int .i64 n, .slice A len cap, .agg #[.int .i64 yn, .int .i64 ya, .int .i64 yb, .int .i64 yc, .int .i64 yx, .int .i64 yd, .int .i64 yk]] w (TrueP w)
  have K0 := hid (Kp.new w (.cells #[.int .i64 yn, .int .i64 ya, .int .i64 yb, .int .i64 yc, .int .i64 yx, .int .i64 yd, .int .i64 yk] 56))
  have B0 := hid (Blk.new w 56 #[.int .i64 yn, .int .i64 ya, .int .i64 yb, .int .i64 yc, .int .i64 yx, .int .i64 yd, .int .i64 yk])
  go_enter Try.func9, Try.ntmps9
  go_wp2_with (fail)
  refine (h_made_any n A len cap (HA.out.kp K0.out)).mono ?_
  rintro e w2 ⟨K2, rfl | ⟨b, m, q, rfl, S2, hq, N2⟩⟩
  · have HK := hid (K0.out.chain K2)
    clear K2
    go_wp2_with (go_at_call 15; refine (alive_ok _).mono ?_; rintro e w3 ⟨rfl, K3⟩; have HK3 : Hid (Kp [] w w3) := (by first | exact HK.out.chain K3 | exact HK.out.chain K3.from_drewN); clear K3)
    go_ret
    exact ⟨rfl, HK3.out⟩
  · have HK := hid (K0.out.chain K2)
    have HB2 := hid (B0.out.kp K2 (by simp))
    have HN : Hid (∀ x ∈ b.all, w.heap.size ≤ x) := fun x hx => Nat.le_trans K0.out.size (N2 x hx)
    have HS := hid S2
    have q0 := HB2.out.cell 0
    have hsl : m.stL.length ≤ 1000000 := by
      have h1 := stA_len S2.inv m.allL.length
      have h2 := all_le S2.inv
      unfold HM.stL
      omega
    have HSL := hid hsl
    have HQ : Hid (q ≤ 900000000) := by show _ ≤ _; omega
    clear K2 S2 N2 hsl
    by_cases h12 : yn = 12
    · have e12 : (yn == 12) = true := beq_iff_eq.2 h12
      go_wp2_with (go_at_call 15; refine (alive_ok _).mono ?_; rintro e w3 ⟨rfl, K3⟩; have HK3 : Hid (Kp [] w w3) := (by first | exact HK.out.chain K3 | exact HK.out.chain K3.from_drewN); clear K3)
      go_ret
      exact ⟨rfl, HK3.out⟩
    · have e12 : (yn == 12) = false := beq_eq_false_iff_ne.2 h12
      clear h12
      have HST : Hid (∀ W, Kp [] w2 W → _) := fun W k => h_stateL (HS.out.kp0 k)
      go_wp2_with (fail)
      refine (HST.out _ (by first | exact Kp.refl _ _ | exact Kp.draw _ _)).mono ?_
      rintro e w3 ⟨v3, rfl, own3, bel3⟩
      have hK3 : Kp [] w2 w3 := by first | exact Kp.of_below bel3 | exact (Kp.of_below bel3).from_drewN
      have HK3 := hid hK3
      have HS3 := hid (HS.out.kp0 hK3)
      have HF3 : Hid (FarI w3 w2.heap.size v3 m.stL) := FarI.of_own own3
      have hb3 := HB2.out.kp hK3 (by simp)
      have p0 := hb3.cell 0
      have p1 := hb3.cell 1
      have p2 := hb3.cell 2
      have p3 := hb3.cell 3
      have p4 := hb3.cell 4
      have p5 := hb3.cell 5
      have p6 := hb3.cell 6
      clear own3 bel3 hK3 hb3
      by_cases he : m.doE ⟨yn, ya, yb, yc, yx, yd, yk⟩ = 0
      · have HE := hid he
        clear he
        go_wp2_with (first
          | (go_at_call 37; refine (h_do HS3.out ⟨yn, ya, yb, yc, yx, yd, yk⟩ HY.out HQ.out).mono ?_; rintro e w4 ⟨rfl, S4, K4⟩; rw [HE.out]; have HK4 := hid ((HK.out.chain HK3.out).trans K4 (U := []) (by simp) (fun x hx => .inr (HN.out x hx))); clear S4 K4)
          | (go_at_call 15; refine (alive_ok _).mono ?_; rintro e w9 ⟨rfl, K9⟩; have HK9 : Hid (Kp [] w w9) := (by first | exact HK4.out.chain K9 | exact HK4.out.chain K9.from_drewN); clear K9))
        go_ret
        exact ⟨rfl, HK9.out⟩
      · have hsame := do_same he
        have e1 : (m.doE ⟨yn, ya, yb, yc, yx, yd, yk⟩ == 0) = false := beq_eq_false_iff_ne.2 he
        have HM' := hid hsame
        clear he hsame
        go_wp2_with (first
          | (go_at_call 37; refine (h_do HS3.out ⟨yn, ya, yb, yc, yx, yd, yk⟩ HY.out HQ.out).mono ?_; rintro e w4 ⟨rfl, S4, K4⟩; rw [HM'.out] at S4; have HS4 := hid S4; have HF4 := hid (HF3.out.kp K4 (fun x hx => HS.out.lt x hx)); have HK4 := hid ((HK.out.chain HK3.out).trans K4 (U := []) (by simp) (fun x hx => .inr (HN.out x hx))); clear S4 K4)
          | (go_at_call 36; refine (h_stateL HS4.out).mono ?_; rintro e w5 ⟨v5, rfl, own5, bel5⟩; have HF5 := hid (FarI.of_own own5); have HF6 := hid (HF4.out.kp' (Kp.of_below bel5) (by simp)); have HK5 := hid (HK4.out.chain (Kp.of_below bel5)); clear own5 bel5)
          | (go_at_call 30; refine (ints_yes HF5.out HF6.out HSL.out).mono ?_; rintro e w' ⟨rfl, n7, rfl⟩)
          | (go_at_call 15; refine (alive_ok _).mono ?_; rintro e w9 ⟨rfl, K9⟩; have HK9 : Hid (Kp [] w w9) := (by first | exact HK5.out.chain K9 | exact HK5.out.chain K9.from_drewN); clear K9))
        go_ret
        exact ⟨rfl, HK9.out⟩
end
end Go.Proofs.Ytcljbmllfhaejaa
