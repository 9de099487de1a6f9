/-
  RootsPlays' walk. Conditions: those that stand in each theorem.
-/
import Derived.Test.YtnidadhoojbmeaaUh
import Derived.Test.YtnidadhoojbmeaaUi
namespace Go.Proofs.Ytnidadhoojbmeaa
set_option linter.unusedVariables false
set_option linter.unusedSimpArgs false
open Go.RowKit Go.Deep Go.Maps

section
variable {w w' W : World} {b : RB} {tb : TB} {t : RT}
set_option maxRecDepth 100000 in
set_option maxHeartbeats 8000000 in
theorem plays_ok (mu : Int) {A : Option Addr} {n c : Nat} {X : Nat → ActR} (h : ActsR w A n X) :
    Calls Try.prog 3 #[.int .i64 mu, .slice A n c] w (TrueP w) := by
  have H := hid h
  have hle := h.le
  unfold maxLen at hle
  clear h
  go_enter Try.func3, Try.ntmps3
  go_wp2_with (fail)
  refine (great_ok H.out).mono ?_
  rintro e w1 ⟨g, rfl, hg, m1, rfl⟩
  rcases g
  · have HL := hid (hg rfl).2
    clear hg
    by_cases hmu : 1 ≤ mu ∧ mu ≤ 4
    · obtain ⟨m, rfl⟩ : ∃ m : Nat, mu = (m : Int) := ⟨mu.toNat, by omega⟩
      have hm1 : 1 ≤ m := by omega
      have hm4 : m ≤ 4 := by omega
      clear hmu
      go_wp2_with (fail)
      refine (r_new_ok m hm1 hm4).mono ?_
      rintro e w2 ⟨b, rfl, R2, K2, N2⟩
      have HR2 := hid R2
      have HK2 := hid (Kp.from_drewN K2)
      have HN2 := hid N2
      clear R2 K2 N2
      go_wp2_with (fail)
      refine (t_new_ok (w := w2) m hm1 hm4).mono ?_
      rintro e w3 ⟨tb, rfl, T3, K3, N3⟩
      have HP3 := hid (P2.start (w := w) HR2.out HK2.out HN2.out T3 K3 N3)
      clear T3 K3 N3
      go_wp2
      go_loopw [5, 7, 9] (fun r s i wr => ∃ (k : Nat) (b' : RB) (tb' : TB) (t : RT), k ≤ n ∧ r = .pointer (some ⟨b'.g, 0, none⟩) ∧ s = .pointer (some ⟨tb'.g, 0, none⟩) ∧ i = .int .i64 (k : Int) ∧ P2 w b' tb' t t wr ∧ t.Wd) (fun _ _ i _ => n - (intOf i).toNat)
      case atStart => exact ⟨0, b, tb, _, by omega, rfl, rfl, rfl, HP3.out, RT.Wd.new m⟩
      case round =>
        obtain ⟨k, b', tb', t, hk, rfl, rfl, rfl, P, D⟩ := hrel
        have HPk := hid P
        have HDk := hid D
        by_cases hlt : k < n
        · obtain ⟨gl, o, rfl, c0, c1, c2, c3, c4, c5, c6⟩ := H.out.at_ k hlt
          have d0 := cell_kp P.kp c0
          have d1 := cell_kp P.kp c1
          have d2 := cell_kp P.kp c2
          have d3 := cell_kp P.kp c3
          have d4 := cell_kp P.kp c4
          have d5 := cell_kp P.kp c5
          have d6 := cell_kp P.kp c6
          clear P D
          rcases h5 : ((X k).k == 5)
          · clear c0 c1 c2 c3 c4 c5 c6
            have hp := play_ok HPk.out (X k) (H.out.ok k hlt) (HL.out k hlt).1
            unfold ActR.cells at hp
            have HPL := hid hp
            have HD2 := hid (HDk.out.act (H.out.ok k hlt).a (H.out.ok k hlt).w)
            clear hp
            go_wp2_with (fail)
            refine HPL.out.mono ?_
            rintro e w5 ⟨rfl, b2, tb2, hb2, htb2, P5⟩
            rw [← hb2, ← htb2]
            have HP5 := hid P5
            clear P5 hb2 htb2 d0 d1 d2 d3 d4 d5 d6
            go_wp2
            go_roundw
            case rel => exact ⟨k + 1, b2, tb2, _, by omega, rfl, rfl, by go_num, HP5.out, HD2.out⟩
            case measure => simp [intOf]; omega
          · have HC := hid (And.intro c0 (And.intro c1 (And.intro c2 (And.intro c3 (And.intro c4 (And.intro c5 c6))))))
            clear c0 c1 c2 c3 c4 c5 c6
            go_wp2_with (fail)
            refine (r_clone HPk.out.rr).mono ?_
            rintro e w6 ⟨cb, rfl, R6, K6, N6⟩
            have HR6 := hid R6
            have HK6 := hid K6
            have HN6 := hid N6
            clear R6 K6 N6 d0 d1 d2 d3 d4 d5 d6
            go_wp2_with (fail)
            refine (t_clone (HPk.out.tr.kp0 HK6.out)).mono ?_
            rintro e w7 ⟨tc, rfl, T7, K7, N7⟩
            have P7 : P2 w cb tc t t w7 := ⟨HR6.out.kp0 K7, T7, fun x hx hm => by have := HR6.out.lt x hx; have := N7 x hm; omega, (HPk.out.kp.chain HK6.out).chain K7, fun x hx => by have := HN6.out x hx; have := HPk.out.kp.size; omega, fun x hx => by have := N7 x hx; have := HPk.out.kp.size; have := HK6.out.size; omega⟩
            obtain ⟨c0, c1, c2, c3, c4, c5, c6⟩ := HC.out
            have d0 := cell_kp P7.kp c0
            have d1 := cell_kp P7.kp c1
            have d2 := cell_kp P7.kp c2
            have d3 := cell_kp P7.kp c3
            have d4 := cell_kp P7.kp c4
            have d5 := cell_kp P7.kp c5
            have d6 := cell_kp P7.kp c6
            have HP7 := hid P7
            clear T7 K7 N7 P7 c0 c1 c2 c3 c4 c5 c6
            have hp := play_ok HP7.out (X k) (H.out.ok k hlt) (HL.out k hlt).1
            unfold ActR.cells at hp
            have HPL := hid hp
            have HD2 := hid (HDk.out.act (H.out.ok k hlt).a (H.out.ok k hlt).w)
            clear hp
            go_wp2_with (fail)
            refine HPL.out.mono ?_
            rintro e w5 ⟨rfl, b2, tb2, hb2, htb2, P5⟩
            rw [← hb2, ← htb2]
            have HP5 := hid P5
            clear P5 hb2 htb2 d0 d1 d2 d3 d4 d5 d6
            go_wp2
            go_roundw
            case rel => exact ⟨k + 1, b2, tb2, _, by omega, rfl, rfl, by go_num, HP5.out, HD2.out⟩
            case measure => simp [intOf]; omega
        · obtain rfl : k = n := by omega
          clear P D
          go_wp2_with (fail)
          refine (same_ok HPk.out.rr HPk.out.tr HDk.out).mono ?_
          rintro e w6 ⟨rfl, K6⟩
          have HK6 := hid (HPk.out.kp.chain K6)
          clear K6
          go_wp2_with (fail)
          refine (alive_ok _).mono ?_
          rintro e w8 ⟨rfl, K8⟩
          have HK8 := hid (HK6.out.chain K8)
          clear K8
          go_wp2
          go_ret
          exact ⟨rfl, HK8.out⟩
    · have HMU := hid hmu
      clear hmu
      go_wp2_with (fail)
      refine (r_new_bad mu HMU.out).mono ?_
      rintro e w2 ⟨rfl, n2, rfl⟩
      go_wp2_with (fail)
      refine (t_new_bad mu HMU.out).mono ?_
      rintro e w3 ⟨rfl, n3, rfl⟩
      go_wp2
      go_loopw [5, 7, 9] (fun r s i wr => r = .pointer none ∧ s = .pointer none ∧ i = .int .i64 0 ∧ Kp [] w wr) (fun _ _ i _ => 0)
      case atStart => exact ⟨rfl, rfl, rfl, by first | exact (Kp.draw _ _).drewN _ | exact ((Kp.draw _ _).drewN _).drewN _ | exact Kp.draw _ _⟩
      case round =>
        obtain ⟨rfl, rfl, rfl, K⟩ := hrel
        have HK := hid K
        clear K
        by_cases hn : 0 < n
        · go_wp2_with (fail)
          refine (same_none _).mono ?_
          rintro e w6 ⟨rfl, K6⟩
          have HK6 := hid (HK.out.chain K6)
          clear K6
          go_wp2_with (fail)
          refine (alive_ok _).mono ?_
          rintro e w8 ⟨rfl, K8⟩
          have HK8 := hid (HK6.out.chain K8)
          clear K8
          go_wp2
          go_ret
          exact ⟨rfl, HK8.out⟩
        · obtain rfl : n = 0 := by omega
          go_wp2_with (fail)
          refine (same_none _).mono ?_
          rintro e w6 ⟨rfl, K6⟩
          have HK6 := hid (HK.out.chain K6)
          clear K6
          go_wp2_with (fail)
          refine (alive_ok _).mono ?_
          rintro e w8 ⟨rfl, K8⟩
          have HK8 := hid (HK6.out.chain K8)
          clear K8
          go_wp2
          go_ret
          exact ⟨rfl, HK8.out⟩
  · clear hg
    go_wp2_with (fail)
    refine (alive_ok _).mono ?_
    rintro e w2 ⟨rfl, k2⟩
    have HK2 := hid ((Kp.draw w m1).chain k2)
    clear k2
    go_wp2
    go_ret
    exact ⟨rfl, HK2.out⟩
end
end Go.Proofs.Ytnidadhoojbmeaa
