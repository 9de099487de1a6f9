/-
  The laws' made and all. Conditions: those that stand in each theorem.
-/
import Derived.Test.YtnidadhoojbmeaaSq
namespace Go.Proofs.Ytnidadhoojbmeaa
set_option linter.unusedVariables false
set_option linter.unusedSimpArgs false
open Go.RowKit Go.Deep Go.Maps

/-- What made returns. -/
def MadeP (w0 : World) (e : Ending) (w' : World) : Prop :=
  (e = .returned (.tuple #[.pointer none, .pointer none]) ∧ Kp [] w0 w') ∨
    ∃ b tb t, e = .returned (.tuple #[.pointer (some ⟨RB.g b, 0, none⟩), .pointer (some ⟨TB.g tb, 0, none⟩)]) ∧ P2 w0 b tb t t w' ∧ t.Wd
/-- All values, in order. -/
def RT.vals (t : RT) : List Int := t.every.map t.at_
section
variable {w0 w w' : World} {b : RB} {tb : TB} {t : RT}
theorem P2.start {b : RB} {w1 w2 : World} {n : Nat} (R : RR w1 b (RT.new n)) (K : Kp [] w w1) (N : ∀ x ∈ b.all, w.heap.size ≤ x) (T : TR w2 tb (RT.new n)) (K2 : Kp [] w1 w2) (N2 : ∀ x ∈ tb.all, w1.heap.size ≤ x) : P2 w b tb (RT.new n) (RT.new n) w2 :=
  ⟨R.kp0 K2, T, fun x hx hm => by have := R.lt x hx; have := N2 x hm; omega, K.chain K2, N, fun x hx => by have := N2 x hx; have := K.size; omega⟩
set_option maxRecDepth 100000 in
set_option maxHeartbeats 4000000 in
theorem made_ok (mu : Int) {A : Option Addr} {n c : Nat} {X : Nat → ActR} (h : ActsR w A n X) :
    Calls Try.prog 13 #[.int .i64 mu, .slice A n c] w (MadeP w) := by
  have H := hid h
  have hle := h.le
  unfold maxLen at hle
  by_cases hmu : 1 ≤ mu ∧ mu ≤ 4
  · obtain ⟨m, rfl⟩ : ∃ m : Nat, mu = (m : Int) := ⟨mu.toNat, by omega⟩
    have hm1 : 1 ≤ m := by omega
    have hm4 : m ≤ 4 := by omega
    clear h hmu
    go_enter Try.func13, Try.ntmps13
    go_wp2_with (fail)
    refine (r_new_ok (w := w) m hm1 hm4).mono ?_
    rintro e w1 ⟨b, rfl, R1, K1, N1⟩
    have HR1 := hid R1
    have HK1 := hid K1
    have HN1 := hid N1
    clear R1 K1 N1
    go_wp2_with (fail)
    refine (t_new_ok (w := w1) m hm1 hm4).mono ?_
    rintro e w2 ⟨tb, rfl, T2, K2, N2⟩
    have HP2 := hid (P2.start HR1.out HK1.out HN1.out T2 K2 N2)
    clear T2 K2 N2
    have HA2 : Hid (ActsR w2 A n X) := ⟨H.out.le, fun i hi => ⟨(H.out.ok i hi).a, (H.out.ok i hi).f.kp0 HP2.out.kp, (H.out.ok i hi).tt.kp0 HP2.out.kp, (H.out.ok i hi).w⟩, fun i hi => by
      obtain ⟨g, o, e, c0, c1, c2, c3, c4, c5, c6⟩ := H.out.at_ i hi
      exact ⟨g, o, e, cell_kp HP2.out.kp c0, cell_kp HP2.out.kp c1, cell_kp HP2.out.kp c2, cell_kp HP2.out.kp c3, cell_kp HP2.out.kp c4, cell_kp HP2.out.kp c5, cell_kp HP2.out.kp c6⟩⟩
    go_wp2_with (fail)
    refine (great_ok HA2.out).mono ?_
    rintro e w3 ⟨g, rfl, hg, m3, rfl⟩
    have HP3 := hid (HP2.out.kp0 (Kp.draw w2 m3))
    rcases g
    · obtain ⟨hn, hl⟩ := hg rfl
      have HL := hid hl
      clear hl hg
      go_wp2
      go_loopw [10] (fun s wr => ∃ (k : Nat) (b' : RB) (tb' : TB) (t : RT), k ≤ n ∧ s = .int .i64 (k : Int) ∧ b'.g = b.g ∧ tb'.g = tb.g ∧ P2 w b' tb' t t wr ∧ t.Wd) (fun s _ => n - (intOf s).toNat)
      case atStart => exact ⟨0, b, tb, _, by omega, rfl, rfl, rfl, HP3.out, RT.Wd.new m⟩
      case round =>
        obtain ⟨k, b', tb', t, hk, rfl, hbg, htg, P, D⟩ := hrel
        have HP := hid P
        have HD := hid D
        have HBG := hid hbg
        have HTG := hid htg
        by_cases hlt : k < n
        · obtain ⟨gl, o, rfl, c0, c1, c2, c3, c4, c5, c6⟩ := H.out.at_ k hlt
          have hp := play_ok P (X k) (H.out.ok k hlt) (HL.out k hlt).1
          have d0 := cell_kp P.kp c0
          have d1 := cell_kp P.kp c1
          have d2 := cell_kp P.kp c2
          have d3 := cell_kp P.kp c3
          have d4 := cell_kp P.kp c4
          have d5 := cell_kp P.kp c5
          have d6 := cell_kp P.kp c6
          unfold ActR.cells at hp
          rw [hbg, htg] at hp
          have HPL := hid hp
          have HD2 := hid (HD.out.act (H.out.ok k hlt).a (H.out.ok k hlt).w)
          clear hp P D hbg htg c0 c1 c2 c3 c4 c5 c6
          go_wp2_with (fail)
          refine HPL.out.mono ?_
          rintro e w5 ⟨rfl, b2, tb2, hb2, htb2, P5⟩
          have HP5 := hid P5
          have HB2 := hid (hb2.trans HBG.out)
          have HTB2 := hid (htb2.trans HTG.out)
          clear P5 hb2 htb2 d0 d1 d2 d3 d4 d5 d6
          go_wp2
          go_roundw
          case rel => exact ⟨k + 1, b2, tb2, _, by omega, by go_num, HB2.out, HTB2.out, HP5.out, HD2.out⟩
          case measure => simp [intOf]; omega
        · obtain rfl : k = n := by omega
          clear P D hbg htg
          go_wp2
          go_ret2
          exact .inr ⟨b', tb', t, by rw [HBG.out, HTG.out]; rfl, HP.out, HD.out⟩
    · clear hg
      go_wp2
      go_ret2
      exact .inl ⟨rfl, HP3.out.kp⟩
  · clear h
    have HMU := hid hmu
    clear hmu
    go_enter Try.func13, Try.ntmps13
    go_wp2_with (fail)
    refine (r_new_bad (w := w) mu HMU.out).mono ?_
    rintro e w1 ⟨rfl, n1, rfl⟩
    go_wp2_with (fail)
    refine (t_new_bad (w := w.drewN n1) mu HMU.out).mono ?_
    rintro e w2 ⟨rfl, n2, rfl⟩
    have HA2 : Hid (ActsR (w.drewN (n1 + n2)) A n X) := ⟨H.out.le, fun i hi => ⟨(H.out.ok i hi).a, (H.out.ok i hi).f.kp0 (Kp.draw _ _), (H.out.ok i hi).tt.kp0 (Kp.draw _ _), (H.out.ok i hi).w⟩, H.out.at_⟩
    go_wp2_with (fail)
    refine (great_ok (w := w.drewN (n1 + n2)) HA2.out).mono ?_
    rintro e w3 ⟨g, rfl, hg, m3, rfl⟩
    clear hg
    rcases g
    all_goals
      go_wp2
      go_ret2
      exact .inl ⟨rfl, by first | exact ((Kp.draw _ _).drewN _).drewN _ | exact (Kp.draw _ _).drewN _ | exact Kp.draw _ _⟩
end
end Go.Proofs.Ytnidadhoojbmeaa
