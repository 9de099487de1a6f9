/-
  The law AllocBumps, walked: its loop. Conditions: those that stand in each theorem.
-/
import Derived.Test.YtkkmlllajfafcaaPJ4
namespace Go.Proofs.Ytkkmlllajfafcaa
set_option linter.unusedVariables false
set_option linter.unusedSimpArgs false
open Go.RowKit Go.Deep Go.Maps

section
variable {w W V : World} {b : HB} {m : HM} {q g : Nat} {A : AS}
theorem LH.step (u : LH w W b q m) (K : Kp [] W V) : LH w V b q m := ⟨u.sh.k0 K, u.kp.chain K, u.hb⟩
theorem wordsI_wd {x d k : Int} (h : vldB x d k = true) : wordsI x d k = ((wdN x.toNat d.toNat : Nat) : Int) := by unfold wordsI; rw [h]; rfl
set_option maxRecDepth 100000 in
set_option maxHeartbeats 8000000 in
theorem bumps_main (k : Nat) (v vk : Value) (hv : IsSh w v) (hk : IsBo w vk) (h1 : 2 ≤ k) (h2 : k ≤ 12) (h3 : ∀ A l c, v = .slice A l c → l ≤ 60) :
    Calls Try.prog 4 #[.int .i64 (k : Int), v, vk] w (TrueQ w) := by
  have hv0 := hv
  have hk0 := hk
  obtain ⟨As, l, cap, rfl, hl, _⟩ := hv
  obtain ⟨Ak, lk, capk, rfl, hlk, _⟩ := hk
  have hl60 := h3 _ _ _ rfl
  have HV := hid hv0
  have HK := hid hk0
  have HF : Hid ((decide ((k : Int) ≤ 12) || decide (64 < (k : Int))) = true) := by show _ = _; simp; omega
  have HB : Hid (2 ≤ k ∧ k ≤ 64) := ⟨h1, by omega⟩
  have t3 : decide ((60 : Int) < (l : Int)) = false := decide_eq_false (by omega)
  unfold maxLen at hlk hl
  clear hv0 hk0 h3 h1 h2
  go_enter Try.func4, Try.ntmps4
  go_wp2_with (first
    | (go_at_call 5; refine (LH.start (w := w) k _ HB.out.1 HB.out.2 (Kp.refl [] w)).mono ?_; rintro e w1 ⟨b1, rfl, U1⟩)
    | (go_at_call 12; refine (few_k _ _ HF).mono ?_; rintro e w2 ⟨rfl, K2⟩; have U2 := U1.step K2; clear K2)
    | (go_at_call 8; refine (U2.new 0 3 (by omega) (by omega)).mono ?_; rintro e w3 ⟨g1, rfl, U3⟩; have HU3 := hid U3; clear U3))
  go_loopw [11, 12] (fun e c wr => ∃ (i : Nat) (A : AS) (m : HM) (q : Nat), i ≤ l ∧ c = .int .i64 (i : Int) ∧ e = .int .i64 (A.c : Int) ∧ LV w wr b1 q m g1 A ∧ A.Bump ∧ q ≤ i) (fun _ c _ => l - (intOf c).toNat)
  case atStart => exact ⟨0, _, _, _, by omega, rfl, rfl, HU3.out, AS.new_bump 0, by omega⟩
  case round =>
    clear HU3
    obtain ⟨i, A, m, q, hi, rfl, rfl, U, hB, hq⟩ := hrel
    have HBU := hid hB
    clear hB
    by_cases hlt : i < l
    · obtain ⟨A', n', cap', e1, _, hA⟩ := HV.out.kp0 U.kp
      injection e1 with e1 e2 e3
      subst e1
      subst e2
      obtain ⟨gs, o, x, d, kk, rfl, s0, s1, s2⟩ := hA i hlt
      have HW0 : Hid (w.cell? ⟨gs, o + i * 3, none⟩ = some (.int .i64 x) ∧ w.cell? ⟨gs, o + i * 3 + 1, none⟩ = some (.int .i64 d) ∧ w.cell? ⟨gs, o + i * 3 + 2, none⟩ = some (.int .i64 kk)) := by
        obtain ⟨A0, n0, cap0, f1, _, fA⟩ := HV.out
        injection f1 with f1 f2 f3
        subst f2
        obtain ⟨g5, o5, x5, d5, k5, f4, r0, r1, r2⟩ := fA i hlt
        rw [← f1] at f4
        injection f4 with f4
        injection f4 with f5 f6
        subst f5
        subst f6
        have j0 := cell_kp U.kp r0
        have j1 := cell_kp U.kp r1
        have j2 := cell_kp U.kp r2
        rw [s0] at j0
        rw [s1] at j1
        rw [s2] at j2
        injection j0 with j0
        injection j1 with j1
        injection j2 with j2
        rw [j0, j1, j2]
        exact ⟨r0, r1, r2⟩
      have hq9 : q ≤ 900000000 := by omega
      have hlt2 : decide ((i : Int) < (l : Int)) = true := decide_eq_true (by omega)
      have hcb : A.c ≤ 8192 := U.ok.c
      have hINV := hid U.sh.inv
      have HKS := hid (HK.out.kp0 U.kp)
      have HK9 : Hid (∀ i, i < lk → ∃ g o p, Ak = some ⟨g, o, none⟩ ∧ w.cell? ⟨g, o + i, none⟩ = some (.bool p)) := by
        obtain ⟨A0, n0, cap0, f1, _, fA⟩ := HK.out
        obtain ⟨rfl, rfl, rfl⟩ := Value.slice.inj f1
        exact fA
      obtain ⟨ad, had⟩ : ∃ z, m.alV A x d kk = z := ⟨_, rfl⟩
      obtain ⟨ee, hee⟩ : ∃ z, m.alE A x d kk = z := ⟨_, rfl⟩
      have HAD := hid had
      have HEE := hid hee
      have HU := hid U
      clear hA e3 had hee U
      by_cases h0 : ee = 0
      · subst h0
        obtain ⟨hvl, hnz, hvv, haa⟩ := al_valid HEE.out
        have hadb : ad ≤ 8192 := by rw [← HAD.out, hvv]; exact (choose_ok hINV.out HU.out.ok _).1
        have hww := wordsI_wd hvl
        obtain ⟨wd, hwd⟩ : ∃ z, wdN x.toNat d.toNat = z := ⟨_, rfl⟩
        have hwb : 2 ≤ wd ∧ wd ≤ 218 := by
          obtain ⟨r', d', k', e1, e2, e3, hr, hd, _⟩ := vldB_nat hvl
          have := wdN_bd hr hd
          rw [← hwd, e1, e2, Int.toNat_natCast, Int.toNat_natCast]
          omega
        rw [hwd] at hww
        have HWD := hid hwd
        have HWW := hid hww
        have hsm := fun (hw : wd ≤ 32) => bump_small HBU.out HEE.out (by rw [hwd]; exact hw) (by rw [hwd]; omega)
        have hlg := fun (hw : ¬ wd ≤ 32) => bump_large (m := m) (A := A) HEE.out (by rw [hwd]; exact hw)
        have hw64 : W64 (ad : Int) := ⟨by omega, by omega⟩
        rw [HAD.out] at hsm
        rw [hwd] at hsm
        obtain ⟨cc, hcc⟩ : ∃ z, A.c = z := ⟨_, rfl⟩
        rw [hcc] at hcb hsm ⊢
        have HCC := hid hcc
        have HW64 := hid hw64
        obtain ⟨lo, hwb2⟩ := hwb
        clear hvl hnz hvv haa hww hwd hcc hw64
        have HOLD : Hid (∀ V, Kp [] w V → V.cell? ⟨gs, o + i * 3, none⟩ = some (.int .i64 x) ∧ V.cell? ⟨gs, o + i * 3 + 1, none⟩ = some (.int .i64 d) ∧ V.cell? ⟨gs, o + i * 3 + 2, none⟩ = some (.int .i64 kk)) := fun V K => ⟨cell_kp K HW0.out.1, cell_kp K HW0.out.2.1, cell_kp K HW0.out.2.2⟩
        have ha0 : ((0 : Int) != 0) = false := rfl
        by_cases hw32 : wd ≤ 32
        · have t32 : decide ((wd : Int) ≤ 32) = true := decide_eq_true (by omega)
          obtain ⟨hor, hc2, hb2⟩ := hsm hw32
          have HSM := hid (And.intro hc2 hb2)
          clear hsm hlg hc2 hb2
          by_cases hac : ad = cc
          · have ta : ((ad : Int) != (cc : Int)) = false := by simp [hac]
            have HAC := hid hac
            clear hor hac
            by_cases hik : i < lk
            · obtain ⟨A9, n9, cap9, e9, _, hA9⟩ := HKS.out
              injection e9 with e9 e10 e11
              subst e9
              subst e10
              obtain ⟨gk, ok, p, rfl, hp0⟩ := hA9 i hik
              obtain ⟨g8, o8, p8, e8, hw8⟩ := HK9.out i hik
              injection e8 with e8
              injection e8 with e8a e8b
              subst e8a
              subst e8b
              have HKC : Hid (∀ V, Kp [] w V → V.cell? ⟨gk, ok + i, none⟩ = some (.bool p8)) := fun V K => cell_kp K hw8
              have hik2 : decide ((i : Int) < (lk : Int)) = true := decide_eq_true (by omega)
              clear hA9 e11 hp0 hw8
              cases p8
              · go_wp2_with (first
                  | (go_at_call 6; refine (HU.out.alloc x d kk hq9).mono ?_; rintro e w5 ⟨rfl, U5⟩; rw [HAD.out, HEE.out]; have r0 := HOLD.out _ U5.kp; obtain ⟨r0, r1, r2⟩ := r0)
                  | (go_at_call 13; refine (U5.words x d kk).mono ?_; rintro e w6 ⟨rfl, U6⟩; rw [HWW.out]; have kc := HKC.out _ U6.kp))
                go_roundw
                case rel => exact ⟨i + 1, m.alA A x d kk, (m.alM A x d kk), q + 1, by omega, by go_num, by rw [HSM.out.1]; go_num, U6, HSM.out.2, by omega⟩
                case measure => simp [intOf]; omega
              · go_wp2_with (first
                  | (go_at_call 6; refine (HU.out.alloc x d kk hq9).mono ?_; rintro e w5 ⟨rfl, U5⟩; rw [HAD.out, HEE.out]; have r0 := HOLD.out _ U5.kp; obtain ⟨r0, r1, r2⟩ := r0)
                  | (go_at_call 13; refine (U5.words x d kk).mono ?_; rintro e w6 ⟨rfl, U6⟩; rw [HWW.out]; have kc := HKC.out _ U6.kp)
                  | (go_at_call 14; refine (U6.kill (ad : Int) HW64.out (by omega)).mono ?_; rintro e w7 ⟨rfl, U7⟩))
                go_roundw
                case rel => exact ⟨i + 1, m.alA A x d kk, ((m.alM A x d kk).killM (ad : Int)), q + 1, by omega, by go_num, by rw [HSM.out.1]; go_num, U7, HSM.out.2, by omega⟩
                case measure => simp [intOf]; omega
            · have hik2 : decide ((i : Int) < (lk : Int)) = false := decide_eq_false (by omega)
              go_wp2_with (first
                | (go_at_call 6; refine (HU.out.alloc x d kk hq9).mono ?_; rintro e w5 ⟨rfl, U5⟩; rw [HAD.out, HEE.out]; have r0 := HOLD.out _ U5.kp; obtain ⟨r0, r1, r2⟩ := r0)
                | (go_at_call 13; refine (U5.words x d kk).mono ?_; rintro e w6 ⟨rfl, U6⟩; rw [HWW.out]))
              go_roundw
              case rel => exact ⟨i + 1, m.alA A x d kk, (m.alM A x d kk), q + 1, by omega, by go_num, by rw [HSM.out.1]; go_num, U6, HSM.out.2, by omega⟩
              case measure => simp [intOf]; omega
          · have ta : ((ad : Int) != (cc : Int)) = true := bne_iff_ne.2 (by omega)
            obtain ⟨hm, hno⟩ : ad % 64 = 0 ∧ ¬ (0 < cc % 64 ∧ cc % 64 + wd ≤ 64) := by
              rcases hor with h | h
              · exact absurd h hac
              · exact h
            have tm : ((ad : Int) % 64 != 0) = false := by simp; omega
            clear hor
            by_cases hc0 : 0 < cc
            · have tc : decide ((0 : Int) < (cc : Int)) = true := decide_eq_true (by omega)
              have tcn : decide (0 < cc) = true := decide_eq_true hc0
              by_cases hcw : cc % 64 + wd ≤ 64
              · have tw : decide ((cc : Int) % 64 + (wd : Int) ≤ 64) = true := decide_eq_true (by omega)
                have tz : decide ((0 : Int) < (cc : Int) % 64) = false := decide_eq_false (by omega)
                clear hm hno hac hc0 hcw
                by_cases hik : i < lk
                · obtain ⟨A9, n9, cap9, e9, _, hA9⟩ := HKS.out
                  injection e9 with e9 e10 e11
                  subst e9
                  subst e10
                  obtain ⟨gk, ok, p, rfl, hp0⟩ := hA9 i hik
                  obtain ⟨g8, o8, p8, e8, hw8⟩ := HK9.out i hik
                  injection e8 with e8
                  injection e8 with e8a e8b
                  subst e8a
                  subst e8b
                  have HKC : Hid (∀ V, Kp [] w V → V.cell? ⟨gk, ok + i, none⟩ = some (.bool p8)) := fun V K => cell_kp K hw8
                  have hik2 : decide ((i : Int) < (lk : Int)) = true := decide_eq_true (by omega)
                  clear hA9 e11 hp0 hw8
                  cases p8
                  · go_wp2_with (first
                      | (go_at_call 6; refine (HU.out.alloc x d kk hq9).mono ?_; rintro e w5 ⟨rfl, U5⟩; rw [HAD.out, HEE.out]; have r0 := HOLD.out _ U5.kp; obtain ⟨r0, r1, r2⟩ := r0)
                      | (go_at_call 13; refine (U5.words x d kk).mono ?_; rintro e w6 ⟨rfl, U6⟩; rw [HWW.out]; have kc := HKC.out _ U6.kp))
                    go_roundw
                    case rel => exact ⟨i + 1, m.alA A x d kk, (m.alM A x d kk), q + 1, by omega, by go_num, by rw [HSM.out.1]; go_num, U6, HSM.out.2, by omega⟩
                    case measure => simp [intOf]; omega
                  · go_wp2_with (first
                      | (go_at_call 6; refine (HU.out.alloc x d kk hq9).mono ?_; rintro e w5 ⟨rfl, U5⟩; rw [HAD.out, HEE.out]; have r0 := HOLD.out _ U5.kp; obtain ⟨r0, r1, r2⟩ := r0)
                      | (go_at_call 13; refine (U5.words x d kk).mono ?_; rintro e w6 ⟨rfl, U6⟩; rw [HWW.out]; have kc := HKC.out _ U6.kp)
                      | (go_at_call 14; refine (U6.kill (ad : Int) HW64.out (by omega)).mono ?_; rintro e w7 ⟨rfl, U7⟩))
                    go_roundw
                    case rel => exact ⟨i + 1, m.alA A x d kk, ((m.alM A x d kk).killM (ad : Int)), q + 1, by omega, by go_num, by rw [HSM.out.1]; go_num, U7, HSM.out.2, by omega⟩
                    case measure => simp [intOf]; omega
                · have hik2 : decide ((i : Int) < (lk : Int)) = false := decide_eq_false (by omega)
                  go_wp2_with (first
                    | (go_at_call 6; refine (HU.out.alloc x d kk hq9).mono ?_; rintro e w5 ⟨rfl, U5⟩; rw [HAD.out, HEE.out]; have r0 := HOLD.out _ U5.kp; obtain ⟨r0, r1, r2⟩ := r0)
                    | (go_at_call 13; refine (U5.words x d kk).mono ?_; rintro e w6 ⟨rfl, U6⟩; rw [HWW.out]))
                  go_roundw
                  case rel => exact ⟨i + 1, m.alA A x d kk, (m.alM A x d kk), q + 1, by omega, by go_num, by rw [HSM.out.1]; go_num, U6, HSM.out.2, by omega⟩
                  case measure => simp [intOf]; omega
              · have tw : decide ((cc : Int) % 64 + (wd : Int) ≤ 64) = false := decide_eq_false (by omega)
                clear hm hno hac hc0 hcw
                by_cases hik : i < lk
                · obtain ⟨A9, n9, cap9, e9, _, hA9⟩ := HKS.out
                  injection e9 with e9 e10 e11
                  subst e9
                  subst e10
                  obtain ⟨gk, ok, p, rfl, hp0⟩ := hA9 i hik
                  obtain ⟨g8, o8, p8, e8, hw8⟩ := HK9.out i hik
                  injection e8 with e8
                  injection e8 with e8a e8b
                  subst e8a
                  subst e8b
                  have HKC : Hid (∀ V, Kp [] w V → V.cell? ⟨gk, ok + i, none⟩ = some (.bool p8)) := fun V K => cell_kp K hw8
                  have hik2 : decide ((i : Int) < (lk : Int)) = true := decide_eq_true (by omega)
                  clear hA9 e11 hp0 hw8
                  cases p8
                  · go_wp2_with (first
                      | (go_at_call 6; refine (HU.out.alloc x d kk hq9).mono ?_; rintro e w5 ⟨rfl, U5⟩; rw [HAD.out, HEE.out]; have r0 := HOLD.out _ U5.kp; obtain ⟨r0, r1, r2⟩ := r0)
                      | (go_at_call 13; refine (U5.words x d kk).mono ?_; rintro e w6 ⟨rfl, U6⟩; rw [HWW.out]; have kc := HKC.out _ U6.kp))
                    go_roundw
                    case rel => exact ⟨i + 1, m.alA A x d kk, (m.alM A x d kk), q + 1, by omega, by go_num, by rw [HSM.out.1]; go_num, U6, HSM.out.2, by omega⟩
                    case measure => simp [intOf]; omega
                  · go_wp2_with (first
                      | (go_at_call 6; refine (HU.out.alloc x d kk hq9).mono ?_; rintro e w5 ⟨rfl, U5⟩; rw [HAD.out, HEE.out]; have r0 := HOLD.out _ U5.kp; obtain ⟨r0, r1, r2⟩ := r0)
                      | (go_at_call 13; refine (U5.words x d kk).mono ?_; rintro e w6 ⟨rfl, U6⟩; rw [HWW.out]; have kc := HKC.out _ U6.kp)
                      | (go_at_call 14; refine (U6.kill (ad : Int) HW64.out (by omega)).mono ?_; rintro e w7 ⟨rfl, U7⟩))
                    go_roundw
                    case rel => exact ⟨i + 1, m.alA A x d kk, ((m.alM A x d kk).killM (ad : Int)), q + 1, by omega, by go_num, by rw [HSM.out.1]; go_num, U7, HSM.out.2, by omega⟩
                    case measure => simp [intOf]; omega
                · have hik2 : decide ((i : Int) < (lk : Int)) = false := decide_eq_false (by omega)
                  go_wp2_with (first
                    | (go_at_call 6; refine (HU.out.alloc x d kk hq9).mono ?_; rintro e w5 ⟨rfl, U5⟩; rw [HAD.out, HEE.out]; have r0 := HOLD.out _ U5.kp; obtain ⟨r0, r1, r2⟩ := r0)
                    | (go_at_call 13; refine (U5.words x d kk).mono ?_; rintro e w6 ⟨rfl, U6⟩; rw [HWW.out]))
                  go_roundw
                  case rel => exact ⟨i + 1, m.alA A x d kk, (m.alM A x d kk), q + 1, by omega, by go_num, by rw [HSM.out.1]; go_num, U6, HSM.out.2, by omega⟩
                  case measure => simp [intOf]; omega
            · have tc : decide ((0 : Int) < (cc : Int)) = false := decide_eq_false (by omega)
              have tcn : decide (0 < cc) = false := decide_eq_false hc0
              clear hm hno hac hc0
              by_cases hik : i < lk
              · obtain ⟨A9, n9, cap9, e9, _, hA9⟩ := HKS.out
                injection e9 with e9 e10 e11
                subst e9
                subst e10
                obtain ⟨gk, ok, p, rfl, hp0⟩ := hA9 i hik
                obtain ⟨g8, o8, p8, e8, hw8⟩ := HK9.out i hik
                injection e8 with e8
                injection e8 with e8a e8b
                subst e8a
                subst e8b
                have HKC : Hid (∀ V, Kp [] w V → V.cell? ⟨gk, ok + i, none⟩ = some (.bool p8)) := fun V K => cell_kp K hw8
                have hik2 : decide ((i : Int) < (lk : Int)) = true := decide_eq_true (by omega)
                clear hA9 e11 hp0 hw8
                cases p8
                · go_wp2_with (first
                    | (go_at_call 6; refine (HU.out.alloc x d kk hq9).mono ?_; rintro e w5 ⟨rfl, U5⟩; rw [HAD.out, HEE.out]; have r0 := HOLD.out _ U5.kp; obtain ⟨r0, r1, r2⟩ := r0)
                    | (go_at_call 13; refine (U5.words x d kk).mono ?_; rintro e w6 ⟨rfl, U6⟩; rw [HWW.out]; have kc := HKC.out _ U6.kp))
                  go_roundw
                  case rel => exact ⟨i + 1, m.alA A x d kk, (m.alM A x d kk), q + 1, by omega, by go_num, by rw [HSM.out.1]; go_num, U6, HSM.out.2, by omega⟩
                  case measure => simp [intOf]; omega
                · go_wp2_with (first
                    | (go_at_call 6; refine (HU.out.alloc x d kk hq9).mono ?_; rintro e w5 ⟨rfl, U5⟩; rw [HAD.out, HEE.out]; have r0 := HOLD.out _ U5.kp; obtain ⟨r0, r1, r2⟩ := r0)
                    | (go_at_call 13; refine (U5.words x d kk).mono ?_; rintro e w6 ⟨rfl, U6⟩; rw [HWW.out]; have kc := HKC.out _ U6.kp)
                    | (go_at_call 14; refine (U6.kill (ad : Int) HW64.out (by omega)).mono ?_; rintro e w7 ⟨rfl, U7⟩))
                  go_roundw
                  case rel => exact ⟨i + 1, m.alA A x d kk, ((m.alM A x d kk).killM (ad : Int)), q + 1, by omega, by go_num, by rw [HSM.out.1]; go_num, U7, HSM.out.2, by omega⟩
                  case measure => simp [intOf]; omega
              · have hik2 : decide ((i : Int) < (lk : Int)) = false := decide_eq_false (by omega)
                go_wp2_with (first
                  | (go_at_call 6; refine (HU.out.alloc x d kk hq9).mono ?_; rintro e w5 ⟨rfl, U5⟩; rw [HAD.out, HEE.out]; have r0 := HOLD.out _ U5.kp; obtain ⟨r0, r1, r2⟩ := r0)
                  | (go_at_call 13; refine (U5.words x d kk).mono ?_; rintro e w6 ⟨rfl, U6⟩; rw [HWW.out]))
                go_roundw
                case rel => exact ⟨i + 1, m.alA A x d kk, (m.alM A x d kk), q + 1, by omega, by go_num, by rw [HSM.out.1]; go_num, U6, HSM.out.2, by omega⟩
                case measure => simp [intOf]; omega
        · have t32 : decide ((wd : Int) ≤ 32) = false := decide_eq_false (by omega)
          have HLG := hid (hlg hw32)
          clear hsm hlg
          by_cases hik : i < lk
          · obtain ⟨A9, n9, cap9, e9, _, hA9⟩ := HKS.out
            injection e9 with e9 e10 e11
            subst e9
            subst e10
            obtain ⟨gk, ok, p, rfl, hp0⟩ := hA9 i hik
            obtain ⟨g8, o8, p8, e8, hw8⟩ := HK9.out i hik
            injection e8 with e8
            injection e8 with e8a e8b
            subst e8a
            subst e8b
            have HKC : Hid (∀ V, Kp [] w V → V.cell? ⟨gk, ok + i, none⟩ = some (.bool p8)) := fun V K => cell_kp K hw8
            have hik2 : decide ((i : Int) < (lk : Int)) = true := decide_eq_true (by omega)
            clear hA9 e11 hp0 hw8
            cases p8
            · go_wp2_with (first
                | (go_at_call 6; refine (HU.out.alloc x d kk hq9).mono ?_; rintro e w5 ⟨rfl, U5⟩; rw [HAD.out, HEE.out]; have r0 := HOLD.out _ U5.kp; obtain ⟨r0, r1, r2⟩ := r0)
                | (go_at_call 13; refine (U5.words x d kk).mono ?_; rintro e w6 ⟨rfl, U6⟩; rw [HWW.out]; have kc := HKC.out _ U6.kp))
              go_roundw
              case rel => exact ⟨i + 1, m.alA A x d kk, (m.alM A x d kk), q + 1, by omega, by go_num, by rw [HLG.out, HCC.out], U6, by rw [HLG.out]; exact HBU.out, by omega⟩
              case measure => simp [intOf]; omega
            · go_wp2_with (first
                | (go_at_call 6; refine (HU.out.alloc x d kk hq9).mono ?_; rintro e w5 ⟨rfl, U5⟩; rw [HAD.out, HEE.out]; have r0 := HOLD.out _ U5.kp; obtain ⟨r0, r1, r2⟩ := r0)
                | (go_at_call 13; refine (U5.words x d kk).mono ?_; rintro e w6 ⟨rfl, U6⟩; rw [HWW.out]; have kc := HKC.out _ U6.kp)
                | (go_at_call 14; refine (U6.kill (ad : Int) HW64.out (by omega)).mono ?_; rintro e w7 ⟨rfl, U7⟩))
              go_roundw
              case rel => exact ⟨i + 1, m.alA A x d kk, ((m.alM A x d kk).killM (ad : Int)), q + 1, by omega, by go_num, by rw [HLG.out, HCC.out], U7, by rw [HLG.out]; exact HBU.out, by omega⟩
              case measure => simp [intOf]; omega
          · have hik2 : decide ((i : Int) < (lk : Int)) = false := decide_eq_false (by omega)
            go_wp2_with (first
              | (go_at_call 6; refine (HU.out.alloc x d kk hq9).mono ?_; rintro e w5 ⟨rfl, U5⟩; rw [HAD.out, HEE.out]; have r0 := HOLD.out _ U5.kp; obtain ⟨r0, r1, r2⟩ := r0)
              | (go_at_call 13; refine (U5.words x d kk).mono ?_; rintro e w6 ⟨rfl, U6⟩; rw [HWW.out]))
            go_roundw
            case rel => exact ⟨i + 1, m.alA A x d kk, (m.alM A x d kk), q + 1, by omega, by go_num, by rw [HLG.out, HCC.out], U6, by rw [HLG.out]; exact HBU.out, by omega⟩
            case measure => simp [intOf]; omega
      · have te : (ee != 0) = true := bne_iff_ne.2 h0
        rcases alE_cases (m := m) (A := A) x d kk with h | ⟨_, haa, hmm⟩
        · exact absurd (HEE.out.symm.trans h) h0
        have HAA := hid haa
        clear h0 haa hmm
        go_wp2_with (go_at_call 6; refine (HU.out.alloc x d kk hq9).mono ?_; rintro e w5 ⟨rfl, U5⟩; rw [HAD.out, HEE.out])
        go_roundw
        case rel => exact ⟨i + 1, m.alA A x d kk, m.alM A x d kk, q + 1, by omega, by go_num, by rw [HAA.out], U5, by rw [HAA.out]; exact HBU.out, by omega⟩
        case measure => simp [intOf]; omega
    · obtain rfl : i = l := by omega
      have HU := hid U
      clear U
      go_wp2_with (go_at_call 11; refine (trueQ_alive HU.out.kp).mono ?_; rintro e w3 ⟨rfl, K3⟩; have HK3 := hid K3; clear K3)
      go_ret
      exact ⟨rfl, HK3.out.below (Nat.le_refl _) (by simp)⟩
end
end Go.Proofs.Ytkkmlllajfafcaa
