/-
  RootsReplaced's walk. Conditions: those that stand in each theorem.
-/
import Derived.Test.YtkepgcpogblfaaaSx
namespace Go.Proofs.Ytkepgcpogblfaaa
set_option linter.unusedVariables false
set_option linter.unusedSimpArgs false
open Go.RowKit Go.Deep Go.Maps

theorem countP_snoc (l : List Int) (f : List Int) (y : Int) : (l ++ [y]).countP (fun y => f.contains y) = l.countP (fun y => f.contains y) + (if f.contains y then 1 else 0) := by
  rw [List.countP_append]
  simp only [List.countP_cons, List.countP_nil, Nat.zero_add]
theorem own_apart {w W : World} {B : Nat} {v : Value} {zs : List Int} {T : List Nat} (own : W.ownsRow B 3 1 v zs.length (zcells zs)) (hT : ∀ x ∈ T, x < B) : ∀ A' n' c' g' o', v = .slice (some ⟨g', o', A'⟩) n' c' → g' ∉ T := fun A' n' c' g' o' e' hm => by
  have h1 := hT g' hm
  rcases own.2 with ⟨hv, _⟩ | ⟨g2, c2, cur, hv, hle, _⟩
  · rw [hv] at e'; cases e'
  · rw [hv] at e'; injection e' with e'; injection e' with e'; injection e' with e'; omega
section
variable {w0 w w' : World} {b : RB} {tb : TB} {t : RT}
set_option maxRecDepth 100000 in
set_option maxHeartbeats 3000000 in
theorem replaced_ok (mu : Int) {A : Option Addr} {n c : Nat} {X : Nat → ActR} (h : ActsR w A n X) {vf vt : Value} {f tt : List Int} (hf : IsI w vf f) (ht : IsI w vt tt) :
    Calls Try.prog 8 #[.int .i64 mu, .slice A n c, vf, vt] w (TrueP w) := by
  have H := hid h
  have HF := hid hf
  have HT := hid ht
  obtain ⟨Af, cf, rfl, hfl, _⟩ := hf
  obtain ⟨At, ct, rfl, htl, _⟩ := ht
  unfold maxLen at hfl htl
  clear h
  go_enter Try.func8, Try.ntmps8
  go_wp2_with (fail)
  refine (made_ok mu H.out).mono ?_
  rintro e w1 (⟨rfl, k1⟩ | ⟨b, tb, t, rfl, P, D⟩)
  · have HK := hid k1
    clear k1
    go_wp2_with (fail)
    refine (alive_ok _).mono ?_
    rintro e w2 ⟨rfl, k2⟩
    have HK2 := hid (HK.out.chain k2)
    clear k2
    go_wp2
    go_ret
    exact ⟨rfl, HK2.out⟩
  · have HP := hid P
    have hvl := vals_le P.rr.ok
    clear P D
    by_cases hf60 : 60 < f.length
    · have d1 : decide ((60 : Int) < (f.length : Int)) = true := decide_eq_true (by omega)
      have d2 : decide (60 < f.length) = true := decide_eq_true hf60
      go_wp2_with (fail)
      refine (alive_ok _).mono ?_
      rintro e w2 ⟨rfl, k2⟩
      have HK2 := hid (HP.out.kp.chain k2)
      clear k2
      go_wp2
      go_ret
      exact ⟨rfl, HK2.out⟩
    · have d1 : decide ((60 : Int) < (f.length : Int)) = false := decide_eq_false (by omega)
      have d2 : decide (60 < f.length) = false := decide_eq_false hf60
      by_cases ht60 : 60 < tt.length
      · have d3 : decide ((60 : Int) < (tt.length : Int)) = true := decide_eq_true (by omega)
        have d4 : decide (60 < tt.length) = true := decide_eq_true ht60
        go_wp2_with (fail)
        refine (alive_ok _).mono ?_
        rintro e w2 ⟨rfl, k2⟩
        have HK2 := hid (HP.out.kp.chain k2)
        clear k2
        go_wp2
        go_ret
        exact ⟨rfl, HK2.out⟩
      · have d3 : decide ((60 : Int) < (tt.length : Int)) = false := decide_eq_false (by omega)
        have d4 : decide (60 < tt.length) = false := decide_eq_false ht60
        go_wp2_with (fail)
        refine (all_ok HP.out).mono ?_
        rintro e w2 ⟨v2, rfl, own2, bel2⟩
        have HP2 := hid (HP.out.kp0 (Kp.of_below bel2))
        have HI2 := hid (IsI.of_own own2)
        have HN2 := hid (own_apart (w := w1) own2 (T := b.all) HP.out.rr.lt)
        clear own2 bel2 d1 d2 d3 d4
        rcases hg : repB f tt
        · have HG := hid hg
          clear hg
          go_wp2_with (fail)
          refine (r_replace_bad (b := b) HP2.out.rr (HF.out.old (T := []) HP2.out.kp (by simp)).is (HT.out.old (T := []) HP2.out.kp (by simp)).is HG.out).mono ?_
          rintro e w3 ⟨rfl, K3⟩
          have HP3 := hid (HP2.out.kp0 K3)
          have HI3 := hid (HI2.out.kp0 K3)
          clear K3
          go_wp2_with (fail)
          refine (all_ok HP3.out).mono ?_
          rintro e w4 ⟨v4, rfl, own4, bel4⟩
          have HP4 := hid (HP3.out.kp0 (Kp.of_below bel4))
          have HI4 := hid (HI3.out.kp0 (Kp.of_below bel4))
          have HI5 := hid (IsI.of_own own4)
          clear own4 bel4
          go_wp2_with (fail)
          refine (ints_same HI4.out HI5.out).mono ?_
          rintro e w5 ⟨rfl, m5, rfl⟩
          go_wp2_with (fail)
          refine (alive_ok _).mono ?_
          rintro e w6 ⟨rfl, k6⟩
          have HK6 := hid ((HP4.out.kp.drewN m5).chain k6)
          clear k6
          go_wp2
          go_ret
          exact ⟨rfl, HK6.out⟩
        · have HG := hid hg
          have hgp := hg
          unfold repB at hgp
          simp only [Bool.and_eq_true, decide_eq_true_eq] at hgp
          have HGP := hid hgp
          have HR := hid (reps_all (tt := tt) HP.out.rr.ok hgp.1.1.2)
          have HLEN := hid hgp.1.1.1
          have HF60 : Hid (f.length ≤ 60) := Nat.le_of_not_lt hf60
          have HF62 : Hid (f.length < 4611686018427387904) := Nat.lt_of_le_of_lt (Nat.le_of_not_lt hf60) (by decide)
          clear hg hgp
          go_wp2_with (fail)
          refine (r_replace (b := b) HP2.out.rr (HF.out.old HP2.out.kp HP2.out.nb) (HT.out.old HP2.out.kp HP2.out.nb) HGP.out.1.1.1 HGP.out.1.1.2 HGP.out.1.2 HGP.out.2 HF62.out).mono ?_
          rintro e w3 ⟨rfl, R3, K3⟩
          have HP3 := hid (HP2.out.stepR R3 K3)
          have HI3 := hid (HI2.out.kps K3 HN2.out)
          generalize (t.reps f tt t.xs).1 = s at HP3 HR R3
          generalize (t.reps f tt t.xs).2 = cn at HR
          clear R3 K3
          go_wp2_with (fail)
          refine (all_ok2 HP3.out HR.out.every).mono ?_
          rintro e w4 ⟨v4, rfl, own4, bel4⟩
          have HP4 := hid (HP3.out.kp0 (Kp.of_below bel4))
          have HI4 := hid (HI3.out.kp0 (Kp.of_below bel4))
          have HI5 := hid (IsI.of_own own4)
          clear own4 bel4
          obtain ⟨A2, c2, h2, _, hA2⟩ := HI4.out
          obtain ⟨A5, c5, h5, _, hA5⟩ := HI5.out
          have HNA := hid hA5
          have HOA := hid hA2
          have hvs : s.vals.length = t.vals.length := by rw [HR.out.vals, List.length_map]
          rw [hvs] at h5
          subst h2 h5
          have HVS := hid hvs
          have HFO := hid (HF.out.old (T := []) HP4.out.kp (by simp))
          have HTO := hid (HT.out.old (T := []) HP4.out.kp (by simp))
          clear hA2 hA5 hvs hf60 ht60
          have hf60 := HF60.out
          go_wp2
          go_loopw [15, 16, 17] (fun s15 s16 s17 wr => ∃ i m : Nat, i ≤ t.vals.length ∧ s17 = .int .i64 (i : Int) ∧ s15 = .int .i64 (((t.vals.take i).countP (fun y => f.contains y) : Nat) : Int) ∧ s16 = .bool (freshV (t.vals.take i) tt) ∧ wr = w4.drewN m) (fun _ _ s17 _ => t.vals.length - (intOf s17).toNat)
          case atStart => exact ⟨0, 0, by omega, rfl, by simp, by simp [freshV], rfl⟩
          case round =>
            obtain ⟨i, m, hi, rfl, rfl, rfl, rfl⟩ := hrel
            by_cases hlt : i < t.vals.length
            · obtain ⟨g2, o2, rfl, q0⟩ := HOA.out i hlt
              obtain ⟨g5, o5, rfl, q1⟩ := HNA.out i (by have := HVS.out; omega)
              have HYM := hid (getD_mem' hlt)
              have e1 : s.vals.getD i 0 = repl f tt (t.vals.getD i 0) := by
                rw [HR.out.vals, List.getD_eq_getElem?_getD, List.getElem?_map, List.getElem?_eq_getElem hlt, List.getD_eq_getElem?_getD, List.getElem?_eq_getElem hlt]
                rfl
              rw [e1] at q1
              have HCS := hid (countP_snoc (t.vals.take i) f (t.vals.getD i 0))
              have HFS := hid (freshV_snoc (t.vals.take i) tt (t.vals.getD i 0))
              have HTS := hid (takeI_getD hlt)
              have HCL : Hid ((t.vals.take i).countP (fun y => f.contains y) ≤ 144) := by
                have h1 := List.countP_le_length (p := fun y => f.contains y) (l := t.vals.take i)
                have h2 : (t.vals.take i).length ≤ i := List.length_take_le _ _
                show _ ≤ _
                omega
              have HRE := hid (replTo_end f tt (t.vals.getD i 0))
              generalize t.vals.getD i 0 = y at q0 q1 HCS HFS HTS HRE HYM
              generalize (t.vals.take i).countP (fun y => f.contains y) = c0 at HCS HCL
              generalize freshV (t.vals.take i) tt = fr at HFS
              have HQ1 := hid q1
              clear e1 q1
              go_wp2
              go_loopw [15, 16, 18, 19] (fun s15 s16 s18 s19 wr2 => ∃ j m2 : Nat, j ≤ f.length ∧ s19 = .int .i64 (j : Int) ∧ s18 = .int .i64 (replTo f tt y j) ∧ s15 = .int .i64 ((c0 + (if (f.take j).contains y then 1 else 0) : Nat) : Int) ∧ s16 = .bool (fr && !((tt.take j).contains y)) ∧ wr2 = w4.drewN m2) (fun _ _ _ s19 _ => f.length - (intOf s19).toNat)
              case atStart => exact ⟨0, m, by omega, rfl, by simp [replTo], by simp, by simp, rfl⟩
              case round =>
                obtain ⟨j, m2, hj, rfl, rfl, rfl, rfl, rfl⟩ := hrel
                by_cases hlt2 : j < f.length
                · have hlt3 : j < tt.length := by have := HLEN.out; omega
                  obtain ⟨gf, of, rfl, _, c1⟩ := HFO.out.at_ hlt2
                  obtain ⟨gt, ot, rfl, _, c2'⟩ := HTO.out.at_ hlt3
                  have HCT := hid (contains_snoc tt j y hlt3)
                  have HSAME : Hid (f.getD j 0 ≠ y → replTo f tt y (j + 1) = replTo f tt y j ∧ (f.take (j + 1)).contains y = (f.take j).contains y) := fun h => replTo_same hlt2 h
                  have HHIT : Hid (f.getD j 0 = y → replTo f tt y (j + 1) = tt.getD j 0 ∧ (f.take j).contains y = false ∧ (f.take (j + 1)).contains y = true) := fun h => replTo_hit HGP.out.2 hlt2 h
                  have hcl := HCL.out
                  generalize f.getD j 0 = x at c1 HSAME HHIT
                  generalize tt.getD j 0 = z at c2' HCT HHIT
                  have HC4 : Hid ((fr && !((tt.take (j + 1)).contains y)) = ((fr && !((tt.take j).contains y)) && (y != z))) := by
                    show _ = _
                    rw [HCT.out]
                    have e : (z == y) = (y == z) := by
                      by_cases h : y = z
                      · rw [h]
                      · rw [beq_eq_false_iff_ne.2 h, beq_eq_false_iff_ne.2 (Ne.symm h)]
                    rw [e]
                    cases fr <;> cases (tt.take j).contains y <;> cases h : (y == z) <;> simp [bne, h]
                  generalize (fr && !((tt.take j).contains y)) = bb at HC4
                  by_cases hxy : y = x
                  · obtain ⟨r1, r2, r3⟩ := HHIT.out hxy.symm
                    have HR1 := hid r1
                    have HR3 := hid r3
                    have hd : (y == x) = true := beq_iff_eq.2 hxy
                    have e0 : (if (f.take j).contains y = true then 1 else 0 : Nat) = 0 := by rw [r2]; rfl
                    rw [e0, Nat.add_zero]
                    clear r1 r2 r3 hxy e0
                    rcases bb
                    · have HC5 : Hid ((fr && !((tt.take (j + 1)).contains y)) = false) := by show _ = _; rw [HC4.out]; rfl
                      clear HC4
                      go_wp2
                      go_quiet (fail)
                      go_wp2
                      go_quiet (fail)
                      go_wp2
                      go_roundw
                      case rel => exact ⟨j + 1, _, by omega, by go_num, by rw [HR1.out], by rw [HR3.out]; go_num, by rw [HC5.out], rfl⟩
                      case measure => simp [intOf]; omega
                    · have HC5 : Hid ((fr && !((tt.take (j + 1)).contains y)) = (y != z)) := by show _ = _; rw [HC4.out]; rfl
                      clear HC4
                      rcases hyz : (y != z)
                      all_goals
                        go_wp2
                        go_quiet (fail)
                        go_wp2
                        go_quiet (fail)
                        go_wp2
                        go_roundw
                        case rel => exact ⟨j + 1, _, by omega, by go_num, by rw [HR1.out], by rw [HR3.out]; go_num, by rw [HC5.out, hyz], rfl⟩
                        case measure => simp [intOf]; omega
                  · obtain ⟨r1, r3⟩ := HSAME.out (Ne.symm hxy)
                    have HR1 := hid r1
                    have HR3 : Hid (c0 + (if (f.take (j + 1)).contains y = true then 1 else 0) = c0 + (if (f.take j).contains y = true then 1 else 0)) := by show _ = _; rw [r3]
                    have hcj : c0 + (if (f.take j).contains y = true then 1 else 0) ≤ 145 := by split <;> omega
                    generalize c0 + (if (f.take j).contains y = true then 1 else 0) = cj at HR3 hcj
                    have hd : (y == x) = false := beq_eq_false_iff_ne.2 hxy
                    clear r1 r3 hxy
                    rcases bb
                    · have HC5 : Hid ((fr && !((tt.take (j + 1)).contains y)) = false) := by show _ = _; rw [HC4.out]; rfl
                      clear HC4
                      go_wp2
                      go_quiet (fail)
                      go_wp2
                      go_quiet (fail)
                      go_wp2
                      go_roundw
                      case rel => exact ⟨j + 1, _, by omega, by go_num, by rw [HR1.out], by rw [HR3.out], by rw [HC5.out], rfl⟩
                      case measure => simp [intOf]; omega
                    · have HC5 : Hid ((fr && !((tt.take (j + 1)).contains y)) = (y != z)) := by show _ = _; rw [HC4.out]; rfl
                      clear HC4
                      rcases hyz : (y != z)
                      all_goals
                        go_wp2
                        go_quiet (fail)
                        go_wp2
                        go_quiet (fail)
                        go_wp2
                        go_roundw
                        case rel => exact ⟨j + 1, _, by omega, by go_num, by rw [HR1.out], by rw [HR3.out], by rw [HC5.out, hyz], rfl⟩
                        case measure => simp [intOf]; omega
                · obtain rfl : j = f.length := by omega
                  have q1 := HQ1.out
                  have hfl2 : (tt.take f.length).contains y = tt.contains y := by rw [HLEN.out, List.take_length]
                  have HE1 : Hid ((t.vals.take (i + 1)).countP (fun y => f.contains y) = c0 + (if (f.take f.length).contains y then 1 else 0)) := by
                    show _ = _
                    rw [HTS.out, HCS.out, List.take_length]
                  have HE2 : Hid (freshV (t.vals.take (i + 1)) tt = (fr && !((tt.take f.length).contains y))) := by
                    show _ = _
                    rw [HTS.out, HFS.out, hfl2]
                  rw [HRE.out]
                  generalize repl f tt y = ry at q1
                  generalize (fr && !((tt.take f.length).contains y)) = b2 at HE2
                  have hcb : c0 + (if (f.take f.length).contains y = true then 1 else 0) ≤ 145 := by have := HCL.out; split <;> omega
                  generalize c0 + (if (f.take f.length).contains y = true then 1 else 0) = c9 at HE1 hcb
                  clear hfl2 q0 hj hlt2
                  go_wp2
                  go_roundw
                  case rel => exact ⟨i + 1, m2, by omega, by go_num, by rw [HE1.out], by rw [HE2.out], rfl⟩
                  case measure => simp [intOf]; omega
            · obtain rfl : i = t.vals.length := by omega
              rw [List.take_length, ← HR.out.count]
              obtain ⟨fr, hfr⟩ : ∃ fr, fr = freshV t.vals tt := ⟨_, rfl⟩
              rw [← hfr]
              have HFR := hid hfr
              have HT60 : Hid (tt.length ≤ 60) := by have := HLEN.out; show _ ≤ _; omega
              have htl60 := HT60.out
              clear hfr hi hlt hfl htl
              go_wp2
              go_loopw [16, 20] (fun s16 s20 wr => ∃ j m2 : Nat, (j + 1 ≤ tt.length ∨ j = 0) ∧ s20 = .int .i64 ((j : Int) + 1) ∧ s16 = .bool (fr && risTo tt (j + 1)) ∧ wr = w4.drewN m2) (fun _ s20 _ => tt.length - (intOf s20).toNat)
              case atStart => exact ⟨0, m, .inr rfl, by simp, by rw [risTo_one, Bool.and_true], rfl⟩
              case round =>
                obtain ⟨j, m2, hj, rfl, rfl, rfl⟩ := hrel
                by_cases hlt : j + 1 < tt.length
                · obtain ⟨gt, ot, rfl, _, c1⟩ := HTO.out.at_ hlt
                  obtain ⟨gt', ot', e', _, c0⟩ := HTO.out.at_ (show j < tt.length by omega)
                  cases e'
                  have HRS := hid (risTo_succ tt j)
                  generalize tt.getD (j + 1) 0 = x at c1 HRS
                  generalize tt.getD j 0 = z at c0 HRS
                  have HC : Hid ((fr && risTo tt (j + 2)) = ((fr && risTo tt (j + 1)) && decide (z < x))) := by show _ = _; rw [HRS.out, Bool.and_assoc]
                  generalize (fr && risTo tt (j + 1)) = bb at HC
                  have q1 : (j : Int) + 1 < (tt.length : Int) := by omega
                  have q2 : ((j : Int) + 1).toNat = j + 1 := by omega
                  have q3 : IntKind.i64.wrap ((j : Int) + 1 - 1) = (j : Int) := by rw [IntKind.wrap_i64]; omega
                  have q4 : (j : Int) + 1 - 1 = (j : Int) := by omega
                  have q5 : (j : Int) < (tt.length : Int) := by omega
                  have q6 : 0 ≤ (j : Int) + 1 := by omega
                  clear hj
                  rcases bb
                  · have HC5 : Hid ((fr && risTo tt (j + 2)) = false) := by show _ = _; rw [HC.out]; rfl
                    clear HC
                    go_wp2
                    go_quiet (fail)
                    go_wp2
                    go_roundw
                    case rel => exact ⟨j + 1, _, .inl (by omega), by go_num, by rw [HC5.out], rfl⟩
                    case measure => simp [intOf]; omega
                  · by_cases hzx : z < x
                    · have HC5 : Hid ((fr && risTo tt (j + 2)) = true) := by show _ = _; rw [HC.out, decide_eq_true hzx]; rfl
                      have dz : decide (z < x) = true := decide_eq_true hzx
                      clear HC
                      go_wp2
                      go_quiet (fail)
                      go_wp2
                      go_roundw
                      case rel => exact ⟨j + 1, _, .inl (by omega), by go_num, by rw [HC5.out], rfl⟩
                      case measure => simp [intOf]; omega
                    · have HC5 : Hid ((fr && risTo tt (j + 2)) = false) := by show _ = _; rw [HC.out, decide_eq_false hzx]; rfl
                      have dz : decide (z < x) = false := decide_eq_false hzx
                      clear HC
                      go_wp2
                      go_quiet (fail)
                      go_wp2
                      go_roundw
                      case rel => exact ⟨j + 1, _, .inl (by omega), by go_num, by rw [HC5.out], rfl⟩
                      case measure => simp [intOf]; omega
                · have HRB : Hid (risTo tt (j + 1) = risB tt) := by
                    show _ = _
                    by_cases h1 : j + 1 = tt.length
                    · rw [h1, risTo_end]
                    · have h0 : tt.length = 0 := by omega
                      have hj0 : j = 0 := by omega
                      rw [hj0, risTo_one, ← risTo_end, h0]
                      rfl
                  rw [HRB.out]
                  have HP5 := hid (HP4.out.kp0 (Kp.draw w4 m2))
                  have q2 : (tt.length : Int) ≤ (j : Int) + 1 := by omega
                  have q1 : ¬ ((j : Int) + 1 < (tt.length : Int)) := by omega
                  have hj60 : j ≤ 60 := by omega
                  rcases hb : (fr && risB tt)
                  · clear hb hj hlt
                    go_wp2_with (fail)
                    refine (alive_ok _).mono ?_
                    rintro e w6 ⟨rfl, k6⟩
                    have HK6 := hid (HP5.out.kp.chain k6)
                    clear k6
                    go_wp2
                    go_ret
                    exact ⟨rfl, HK6.out⟩
                  · have hb2 : fr = true ∧ risB tt = true := by simpa using hb
                    obtain ⟨g1, g2, g3, g4⟩ := reps_back HR.out HG.out hb2.2 (HFR.out ▸ hb2.1)
                    have HG1 := hid g1
                    have HG2 := hid g2
                    have HG4 := hid g4
                    have hgp := g1
                    unfold repB at hgp
                    simp only [Bool.and_eq_true, decide_eq_true_eq] at hgp
                    have HGQ := hid hgp
                    have HRR := hid (r_replace (b := b) HP5.out.rr (HT.out.old HP5.out.kp HP5.out.nb) (HF.out.old HP5.out.kp HP5.out.nb) hgp.1.1.1 hgp.1.1.2 hgp.1.2 hgp.2 (Nat.lt_of_le_of_lt HT60.out (by decide)))
                    rw [g3] at HRR
                    have HI6 := hid (HI4.out.kp0 (Kp.draw w4 m2))
                    clear hb hb2 g1 g2 g3 g4 hgp hj hlt
                    go_wp2_with (fail)
                    refine HRR.out.mono ?_
                    rintro e w6 ⟨rfl, R6, K6⟩
                    have HP6 := hid (HP5.out.stepR R6 K6)
                    have HI7 := hid (HI6.out.kps K6 HN2.out)
                    clear R6 K6
                    go_wp2_with (fail)
                    refine (all_ok2 HP6.out HG4.out).mono ?_
                    rintro e w7 ⟨v7, rfl, own7, bel7⟩
                    have HP7 := hid (HP6.out.kp0 (Kp.of_below bel7))
                    have hi7 := IsI.of_own own7
                    rw [HG2.out] at hi7
                    have HI8 := hid hi7
                    have HI9 := hid (HI7.out.kp0 (Kp.of_below bel7))
                    clear own7 bel7 hi7
                    go_wp2_with (fail)
                    refine (ints_same HI8.out HI9.out).mono ?_
                    rintro e w8 ⟨rfl, m8, rfl⟩
                    go_wp2_with (fail)
                    refine (alive_ok _).mono ?_
                    rintro e w9 ⟨rfl, k9⟩
                    have HK9 := hid ((HP7.out.kp.drewN m8).chain k9)
                    clear k9
                    go_wp2
                    go_ret
                    exact ⟨rfl, HK9.out⟩
end
end Go.Proofs.Ytkepgcpogblfaaa
