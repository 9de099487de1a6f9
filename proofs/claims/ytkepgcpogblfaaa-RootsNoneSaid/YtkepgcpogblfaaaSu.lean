/-
  RootsRefused's walk. Conditions: those that stand in each theorem.
-/
import Derived.Test.YtkepgcpogblfaaaSt
namespace Go.Proofs.Ytkepgcpogblfaaa
set_option linter.unusedVariables false
set_option linter.unusedSimpArgs false
open Go.RowKit Go.Deep Go.Maps

section
variable {w0 w w' W : World} {b : RB} {tb : TB} {t : RT}
theorem ActR.Ok.kp0 {x : ActR} (h : x.Ok w) (k : Kp [] w W) : x.Ok W := ⟨h.a, h.f.kp0 k, h.tt.kp0 k, h.w⟩
theorem ActsR.kp0 {A : Option Addr} {n : Nat} {X : Nat → ActR} (h : ActsR w A n X) (k : Kp [] w W) : ActsR W A n X := ⟨h.le, fun i hi => (h.ok i hi).kp0 k, fun i hi => by
  obtain ⟨g, o, e, c0, c1, c2, c3, c4, c5, c6⟩ := h.at_ i hi
  exact ⟨g, o, e, cell_kp k c0, cell_kp k c1, cell_kp k c2, cell_kp k c3, cell_kp k c4, cell_kp k c5, cell_kp k c6⟩⟩
theorem ActsR.one {x : ActR} (h : x.Ok w) : ActsR (w.alloc (.cells #[.int .i64 x.k, .int .i64 x.pk, .int .i64 x.pm, .int .i64 x.pi, .int .i64 x.a, x.vf, x.vt] 36)) (some ⟨w.heap.size, 0, none⟩) 1 (fun _ => x) := by
  have b := Blk.new w 36 #[.int .i64 x.k, .int .i64 x.pk, .int .i64 x.pm, .int .i64 x.pi, .int .i64 x.a, x.vf, x.vt]
  refine ⟨by unfold maxLen; decide, fun i hi => h.kp0 (Kp.new _ _), fun i hi => ⟨w.heap.size, 0, rfl, ?_⟩⟩
  obtain rfl : i = 0 := by omega
  exact ⟨b.cell 0, b.cell 1, b.cell 2, b.cell 3, b.cell 4, b.cell 5, b.cell 6⟩
set_option maxRecDepth 100000 in
set_option maxHeartbeats 8000000 in
theorem refused_ok (mu : Int) {A : Option Addr} {n c : Nat} {X : Nat → ActR} (h : ActsR w A n X) (x : ActR) (hx : x.Ok w) :
    Calls Try.prog 9 #[.int .i64 mu, .slice A n c, .agg x.cells] w (TrueP w) := by
  have KN := Kp.new w (.cells #[.int .i64 x.k, .int .i64 x.pk, .int .i64 x.pm, .int .i64 x.pi, .int .i64 x.a, x.vf, x.vt] 36)
  have HKN := hid KN
  have H := hid (h.kp0 KN)
  have HX := hid (hx.kp0 KN)
  have HB := hid (Blk.new w 36 #[.int .i64 x.k, .int .i64 x.pk, .int .i64 x.pm, .int .i64 x.pi, .int .i64 x.a, x.vf, x.vt])
  clear h hx KN
  unfold ActR.cells
  go_enter Try.func9, Try.ntmps9
  go_wp2_with (fail)
  generalize (w.alloc (.cells #[.int .i64 x.k, .int .i64 x.pk, .int .i64 x.pm, .int .i64 x.pi, .int .i64 x.a, x.vf, x.vt] 36)) = w0 at *
  refine (made_ok mu H.out).mono ?_
  rintro e w1 (⟨rfl, k1⟩ | ⟨b, tb, t, rfl, P, D⟩)
  · have HK := hid (HKN.out.chain k1)
    clear k1
    go_wp2_with (fail)
    refine (alive_ok _).mono ?_
    rintro e w2 ⟨rfl, k2⟩
    have HK2 := hid (HK.out.chain k2)
    clear k2
    go_wp2
    go_ret
    exact ⟨rfl, HK2.out⟩
  · have HP := hid P
    have HD := hid D
    have bb := HB.out.kp P.kp (by simp)
    have c0 := bb.cell 0
    have c1 := bb.cell 1
    have c2 := bb.cell 2
    have c3 := bb.cell 3
    have c4 := bb.cell 4
    have c5 := bb.cell 5
    have c6 := bb.cell 6
    clear P D bb
    go_wp2_with (fail)
    refine (great_ok (ActsR.one (HX.out.kp0 HP.out.kp))).mono ?_
    rintro e w2 ⟨g, rfl, hg, m2, rfl⟩
    have HP2 := hid (HP.out.kp0 ((Kp.new _ (.cells #[.int .i64 x.k, .int .i64 x.pk, .int .i64 x.pm, .int .i64 x.pi, .int .i64 x.a, x.vf, x.vt] 36)).drewN m2))
    clear c0 c1 c2 c3 c4 c5 c6
    rcases g
    · have HL := hid ((hg rfl).2 0 (by omega))
      clear hg
      go_wp2_with (fail)
      refine (all_ok HP2.out).mono ?_
      rintro e w3 ⟨v3, rfl, own3, bel3⟩
      have HP3 := hid (HP2.out.kp0 (Kp.of_below bel3))
      obtain ⟨A3, cp3, h3, hl3, hA3⟩ := IsI.of_own own3
      have HI3 := hid (show IsI w3 v3 t.vals from ⟨A3, cp3, h3, hl3, hA3⟩)
      have HN3 : Hid (∀ A' n' c' g' o', v3 = .slice (some ⟨g', o', A'⟩) n' c' → g' ∉ b.all) := fun A' n' c' g' o' e' hm => by
        have h1 := HP2.out.rr.lt g' hm
        rcases own3.2 with ⟨hv, _⟩ | ⟨g2, c2, cur, hv, hle, _⟩
        · rw [hv] at e'; cases e'
        · rw [hv] at e'; injection e' with e'; injection e' with e'; injection e' with e'; omega
      clear own3 bel3 h3 hl3 hA3
      go_wp2_with (fail)
      refine (r_queue HP3.out.rr).mono ?_
      rintro e w4 ⟨v4, rfl, own4, bel4⟩
      have HP4 := hid (HP3.out.kp0 (Kp.of_below bel4))
      have HI4 := hid (IsI.of_own own4)
      have HI3b := hid (HI3.out.kp0 (Kp.of_below bel4))
      have HO4 := hid own4
      have bb := HB.out.kp HP4.out.kp (by simp)
      have c0 := bb.cell 0
      have c1 := bb.cell 1
      have c2 := bb.cell 2
      have c3 := bb.cell 3
      have c4 := bb.cell 4
      have c5 := bb.cell 5
      have c6 := bb.cell 6
      clear own4 bel4 bb
      obtain ⟨k, pk, pm, pi, a, vf, vt, f, tt⟩ := x
      simp only at c0 c1 c2 c3 c4 c5 c6 HL HX
      have HXF := hid HX.out.f
      have HXT := hid HX.out.tt
      simp only at HXF HXT
      have HKEEP3 : Hid (∀ w5, Kp b.all w4 w5 → IsI w5 v3 t.vals) := fun w5 K5 => HI3b.out.kps K5 HN3.out
      have HKEEP4 : Hid (∀ w5, Kp b.all w4 w5 → IsI w5 v4 t.qu) := fun w5 K5 => HI4.out.kps K5 (fun A' n' c' g' o' e' hm => by
        have h1 := HP3.out.rr.lt g' hm
        rcases HO4.out.2 with ⟨hv, _⟩ | ⟨g2, c2, cur, hv, hle, _⟩
        · rw [hv] at e'; cases e'
        · rw [hv] at e'; injection e' with e'; injection e' with e'; injection e' with e'; omega)
      by_cases k0 : k = 0
      · subst k0
        rcases hE : (t.setE pk pm pi a == 0)
        · have HS := hid (r_set (b := b) HP4.out.rr pk pm pi a)
          have HM : Hid (t.setM pk pm pi a = t) := by show _ = _; unfold RT.setM; rw [if_neg]; simpa using hE
          generalize t.setE pk pm pi a = ee at HS hE
          go_wp2_with (fail)
          refine HS.out.mono ?_
          rintro e w5 ⟨rfl, R5, K5⟩
          rw [HM.out] at R5
          have HP5 := hid (HP4.out.stepR R5 K5)
          have HI3c := hid (HKEEP3.out w5 K5)
          have HI4c := hid (HKEEP4.out w5 K5)
          clear R5 K5 c0 c1 c2 c3 c4 c5 c6
          go_wp2_with (fail)
          refine (all_ok HP5.out).mono ?_
          rintro e w6 ⟨v6, rfl, own6, bel6⟩
          have HP6 := hid (HP5.out.kp0 (Kp.of_below bel6))
          have HI6 := hid (IsI.of_own own6)
          have HI7 := hid (HI3c.out.kp0 (Kp.of_below bel6))
          have HI8 := hid (HI4c.out.kp0 (Kp.of_below bel6))
          clear own6 bel6
          go_wp2_with (fail)
          refine (ints_same HI6.out HI7.out).mono ?_
          rintro e w7 ⟨rfl, m7, rfl⟩
          have HP7 := hid (HP6.out.kp0 (Kp.draw _ m7))
          have HI9 := hid (HI8.out.kp0 (Kp.draw _ m7))
          go_wp2_with (fail)
          refine (r_queue HP7.out.rr).mono ?_
          rintro e w8 ⟨v8, rfl, own8, bel8⟩
          have HP8 := hid (HP7.out.kp0 (Kp.of_below bel8))
          have HI10 := hid (IsI.of_own own8)
          have HI11 := hid (HI9.out.kp0 (Kp.of_below bel8))
          clear own8 bel8
          go_wp2_with (fail)
          refine (ints_same HI10.out HI11.out).mono ?_
          rintro e w9 ⟨rfl, m9, rfl⟩
          go_wp2_with (fail)
          refine (alive_ok _).mono ?_
          rintro e w10 ⟨rfl, k10⟩
          have HK9 := hid ((HKN.out.chain (HP8.out.kp.drewN m9)).chain k10)
          clear k10
          go_wp2
          go_ret
          exact ⟨rfl, HK9.out⟩
        · have HS := hid (r_set (b := b) HP4.out.rr pk pm pi a)
          have e0 : t.setE pk pm pi a = 0 := by simpa using hE
          rw [e0] at HS
          clear hE e0
          go_wp2_with (fail)
          refine HS.out.mono ?_
          rintro e w5 ⟨rfl, R5, K5⟩
          have HK5 := hid (HP4.out.kp.trans K5 (U := []) (by simp) (fun x hx => .inr (HP4.out.nb x hx)))
          clear R5 K5 c0 c1 c2 c3 c4 c5 c6
          go_wp2_with (fail)
          refine (alive_ok _).mono ?_
          rintro e w9 ⟨rfl, k9⟩
          have HK9 := hid ((HKN.out.chain HK5.out).chain k9)
          clear k9
          go_wp2
          go_ret
          exact ⟨rfl, HK9.out⟩
      · have z0 : (k == 0) = false := beq_eq_false_iff_ne.2 k0
        by_cases k1 : k = 1
        · subst k1
          rcases hE : (t.pushE a == 0)
          · have HS := hid (r_push (b := b) HP4.out.rr a)
            have HM : Hid (t.pushM a = t) := by show _ = _; unfold RT.pushM; rw [if_neg]; simpa using hE
            generalize t.pushE a = ee at HS hE
            go_wp2_with (fail)
            refine HS.out.mono ?_
            rintro e w5 ⟨rfl, C5⟩
            rw [HM.out] at C5
            obtain ⟨b5, hb5, P5, K5⟩ := HP4.out.chgR C5
            rw [← hb5]
            have HP5 := hid P5
            have HI3c := hid (HKEEP3.out w5 K5)
            have HI4c := hid (HKEEP4.out w5 K5)
            clear C5 K5 P5 hb5 c0 c1 c2 c3 c4 c5 c6
            go_wp2_with (fail)
            refine (all_ok HP5.out).mono ?_
            rintro e w6 ⟨v6, rfl, own6, bel6⟩
            have HP6 := hid (HP5.out.kp0 (Kp.of_below bel6))
            have HI6 := hid (IsI.of_own own6)
            have HI7 := hid (HI3c.out.kp0 (Kp.of_below bel6))
            have HI8 := hid (HI4c.out.kp0 (Kp.of_below bel6))
            clear own6 bel6
            go_wp2_with (fail)
            refine (ints_same HI6.out HI7.out).mono ?_
            rintro e w7 ⟨rfl, m7, rfl⟩
            have HP7 := hid (HP6.out.kp0 (Kp.draw _ m7))
            have HI9 := hid (HI8.out.kp0 (Kp.draw _ m7))
            go_wp2_with (fail)
            refine (r_queue HP7.out.rr).mono ?_
            rintro e w8 ⟨v8, rfl, own8, bel8⟩
            have HP8 := hid (HP7.out.kp0 (Kp.of_below bel8))
            have HI10 := hid (IsI.of_own own8)
            have HI11 := hid (HI9.out.kp0 (Kp.of_below bel8))
            clear own8 bel8
            go_wp2_with (fail)
            refine (ints_same HI10.out HI11.out).mono ?_
            rintro e w9 ⟨rfl, m9, rfl⟩
            go_wp2_with (fail)
            refine (alive_ok _).mono ?_
            rintro e w10 ⟨rfl, k10⟩
            have HK9 := hid ((HKN.out.chain (HP8.out.kp.drewN m9)).chain k10)
            clear k10
            go_wp2
            go_ret
            exact ⟨rfl, HK9.out⟩
          · have HS := hid (r_push (b := b) HP4.out.rr a)
            have e0 : t.pushE a = 0 := by simpa using hE
            rw [e0] at HS
            clear hE e0
            go_wp2_with (fail)
            refine HS.out.mono ?_
            rintro e w5 ⟨rfl, C5⟩
            obtain ⟨b5, hb5, P5, K5⟩ := HP4.out.chgR C5
            have HK5 := hid P5.kp
            clear C5 K5 P5 hb5 c0 c1 c2 c3 c4 c5 c6
            go_wp2_with (fail)
            refine (alive_ok _).mono ?_
            rintro e w9 ⟨rfl, k9⟩
            have HK9 := hid ((HKN.out.chain HK5.out).chain k9)
            clear k9
            go_wp2
            go_ret
            exact ⟨rfl, HK9.out⟩
        · have z1 : (k == 1) = false := beq_eq_false_iff_ne.2 k1
          by_cases k2 : k = 2
          · subst k2
            rcases hE : (t.popE == 0)
            · have HS := hid (r_pop (b := b) HP4.out.rr)
              have HM : Hid (t.popM = t) := by
                show _ = _
                have hq : t.qu = [] := by
                  unfold RT.popE at hE
                  by_cases h0 : t.qu = []
                  · exact h0
                  · rw [if_neg h0] at hE; simp at hE
                unfold RT.popM
                rw [hq]
                cases t
                simp at hq ⊢
                exact hq
              generalize t.popE = ee at HS hE
              generalize t.popV = ev at HS
              go_wp2_with (fail)
              refine HS.out.mono ?_
              rintro e w5 ⟨rfl, C5⟩
              rw [HM.out] at C5
              obtain ⟨b5, hb5, P5, K5⟩ := HP4.out.chgR C5
              rw [← hb5]
              have HP5 := hid P5
              have HI3c := hid (HKEEP3.out w5 K5)
              have HI4c := hid (HKEEP4.out w5 K5)
              clear C5 K5 P5 hb5 c0 c1 c2 c3 c4 c5 c6
              go_wp2_with (fail)
              refine (all_ok HP5.out).mono ?_
              rintro e w6 ⟨v6, rfl, own6, bel6⟩
              have HP6 := hid (HP5.out.kp0 (Kp.of_below bel6))
              have HI6 := hid (IsI.of_own own6)
              have HI7 := hid (HI3c.out.kp0 (Kp.of_below bel6))
              have HI8 := hid (HI4c.out.kp0 (Kp.of_below bel6))
              clear own6 bel6
              go_wp2_with (fail)
              refine (ints_same HI6.out HI7.out).mono ?_
              rintro e w7 ⟨rfl, m7, rfl⟩
              have HP7 := hid (HP6.out.kp0 (Kp.draw _ m7))
              have HI9 := hid (HI8.out.kp0 (Kp.draw _ m7))
              go_wp2_with (fail)
              refine (r_queue HP7.out.rr).mono ?_
              rintro e w8 ⟨v8, rfl, own8, bel8⟩
              have HP8 := hid (HP7.out.kp0 (Kp.of_below bel8))
              have HI10 := hid (IsI.of_own own8)
              have HI11 := hid (HI9.out.kp0 (Kp.of_below bel8))
              clear own8 bel8
              go_wp2_with (fail)
              refine (ints_same HI10.out HI11.out).mono ?_
              rintro e w9 ⟨rfl, m9, rfl⟩
              go_wp2_with (fail)
              refine (alive_ok _).mono ?_
              rintro e w10 ⟨rfl, k10⟩
              have HK9 := hid ((HKN.out.chain (HP8.out.kp.drewN m9)).chain k10)
              clear k10
              go_wp2
              go_ret
              exact ⟨rfl, HK9.out⟩
            · have HS := hid (r_pop (b := b) HP4.out.rr)
              have e0 : t.popE = 0 := by simpa using hE
              rw [e0] at HS
              generalize t.popV = ev at HS
              clear hE e0
              go_wp2_with (fail)
              refine HS.out.mono ?_
              rintro e w5 ⟨rfl, C5⟩
              obtain ⟨b5, hb5, P5, K5⟩ := HP4.out.chgR C5
              have HK5 := hid P5.kp
              clear C5 K5 P5 hb5 c0 c1 c2 c3 c4 c5 c6
              go_wp2_with (fail)
              refine (alive_ok _).mono ?_
              rintro e w9 ⟨rfl, k9⟩
              have HK9 := hid ((HKN.out.chain HK5.out).chain k9)
              clear k9
              go_wp2
              go_ret
              exact ⟨rfl, HK9.out⟩
          · have z2 : (k == 2) = false := beq_eq_false_iff_ne.2 k2
            by_cases k3 : k = 3
            · subst k3
              rcases hg : repB f tt
              · have HG := hid hg
                clear hg
                go_wp2_with (fail)
                refine (r_replace_bad (b := b) HP4.out.rr (HXF.out.old (T := []) HP4.out.kp (by simp)).is (HXT.out.old (T := []) HP4.out.kp (by simp)).is HG.out).mono ?_
                rintro e w5 ⟨rfl, K5⟩
                have HP5 := hid (HP4.out.kp0 K5)
                have HI3c := hid (HI3b.out.kp0 K5)
                have HI4c := hid (HI4.out.kp0 K5)
                clear K5 c0 c1 c2 c3 c4 c5 c6
                go_wp2_with (fail)
                refine (all_ok HP5.out).mono ?_
                rintro e w6 ⟨v6, rfl, own6, bel6⟩
                have HP6 := hid (HP5.out.kp0 (Kp.of_below bel6))
                have HI6 := hid (IsI.of_own own6)
                have HI7 := hid (HI3c.out.kp0 (Kp.of_below bel6))
                have HI8 := hid (HI4c.out.kp0 (Kp.of_below bel6))
                clear own6 bel6
                go_wp2_with (fail)
                refine (ints_same HI6.out HI7.out).mono ?_
                rintro e w7 ⟨rfl, m7, rfl⟩
                have HP7 := hid (HP6.out.kp0 (Kp.draw _ m7))
                have HI9 := hid (HI8.out.kp0 (Kp.draw _ m7))
                go_wp2_with (fail)
                refine (r_queue HP7.out.rr).mono ?_
                rintro e w8 ⟨v8, rfl, own8, bel8⟩
                have HP8 := hid (HP7.out.kp0 (Kp.of_below bel8))
                have HI10 := hid (IsI.of_own own8)
                have HI11 := hid (HI9.out.kp0 (Kp.of_below bel8))
                clear own8 bel8
                go_wp2_with (fail)
                refine (ints_same HI10.out HI11.out).mono ?_
                rintro e w9 ⟨rfl, m9, rfl⟩
                go_wp2_with (fail)
                refine (alive_ok _).mono ?_
                rintro e w10 ⟨rfl, k10⟩
                have HK9 := hid ((HKN.out.chain (HP8.out.kp.drewN m9)).chain k10)
                clear k10
                go_wp2
                go_ret
                exact ⟨rfl, HK9.out⟩
              · have hgp := hg
                unfold repB at hgp
                simp only [Bool.and_eq_true, decide_eq_true_eq] at hgp
                have HGP := hid hgp
                clear hg hgp
                go_wp2_with (fail)
                refine (r_replace (b := b) HP4.out.rr (HXF.out.old HP4.out.kp HP4.out.nb) (HXT.out.old HP4.out.kp HP4.out.nb) HGP.out.1.1.1 HGP.out.1.1.2 HGP.out.1.2 HGP.out.2 (by have := HL.out.1; omega)).mono ?_
                rintro e w5 ⟨rfl, R5, K5⟩
                have HK5 := hid (HP4.out.kp.trans K5 (U := []) (by simp) (fun x hx => .inr (HP4.out.nb x hx)))
                clear K5 R5 c0 c1 c2 c3 c4 c5 c6
                generalize (t.reps f tt t.xs).2 = x1
                go_wp2_with (fail)
                refine (alive_ok _).mono ?_
                rintro e w9 ⟨rfl, k9⟩
                have HK9 := hid ((HKN.out.chain HK5.out).chain k9)
                clear k9
                go_wp2
                go_ret
                exact ⟨rfl, HK9.out⟩
            · have z3 : (k == 3) = false := beq_eq_false_iff_ne.2 k3
              have HK5 := hid HP4.out.kp
              go_wp2_with (fail)
              refine (alive_ok _).mono ?_
              rintro e w9 ⟨rfl, k9⟩
              have HK9 := hid ((HKN.out.chain HK5.out).chain k9)
              clear k9
              go_wp2
              go_ret
              exact ⟨rfl, HK9.out⟩
    · clear hg
      go_wp2_with (fail)
      refine (alive_ok _).mono ?_
      rintro e w3 ⟨rfl, k3⟩
      have HK3 := hid ((HKN.out.chain HP2.out.kp).chain k3)
      clear k3
      go_wp2
      go_ret
      exact ⟨rfl, HK3.out⟩
end
end Go.Proofs.Ytkepgcpogblfaaa
