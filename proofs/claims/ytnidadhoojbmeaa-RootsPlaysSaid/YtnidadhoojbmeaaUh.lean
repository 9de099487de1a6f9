/-
  RootsClones' walk. Conditions: those that stand in each theorem.
-/
import Derived.Test.YtnidadhoojbmeaaUa
import Derived.Test.YtnidadhoojbmeaaUb
import Derived.Test.YtnidadhoojbmeaaUc
import Derived.Test.YtnidadhoojbmeaaUe
namespace Go.Proofs.Ytnidadhoojbmeaa
set_option linter.unusedVariables false
set_option linter.unusedSimpArgs false
open Go.RowKit Go.Deep Go.Maps

section
variable {w0 F w w' W : World} {X : List Nat} {b : RB} {tb : TB} {t1 t2 t : RT}
theorem ActR.Ok.kpc {x : ActR} (h : x.Ok w) (k : Kp [] w W) : x.Ok W := ⟨h.a, h.f.kp0 k, h.tt.kp0 k, h.w⟩
theorem ActsR.kpc {A : Option Addr} {n : Nat} {X : Nat → ActR} (h : ActsR w A n X) (k : Kp [] w W) : ActsR W A n X := ⟨h.le, fun i hi => (h.ok i hi).kpc k, fun i hi => by
  obtain ⟨g, o, e, c0, c1, c2, c3, c4, c5, c6⟩ := h.at_ i hi
  exact ⟨g, o, e, cell_kp k c0, cell_kp k c1, cell_kp k c2, cell_kp k c3, cell_kp k c4, cell_kp k c5, cell_kp k c6⟩⟩
theorem P3.frame (h : P3 w0 F X b tb t1 t2 w) (hF : Kp [] w0 F) : Kp ((List.range F.heap.size).filter fun x => !X.contains x) F w :=
  ⟨h.kp.os.trans hF.os.symm, h.kp.tape.trans hF.tape.symm, h.kp.output.trans hF.output.symm, h.fs, fun k hk hn => by
    refine h.fx k ?_
    have := mt (fun hx => List.mem_filter.2 ⟨List.mem_range.2 hk, hx⟩) hn
    simpa using this⟩
theorem notX {n x : Nat} (h : x ∈ (List.range n).filter fun x => !X.contains x) (hx : x ∈ X) : False := by
  have := (List.mem_filter.1 h).2
  simp at this
  exact this hx
set_option maxRecDepth 100000 in
set_option maxHeartbeats 8000000 in
theorem clones_ok (mu : Int) {A : Option Addr} {n c : Nat} {X : Nat → ActR} (h : ActsR w A n X) {A2 : Option Addr} {n2 c2 : Nat} {X2 : Nat → ActR} (h2 : ActsR w A2 n2 X2) (cl : Bool) :
    Calls Try.prog 4 #[.int .i64 mu, .slice A n c, .slice A2 n2 c2, .bool cl] w (TrueP w) := by
  have H := hid h
  have H2 := hid h2
  have hle := h2.le
  unfold maxLen at hle
  clear h h2
  go_enter Try.func4, Try.ntmps4
  go_wp2_with (fail)
  refine (made_ok mu H.out).mono ?_
  rintro e w1 (⟨rfl, k1⟩ | ⟨b, tb, t, rfl, P, D⟩)
  · have HK := hid k1
    clear k1
    go_wp2_with (fail)
    refine (alive_ok _).mono ?_
    rintro e w2 ⟨rfl, k2⟩
    have HK2 := hid (HK.out.chain k2)
    clear k2
    go_wp2
    go_ret
    exact ⟨rfl, HK2.out⟩
  · have HP0 := hid P
    have HD := hid D
    clear P D
    go_wp2_with (fail)
    refine (great_ok (H2.out.kpc HP0.out.kp)).mono ?_
    rintro e w2 ⟨g, rfl, hg, m2, rfl⟩
    have HP := hid (HP0.out.kp0 (Kp.draw w1 m2))
    rcases g
    · have HL := hid (hg rfl).2
      have HP1 := hid (hg rfl).1
      clear hg HP0
      generalize w1.drewN m2 = w2 at *
      go_wp2_with (fail)
      refine (r_clone HP.out.rr).mono ?_
      rintro e w3 ⟨cb, rfl, R3, K3, N3⟩
      have HR3 := hid R3
      have HK23 := hid K3
      have HN3 := hid N3
      have HK3 := hid (HP.out.kp.chain K3)
      clear R3 K3 N3
      rcases cl
      · go_wp2_with (fail)
        refine (t_clone (HP.out.tr.kp0 HK23.out)).mono ?_
        rintro e w4 ⟨tc, rfl, T4, K4, N4⟩
        have HK34 := hid K4
        have HK4 := hid (HK3.out.chain K4)
        have HP3 : Hid (P3 w w4 (cb.all ++ tb.all) b tc t t w4) := by
          refine ⟨⟨(HP.out.rr.kp0 HK23.out).kp0 HK34.out, T4, (fun x hx hm => by have := HP.out.rr.lt x hx; have := N4 x hm; have := HK23.out.size; omega), HK4.out, HP.out.nb, fun x hx => by have := N4 x hx; have := HK3.out.size; omega⟩, ?_, ?_, ?_, Nat.le_refl _, fun _ _ => rfl⟩
          · intro x hx hm
            rcases List.mem_append.1 hx with h | h
            · have := HP.out.rr.lt x hm; have := HN3.out x h; omega
            · exact HP.out.sep x hm h
          · intro x hx hm
            have h1 := N4 x hm
            rcases List.mem_append.1 hx with h | h
            · have := HR3.out.lt x h; omega
            · have := HP.out.tr.lt x h; have := HK23.out.size; omega
          · intro x hx
            rcases List.mem_append.1 hx with h | h
            · have := HR3.out.lt x h; have := HK34.out.size; omega
            · have := HP.out.tr.lt x h; have := HK23.out.size; have := HK34.out.size; omega
        have HRO : Hid (RR w4 cb t) := HR3.out.kp0 HK34.out
        have HTO : Hid (TR w4 tb t) := (HP.out.tr.kp0 HK23.out).kp0 HK34.out
        clear T4 K4 N4
        go_wp2
        go_loopw [15] (fun s wr => ∃ (k : Nat) (b' : RB) (tb' : TB) (t' : RT), k ≤ n2 ∧ s = .int .i64 (k : Int) ∧ b'.g = b.g ∧ tb'.g = tc.g ∧ P3 w w4 (cb.all ++ tb.all) b' tb' t' t' wr ∧ t'.Wd) (fun s _ => n2 - (intOf s).toNat)
        case atStart => exact ⟨0, b, tc, t, by omega, rfl, rfl, rfl, HP3.out, HD.out⟩
        case round =>
          obtain ⟨k, b', tb', t', hk, rfl, hbg, htg, P, D⟩ := hrel
          have HPk := hid P
          have HDk := hid D
          have HBG := hid hbg
          have HTG := hid htg
          by_cases hlt : k < n2
          · obtain ⟨gl, o, rfl, c0, c1, c2, c3, c4, c5, c6⟩ := H2.out.at_ k hlt
            have hp := play_ok3 P (X2 k) (H2.out.ok k hlt) (HL.out k hlt).1
            have d0 := cell_kp P.kp c0
            have d1 := cell_kp P.kp c1
            have d2 := cell_kp P.kp c2
            have d3 := cell_kp P.kp c3
            have d4 := cell_kp P.kp c4
            have d5 := cell_kp P.kp c5
            have d6 := cell_kp P.kp c6
            unfold ActR.cells at hp
            rw [hbg, htg] at hp
            have HPL := hid hp
            have HD2 := hid (HDk.out.act (H2.out.ok k hlt).a (H2.out.ok k hlt).w)
            clear hp P D hbg htg c0 c1 c2 c3 c4 c5 c6
            go_wp2_with (fail)
            refine HPL.out.mono ?_
            rintro e w5 ⟨rfl, b2, tb2, hb2, htb2, P5⟩
            have HP5 := hid P5
            have HB2 := hid (hb2.trans HBG.out)
            have HTB2 := hid (htb2.trans HTG.out)
            clear P5 hb2 htb2 d0 d1 d2 d3 d4 d5 d6
            go_wp2
            go_roundw
            case rel => exact ⟨k + 1, b2, tb2, _, by omega, by go_num, HB2.out, HTB2.out, HP5.out, HD2.out⟩
            case measure => simp [intOf]; omega
          · obtain rfl : k = n2 := by omega
            have HFR := hid (P.frame HK4.out)
            have HRX : Hid (RR wr cb t) := HRO.out.kp HFR.out (fun x hx hm => notX hm (List.mem_append_left _ hx))
            have HTX : Hid (TR wr tb t) := HTO.out.kp HFR.out (fun x hx hm => notX hm (List.mem_append_right _ hx))
            have HKR := hid P.kp
            have hra := P.rr
            have hta := P.tr
            have HS2 : Hid (∀ V, Kp [] wr V → Calls Try.prog 12 #[.pointer (some ⟨b.g, 0, none⟩), .pointer (some ⟨tc.g, 0, none⟩)] V (TrueP V)) := fun V kk => by
              rw [← HBG.out, ← HTG.out]
              exact same_ok (hra.kp0 kk) (hta.kp0 kk) HDk.out
            clear P D hbg htg hra hta
            go_wp2_with (fail)
            refine (same_ok HRX.out HTX.out HD.out).mono ?_
            rintro e w6 ⟨rfl, K6⟩
            have HK6 := hid K6
            clear K6
            go_wp2_with (fail)
            refine (HS2.out _ HK6.out).mono ?_
            rintro e w7 ⟨rfl, K7⟩
            have HK7 := hid K7
            clear K7
            go_wp2_with (fail)
            refine (alive_ok _).mono ?_
            rintro e w8 ⟨rfl, K8⟩
            have HK8 := hid (((HKR.out.chain HK6.out).chain HK7.out).chain K8)
            clear K8
            go_wp2
            go_ret
            exact ⟨rfl, HK8.out⟩
      · go_wp2_with (fail)
        refine (t_clone (HP.out.tr.kp0 HK23.out)).mono ?_
        rintro e w4 ⟨tc, rfl, T4, K4, N4⟩
        have HK34 := hid K4
        have HK4 := hid (HK3.out.chain K4)
        have HP3 : Hid (P3 w w4 (b.all ++ tb.all) cb tc t t w4) := by
          refine ⟨⟨HR3.out.kp0 HK34.out, T4, (fun x hx hm => by have := HR3.out.lt x hx; have := N4 x hm; omega), HK4.out, (fun x hx => by have := HN3.out x hx; have := HP.out.kp.size; omega), fun x hx => by have := N4 x hx; have := HK3.out.size; omega⟩, ?_, ?_, ?_, Nat.le_refl _, fun _ _ => rfl⟩
          · intro x hx hm
            rcases List.mem_append.1 hx with h | h
            · have := HP.out.rr.lt x h; have := HN3.out x hm; omega
            · have := HP.out.tr.lt x h; have := HN3.out x hm; omega
          · intro x hx hm
            have h1 := N4 x hm
            rcases List.mem_append.1 hx with h | h
            · have := HP.out.rr.lt x h; have := HK23.out.size; omega
            · have := HP.out.tr.lt x h; have := HK23.out.size; omega
          · intro x hx
            rcases List.mem_append.1 hx with h | h
            · have := HP.out.rr.lt x h; have := HK23.out.size; have := HK34.out.size; omega
            · have := HP.out.tr.lt x h; have := HK23.out.size; have := HK34.out.size; omega
        have HRO : Hid (RR w4 b t) := (HP.out.rr.kp0 HK23.out).kp0 HK34.out
        have HTO : Hid (TR w4 tb t) := (HP.out.tr.kp0 HK23.out).kp0 HK34.out
        clear T4 K4 N4
        go_wp2
        go_loopw [15] (fun s wr => ∃ (k : Nat) (b' : RB) (tb' : TB) (t' : RT), k ≤ n2 ∧ s = .int .i64 (k : Int) ∧ b'.g = cb.g ∧ tb'.g = tc.g ∧ P3 w w4 (b.all ++ tb.all) b' tb' t' t' wr ∧ t'.Wd) (fun s _ => n2 - (intOf s).toNat)
        case atStart => exact ⟨0, cb, tc, t, by omega, rfl, rfl, rfl, HP3.out, HD.out⟩
        case round =>
          obtain ⟨k, b', tb', t', hk, rfl, hbg, htg, P, D⟩ := hrel
          have HPk := hid P
          have HDk := hid D
          have HBG := hid hbg
          have HTG := hid htg
          by_cases hlt : k < n2
          · obtain ⟨gl, o, rfl, c0, c1, c2, c3, c4, c5, c6⟩ := H2.out.at_ k hlt
            have hp := play_ok3 P (X2 k) (H2.out.ok k hlt) (HL.out k hlt).1
            have d0 := cell_kp P.kp c0
            have d1 := cell_kp P.kp c1
            have d2 := cell_kp P.kp c2
            have d3 := cell_kp P.kp c3
            have d4 := cell_kp P.kp c4
            have d5 := cell_kp P.kp c5
            have d6 := cell_kp P.kp c6
            unfold ActR.cells at hp
            rw [hbg, htg] at hp
            have HPL := hid hp
            have HD2 := hid (HDk.out.act (H2.out.ok k hlt).a (H2.out.ok k hlt).w)
            clear hp P D hbg htg c0 c1 c2 c3 c4 c5 c6
            go_wp2_with (fail)
            refine HPL.out.mono ?_
            rintro e w5 ⟨rfl, b2, tb2, hb2, htb2, P5⟩
            have HP5 := hid P5
            have HB2 := hid (hb2.trans HBG.out)
            have HTB2 := hid (htb2.trans HTG.out)
            clear P5 hb2 htb2 d0 d1 d2 d3 d4 d5 d6
            go_wp2
            go_roundw
            case rel => exact ⟨k + 1, b2, tb2, _, by omega, by go_num, HB2.out, HTB2.out, HP5.out, HD2.out⟩
            case measure => simp [intOf]; omega
          · obtain rfl : k = n2 := by omega
            have HFR := hid (P.frame HK4.out)
            have HRX : Hid (RR wr b t) := HRO.out.kp HFR.out (fun x hx hm => notX hm (List.mem_append_left _ hx))
            have HTX : Hid (TR wr tb t) := HTO.out.kp HFR.out (fun x hx hm => notX hm (List.mem_append_right _ hx))
            have HKR := hid P.kp
            have hra := P.rr
            have hta := P.tr
            have HS2 : Hid (∀ V, Kp [] wr V → Calls Try.prog 12 #[.pointer (some ⟨cb.g, 0, none⟩), .pointer (some ⟨tc.g, 0, none⟩)] V (TrueP V)) := fun V kk => by
              rw [← HBG.out, ← HTG.out]
              exact same_ok (hra.kp0 kk) (hta.kp0 kk) HDk.out
            clear P D hbg htg hra hta
            go_wp2_with (fail)
            refine (same_ok HRX.out HTX.out HD.out).mono ?_
            rintro e w6 ⟨rfl, K6⟩
            have HK6 := hid K6
            clear K6
            go_wp2_with (fail)
            refine (HS2.out _ HK6.out).mono ?_
            rintro e w7 ⟨rfl, K7⟩
            have HK7 := hid K7
            clear K7
            go_wp2_with (fail)
            refine (alive_ok _).mono ?_
            rintro e w8 ⟨rfl, K8⟩
            have HK8 := hid (((HKR.out.chain HK6.out).chain HK7.out).chain K8)
            clear K8
            go_wp2
            go_ret
            exact ⟨rfl, HK8.out⟩
    · clear hg
      go_wp2_with (fail)
      refine (alive_ok _).mono ?_
      rintro e w9 ⟨rfl, k9⟩
      have HK9 := hid (HP.out.kp.chain k9)
      clear k9
      go_wp2
      go_ret
      exact ⟨rfl, HK9.out⟩
end
end Go.Proofs.Ytnidadhoojbmeaa
