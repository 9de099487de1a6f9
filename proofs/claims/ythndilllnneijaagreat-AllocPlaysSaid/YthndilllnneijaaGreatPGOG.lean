/-
  The contracts of the document's bump and over. Conditions: those that stand in each theorem.
-/
import Derived.Test.YthndilllnneijaaGreatPGOB
import Derived.Test.YthndilllnneijaaGreatPGOF
set_option linter.unusedSimpArgs false
set_option linter.unusedVariables false
set_option maxRecDepth 100000
set_option maxHeartbeats 2000000
namespace Go.Proofs.YthndilllnneijaaGreat
open Go.RowKit Go.Deep Go.Maps
section
variable {w W V : World} {d0 d : DB} {m m' : HM} {q q' g g3 : Nat} {A A2 : AS}
theorem RS.trans {w W V : World} {d0 d d2 : DB} {q q2 : Nat} {m m2 : HM} {A2 : AS} (u : RS w W d0 d q m g A) (v : RS W V d d2 q2 m2 g A2) : RS w V d0 d2 q2 m2 g A2 := by
 have hw := u.kp.size
 refine ⟨v.dr, v.al, v.gd, u.kp.trans v.kp (U := g :: d0.all) (fun z hz => .inl hz) (fun z hz => ?_), fun x hx => ?_, u.hg, v.gg.trans u.gg⟩
 · rcases List.mem_cons.1 hz with rfl | hz
   · exact .inl (List.mem_cons_self ..)
   · rcases u.sub z hz with h | h
     · exact .inl (List.mem_cons_of_mem _ h)
     · exact .inr h
 · rcases v.sub x hx with h | h
   · exact u.sub x h
   · exact .inr (by omega)
theorem cell_kpn {w W : World} {g i : Nat} {u : Value} {S : List Nat} (k : Kp S w W) (hg : g ∉ S) (h : w.cell? ⟨g, i, none⟩ = some u) : W.cell? ⟨g, i, none⟩ = some u := by
 rw [← h]; exact World.cell?_of_block (k.block g (cell_lt h) hg)
theorem RS.again (u : RS w W d0 d q m g A) : RS W W d d q m g A := RS.start u.dr (by have := u.al; unfold RAL raCells at this ⊢; exact this) u.gd (Blk.lt u.al)
theorem RB.plc {x1 y1 z1 : Int} (u : RB w W d0 d q m g A g3 x1 y1 z1) (a blk : Nat) (ha : a ≤ 10000) {x y z : Nat} (hv : vldB x y z = true) (hq : q ≤ 800000000) {ai bi pv pe : Int} {pm : HM} (h1 : (a : Int) = ai) (h2 : (blk : Int) = bi) (h3 : m.rpV A.sp a blk x y z = pv) (h4 : m.rpE A.sp a blk x y z = pe) (h5 : m.rpM A.sp a blk x y z = pm) :
   Calls Tryz.prog 168 #[.pointer (some ⟨g, 0, none⟩), .int .i64 ai, .int .i64 bi, .agg #[.int .i64 (x : Int), .int .i64 (y : Int), .int .i64 (z : Int)]] W fun e w' => e = .returned (.tuple #[.int .i64 pv, .int .i64 pe]) ∧ ∃ d', RS w w' d0 d' (q + 1) pm g A ∧ Kp (g :: d.all) W w' := by
 subst h1 h2 h3 h4 h5
 refine (r_place u.rs.again a blk ha hv hq).mono ?_
 rintro e w' ⟨rfl, d', V⟩
 exact ⟨rfl, d', u.rs.trans V, V.kp⟩
theorem r_bump (u : RS w W d0 d q m g A) (hA : A.Ok) {x y z n : Nat} (hv : vldB x y z = true) (hn2 : n ≤ 32) (hq : q ≤ 800000000) :
   Calls Tryz.prog 169 #[.pointer (some ⟨g, 0, none⟩), .agg #[.int .i64 (x : Int), .int .i64 (y : Int), .int .i64 (z : Int)], .int .i64 (n : Int)] W fun e w' => e = .returned (.tuple #[.int .i64 (m.ruV A.sp A.c A.l n x y z), .int .i64 (m.ruE A.sp A.c A.l n x y z)]) ∧ ∃ d', RS w w' d0 d' (q + 1) (m.ruM A.sp A.c A.l n x y z) g { A with c := (m.ruC A.sp A.c A.l n x y z).1, l := (m.ruC A.sp A.c A.l n x y z).2 } := by
 have HV := hid hv
 have HU := hid (RB.start u (x : Int) (y : Int) (z : Int))
 have ub := RB.start u (x : Int) (y : Int) (z : Int)
 obtain ⟨c, hc⟩ : ∃ c, A.c = c := ⟨_, rfl⟩
 obtain ⟨l, hl⟩ : ∃ l, A.l = l := ⟨_, rfl⟩
 have hcb : c ≤ 8192 := hc ▸ hA.c
 have hlb : l ≤ 8192 := hl ▸ hA.l
 have c0 := ub.rs.c0
 have c3 : (W.alloc (.cells #[.int .i64 (x : Int), .int .i64 (y : Int), .int .i64 (z : Int)] 33)).cell? ⟨g, 3, none⟩ = some (.int .i64 (c : Int)) := by rw [← hc]; exact ub.rs.al.cell 3
 have c4 : (W.alloc (.cells #[.int .i64 (x : Int), .int .i64 (y : Int), .int .i64 (z : Int)] 33)).cell? ⟨g, 4, none⟩ = some (.int .i64 (l : Int)) := by rw [← hl]; exact ub.rs.al.cell 4
 have b0 := ub.b3.cell 0
 have b1 := ub.b3.cell 1
 have b2 := ub.b3.cell 2
 have HAC := hid (show ({ A with c := c, l := l } : AS) = A by rw [← hc, ← hl])
 have HFB : Hid (m.freeB 1 ≤ 4096) := freeB_le m 1 u.dr.inv
 rw [hc, hl]
 clear u hA hv hc hl ub
 by_cases hf : c + n ≤ l
 · have hN : m.ruN c l n = false := by unfold HM.ruN; simp; omega
   have hA' : m.ruA c l n = c := if_pos hf
   have hB' : m.ruB c l n = 0 := if_pos hf
   have hL' : m.ruL c l n = l := if_pos hf
   have tf : decide ((l : Int) - (c : Int) < (n : Int)) = false := decide_eq_false (by omega)
   obtain ⟨pe, hpe⟩ : ∃ v, m.rpE A.sp c 0 x y z = v := ⟨_, rfl⟩
   obtain ⟨pv, hpv⟩ : ∃ v, m.rpV A.sp c 0 x y z = v := ⟨_, rfl⟩
   obtain ⟨pm, hpm⟩ : ∃ v, m.rpM A.sp c 0 x y z = v := ⟨_, rfl⟩
   have HPE := hid hpe
   have HPV := hid hpv
   have HPM := hid hpm
   have re : m.ruE A.sp c l n x y z = pe := by unfold HM.ruE HM.pgE; rw [hN, hA', hB', ← hpe]; rfl
   have rv : m.ruV A.sp c l n x y z = pv := by unfold HM.ruV HM.pgV; rw [hN, hA', hB', ← hpv]; rfl
   have rm : m.ruM A.sp c l n x y z = pm := by unfold HM.ruM HM.pgM; rw [hN, hA', hB', ← hpm]; rfl
   have rc : m.ruC A.sp c l n x y z = if pe = 0 then (c + n, l) else (c, l) := by unfold HM.ruC; rw [re, hA', hL']
   rw [re, rv, rm, rc]
   clear re rv rm rc hN hA' hB' hL' hpe hpv hpm
   by_cases hp : pe = 0
   · have tp : (pe == 0) = true := beq_iff_eq.2 hp
     rw [if_pos hp]
     go_enter Tryz.func169, Tryz.ntmps169
     go_wp2
     go_quiet (fail)
     go_wp2_with (go_at_call 168; refine ((HU.out.step (Kp.draw _ _)).plc c 0 (by omega) HV.out (by omega) rfl rfl HPV.out HPE.out HPM.out).mono ?_; rintro e w5 ⟨rfl, d5, U5, _⟩; have y0 := U5.al.frozen 3; have y1 := U5.al.frozen 4; have y2 : w5.cell? ⟨g, 3, none⟩ = some (.int .i64 (A.c : Int)) := U5.al.cell 3; have y3 : w5.cell? ⟨g, 4, none⟩ = some (.int .i64 (A.l : Int)) := U5.al.cell 4; have HU5 := hid U5; clear U5)
     go_ret2
     have US := HU5.out.set2 (c + n) (l)
     exact ⟨by first | rfl | (rw [hp]; done) | (rw [hp]; rfl), _, US⟩
   · have tp : (pe == 0) = false := beq_eq_false_iff_ne.2 hp
     rw [if_neg hp]
     go_enter Tryz.func169, Tryz.ntmps169
     go_wp2
     go_quiet (fail)
     go_wp2_with (go_at_call 168; refine ((HU.out.step (Kp.draw _ _)).plc c 0 (by omega) HV.out (by omega) rfl rfl HPV.out HPE.out HPM.out).mono ?_; rintro e w5 ⟨rfl, d5, U5, _⟩; have y0 := U5.al.frozen 3; have y1 := U5.al.frozen 4; have y2 : w5.cell? ⟨g, 3, none⟩ = some (.int .i64 (A.c : Int)) := U5.al.cell 3; have y3 : w5.cell? ⟨g, 4, none⟩ = some (.int .i64 (A.l : Int)) := U5.al.cell 4; have HU5 := hid U5; clear U5)
     go_ret2
     refine ⟨rfl, d5, ?_⟩
     rw [show ({ A with c := (c, l).1, l := (c, l).2 } : AS) = A from HAC.out]
     exact HU5.out
 · have tf : decide ((l : Int) - (c : Int) < (n : Int)) = true := decide_eq_true (by omega)
   by_cases hf0 : m.freeB 1 = 0
   · have hN : m.ruN c l n = true := by unfold HM.ruN; simp [hf0]; omega
     have re : m.ruE A.sp c l n x y z = 6 := by unfold HM.ruE HM.pgE; rw [hN]; rfl
     have rv : m.ruV A.sp c l n x y z = 0 := by unfold HM.ruV HM.pgV; rw [hN]; rfl
     have rm : m.ruM A.sp c l n x y z = m := by unfold HM.ruM HM.pgM; rw [hN]; rfl
     have rc : m.ruC A.sp c l n x y z = (c, l) := by unfold HM.ruC; rw [re]; rfl
     rw [re, rv, rm, rc]
     rw [show ({ A with c := (c, l).1, l := (c, l).2 } : AS) = A from HAC.out]
     clear re rv rm rc hN
     have HF : Hid (m.freeB 1 / 64 = 0) := by show _ = _; rw [hf0]
     clear hf0
     go_enter Tryz.func169, Tryz.ntmps169
     go_wp2
     go_quiet (fail)
     go_wp2_with (go_at_call 167; refine ((HU.out.step (Kp.draw _ _)).free 1 (by omega) (by omega) HF.out).mono ?_; rintro e w4 ⟨rfl, U4⟩; have HU4 := hid U4; have k0 := U4.b3.cell 0; have k1 := U4.b3.cell 1; have k2 := U4.b3.cell 2; clear U4)
     go_ret2
     exact ⟨rfl, _, HU4.out.rs.mono (by omega)⟩
   · obtain ⟨fb, hfb⟩ : ∃ k, m.freeB 1 / 64 = k := ⟨_, rfl⟩
     have hm64 := freeB_64 m
     have hfl := HFB.out
     have hfb2 : fb ≤ 64 := by omega
     have hfb1 : fb ≠ 0 := by omega
     have tb : ((fb : Int) == 0) = false := beq_eq_false_iff_ne.2 (by omega)
     have HF := hid hfb
     have hN : m.ruN c l n = false := by unfold HM.ruN; simp [hf0]
     have hA' : m.ruA c l n = fb * 64 := by unfold HM.ruA; rw [if_neg hf]; omega
     have hB' : m.ruB c l n = fb := by unfold HM.ruB; rw [if_neg hf, hfb]
     have hL' : m.ruL c l n = (fb + 1) * 64 := by unfold HM.ruL; rw [if_neg hf]; omega
     clear hf0 hm64 hfl hfb
     obtain ⟨pe, hpe⟩ : ∃ v, m.rpE A.sp (fb * 64) fb x y z = v := ⟨_, rfl⟩
     obtain ⟨pv, hpv⟩ : ∃ v, m.rpV A.sp (fb * 64) fb x y z = v := ⟨_, rfl⟩
     obtain ⟨pm, hpm⟩ : ∃ v, m.rpM A.sp (fb * 64) fb x y z = v := ⟨_, rfl⟩
     have HPE := hid hpe
     have HPV := hid hpv
     have HPM := hid hpm
     have re : m.ruE A.sp c l n x y z = pe := by unfold HM.ruE HM.pgE; rw [hN, hA', hB', ← hpe]; rfl
     have rv : m.ruV A.sp c l n x y z = pv := by unfold HM.ruV HM.pgV; rw [hN, hA', hB', ← hpv]; rfl
     have rm : m.ruM A.sp c l n x y z = pm := by unfold HM.ruM HM.pgM; rw [hN, hA', hB', ← hpm]; rfl
     have rc : m.ruC A.sp c l n x y z = if pe = 0 then ((fb * 64) + n, (fb + 1) * 64) else (c, l) := by unfold HM.ruC; rw [re, hA', hL']
     rw [re, rv, rm, rc]
     clear re rv rm rc hN hA' hB' hL' hpe hpv hpm
     by_cases hp : pe = 0
     · have tp : (pe == 0) = true := beq_iff_eq.2 hp
       rw [if_pos hp]
       go_enter Tryz.func169, Tryz.ntmps169
       go_wp2
       go_quiet (fail)
       go_wp2_with (first
         | (go_at_call 167; refine ((HU.out.step (Kp.draw _ _)).free 1 (by omega) (by omega) HF.out).mono ?_; rintro e w4 ⟨rfl, U4⟩; have HU4 := hid U4; have k0 := U4.b3.cell 0; have k1 := U4.b3.cell 1; have k2 := U4.b3.cell 2; clear U4)
         | (go_at_call 168; refine (HU4.out.plc (fb * 64) fb (by omega) HV.out (by omega) (by omega) rfl HPV.out HPE.out HPM.out).mono ?_; rintro e w5 ⟨rfl, d5, U5, _⟩; have y0 := U5.al.frozen 3; have y1 := U5.al.frozen 4; have y2 : w5.cell? ⟨g, 3, none⟩ = some (.int .i64 (A.c : Int)) := U5.al.cell 3; have y3 : w5.cell? ⟨g, 4, none⟩ = some (.int .i64 (A.l : Int)) := U5.al.cell 4; have HU5 := hid U5; clear U5))
       go_ret2
       have US := HU5.out.set2 ((fb * 64) + n) ((fb + 1) * 64)
       rw [show ((fb * 64 + n : Nat) : Int) = (fb : Int) * 64 + (n : Int) by omega, show (((fb + 1) * 64 : Nat) : Int) = ((fb : Int) + 1) * 64 by omega] at US
       exact ⟨by first | rfl | (rw [hp]; done) | (rw [hp]; rfl), _, US⟩
     · have tp : (pe == 0) = false := beq_eq_false_iff_ne.2 hp
       rw [if_neg hp]
       go_enter Tryz.func169, Tryz.ntmps169
       go_wp2
       go_quiet (fail)
       go_wp2_with (first
         | (go_at_call 167; refine ((HU.out.step (Kp.draw _ _)).free 1 (by omega) (by omega) HF.out).mono ?_; rintro e w4 ⟨rfl, U4⟩; have HU4 := hid U4; have k0 := U4.b3.cell 0; have k1 := U4.b3.cell 1; have k2 := U4.b3.cell 2; clear U4)
         | (go_at_call 168; refine (HU4.out.plc (fb * 64) fb (by omega) HV.out (by omega) (by omega) rfl HPV.out HPE.out HPM.out).mono ?_; rintro e w5 ⟨rfl, d5, U5, _⟩; have y0 := U5.al.frozen 3; have y1 := U5.al.frozen 4; have y2 : w5.cell? ⟨g, 3, none⟩ = some (.int .i64 (A.c : Int)) := U5.al.cell 3; have y3 : w5.cell? ⟨g, 4, none⟩ = some (.int .i64 (A.l : Int)) := U5.al.cell 4; have HU5 := hid U5; clear U5))
       go_ret2
       refine ⟨rfl, d5, ?_⟩
       rw [show ({ A with c := (c, l).1, l := (c, l).2 } : AS) = A from HAC.out]
       exact HU5.out
theorem r_over (u : RS w W d0 d q m g A) (hA : A.Ok) {x y z n : Nat} (hv : vldB x y z = true) (hn2 : n ≤ 32) (hq : q ≤ 800000000) :
   Calls Tryz.prog 180 #[.pointer (some ⟨g, 0, none⟩), .agg #[.int .i64 (x : Int), .int .i64 (y : Int), .int .i64 (z : Int)], .int .i64 (n : Int)] W fun e w' => e = .returned (.tuple #[.int .i64 (m.ruV A.sp A.oc A.ol n x y z), .int .i64 (m.ruE A.sp A.oc A.ol n x y z)]) ∧ ∃ d', RS w w' d0 d' (q + 1) (m.ruM A.sp A.oc A.ol n x y z) g { A with oc := (m.ruC A.sp A.oc A.ol n x y z).1, ol := (m.ruC A.sp A.oc A.ol n x y z).2 } := by
 have HV := hid hv
 have HU := hid (RB.start u (x : Int) (y : Int) (z : Int))
 have ub := RB.start u (x : Int) (y : Int) (z : Int)
 obtain ⟨c, hc⟩ : ∃ c, A.oc = c := ⟨_, rfl⟩
 obtain ⟨l, hl⟩ : ∃ l, A.ol = l := ⟨_, rfl⟩
 have hcb : c ≤ 8192 := hc ▸ hA.oc
 have hlb : l ≤ 8192 := hl ▸ hA.ol
 have c0 := ub.rs.c0
 have c3 : (W.alloc (.cells #[.int .i64 (x : Int), .int .i64 (y : Int), .int .i64 (z : Int)] 33)).cell? ⟨g, 5, none⟩ = some (.int .i64 (c : Int)) := by rw [← hc]; exact ub.rs.al.cell 5
 have c4 : (W.alloc (.cells #[.int .i64 (x : Int), .int .i64 (y : Int), .int .i64 (z : Int)] 33)).cell? ⟨g, 6, none⟩ = some (.int .i64 (l : Int)) := by rw [← hl]; exact ub.rs.al.cell 6
 have b0 := ub.b3.cell 0
 have b1 := ub.b3.cell 1
 have b2 := ub.b3.cell 2
 have HAC := hid (show ({ A with oc := c, ol := l } : AS) = A by rw [← hc, ← hl])
 have HFB : Hid (m.freeB 1 ≤ 4096) := freeB_le m 1 u.dr.inv
 rw [hc, hl]
 clear u hA hv hc hl ub
 by_cases hf : c + n ≤ l
 · have hN : m.ruN c l n = false := by unfold HM.ruN; simp; omega
   have hA' : m.ruA c l n = c := if_pos hf
   have hB' : m.ruB c l n = 0 := if_pos hf
   have hL' : m.ruL c l n = l := if_pos hf
   have tf : decide ((l : Int) - (c : Int) < (n : Int)) = false := decide_eq_false (by omega)
   obtain ⟨pe, hpe⟩ : ∃ v, m.rpE A.sp c 0 x y z = v := ⟨_, rfl⟩
   obtain ⟨pv, hpv⟩ : ∃ v, m.rpV A.sp c 0 x y z = v := ⟨_, rfl⟩
   obtain ⟨pm, hpm⟩ : ∃ v, m.rpM A.sp c 0 x y z = v := ⟨_, rfl⟩
   have HPE := hid hpe
   have HPV := hid hpv
   have HPM := hid hpm
   have re : m.ruE A.sp c l n x y z = pe := by unfold HM.ruE HM.pgE; rw [hN, hA', hB', ← hpe]; rfl
   have rv : m.ruV A.sp c l n x y z = pv := by unfold HM.ruV HM.pgV; rw [hN, hA', hB', ← hpv]; rfl
   have rm : m.ruM A.sp c l n x y z = pm := by unfold HM.ruM HM.pgM; rw [hN, hA', hB', ← hpm]; rfl
   have rc : m.ruC A.sp c l n x y z = if pe = 0 then (c + n, l) else (c, l) := by unfold HM.ruC; rw [re, hA', hL']
   rw [re, rv, rm, rc]
   clear re rv rm rc hN hA' hB' hL' hpe hpv hpm
   by_cases hp : pe = 0
   · have tp : (pe == 0) = true := beq_iff_eq.2 hp
     rw [if_pos hp]
     go_enter Tryz.func180, Tryz.ntmps180
     go_wp2
     go_quiet (fail)
     go_wp2_with (go_at_call 168; refine ((HU.out.step (Kp.draw _ _)).plc c 0 (by omega) HV.out (by omega) rfl rfl HPV.out HPE.out HPM.out).mono ?_; rintro e w5 ⟨rfl, d5, U5, _⟩; have y0 := U5.al.frozen 5; have y1 := U5.al.frozen 6; have y2 : w5.cell? ⟨g, 5, none⟩ = some (.int .i64 (A.oc : Int)) := U5.al.cell 5; have y3 : w5.cell? ⟨g, 6, none⟩ = some (.int .i64 (A.ol : Int)) := U5.al.cell 6; have HU5 := hid U5; clear U5)
     go_ret2
     have US := HU5.out.setO (c + n) (l)
     exact ⟨by first | rfl | (rw [hp]; done) | (rw [hp]; rfl), _, US⟩
   · have tp : (pe == 0) = false := beq_eq_false_iff_ne.2 hp
     rw [if_neg hp]
     go_enter Tryz.func180, Tryz.ntmps180
     go_wp2
     go_quiet (fail)
     go_wp2_with (go_at_call 168; refine ((HU.out.step (Kp.draw _ _)).plc c 0 (by omega) HV.out (by omega) rfl rfl HPV.out HPE.out HPM.out).mono ?_; rintro e w5 ⟨rfl, d5, U5, _⟩; have y0 := U5.al.frozen 5; have y1 := U5.al.frozen 6; have y2 : w5.cell? ⟨g, 5, none⟩ = some (.int .i64 (A.oc : Int)) := U5.al.cell 5; have y3 : w5.cell? ⟨g, 6, none⟩ = some (.int .i64 (A.ol : Int)) := U5.al.cell 6; have HU5 := hid U5; clear U5)
     go_ret2
     refine ⟨rfl, d5, ?_⟩
     rw [show ({ A with oc := (c, l).1, ol := (c, l).2 } : AS) = A from HAC.out]
     exact HU5.out
 · have tf : decide ((l : Int) - (c : Int) < (n : Int)) = true := decide_eq_true (by omega)
   by_cases hf0 : m.freeB 1 = 0
   · have hN : m.ruN c l n = true := by unfold HM.ruN; simp [hf0]; omega
     have re : m.ruE A.sp c l n x y z = 6 := by unfold HM.ruE HM.pgE; rw [hN]; rfl
     have rv : m.ruV A.sp c l n x y z = 0 := by unfold HM.ruV HM.pgV; rw [hN]; rfl
     have rm : m.ruM A.sp c l n x y z = m := by unfold HM.ruM HM.pgM; rw [hN]; rfl
     have rc : m.ruC A.sp c l n x y z = (c, l) := by unfold HM.ruC; rw [re]; rfl
     rw [re, rv, rm, rc]
     rw [show ({ A with oc := (c, l).1, ol := (c, l).2 } : AS) = A from HAC.out]
     clear re rv rm rc hN
     have HF : Hid (m.freeB 1 / 64 = 0) := by show _ = _; rw [hf0]
     clear hf0
     go_enter Tryz.func180, Tryz.ntmps180
     go_wp2
     go_quiet (fail)
     go_wp2_with (go_at_call 167; refine ((HU.out.step (Kp.draw _ _)).free 1 (by omega) (by omega) HF.out).mono ?_; rintro e w4 ⟨rfl, U4⟩; have HU4 := hid U4; have k0 := U4.b3.cell 0; have k1 := U4.b3.cell 1; have k2 := U4.b3.cell 2; clear U4)
     go_ret2
     exact ⟨rfl, _, HU4.out.rs.mono (by omega)⟩
   · obtain ⟨fb, hfb⟩ : ∃ k, m.freeB 1 / 64 = k := ⟨_, rfl⟩
     have hm64 := freeB_64 m
     have hfl := HFB.out
     have hfb2 : fb ≤ 64 := by omega
     have hfb1 : fb ≠ 0 := by omega
     have tb : ((fb : Int) == 0) = false := beq_eq_false_iff_ne.2 (by omega)
     have HF := hid hfb
     have hN : m.ruN c l n = false := by unfold HM.ruN; simp [hf0]
     have hA' : m.ruA c l n = fb * 64 := by unfold HM.ruA; rw [if_neg hf]; omega
     have hB' : m.ruB c l n = fb := by unfold HM.ruB; rw [if_neg hf, hfb]
     have hL' : m.ruL c l n = (fb + 1) * 64 := by unfold HM.ruL; rw [if_neg hf]; omega
     clear hf0 hm64 hfl hfb
     obtain ⟨pe, hpe⟩ : ∃ v, m.rpE A.sp (fb * 64) fb x y z = v := ⟨_, rfl⟩
     obtain ⟨pv, hpv⟩ : ∃ v, m.rpV A.sp (fb * 64) fb x y z = v := ⟨_, rfl⟩
     obtain ⟨pm, hpm⟩ : ∃ v, m.rpM A.sp (fb * 64) fb x y z = v := ⟨_, rfl⟩
     have HPE := hid hpe
     have HPV := hid hpv
     have HPM := hid hpm
     have re : m.ruE A.sp c l n x y z = pe := by unfold HM.ruE HM.pgE; rw [hN, hA', hB', ← hpe]; rfl
     have rv : m.ruV A.sp c l n x y z = pv := by unfold HM.ruV HM.pgV; rw [hN, hA', hB', ← hpv]; rfl
     have rm : m.ruM A.sp c l n x y z = pm := by unfold HM.ruM HM.pgM; rw [hN, hA', hB', ← hpm]; rfl
     have rc : m.ruC A.sp c l n x y z = if pe = 0 then ((fb * 64) + n, (fb + 1) * 64) else (c, l) := by unfold HM.ruC; rw [re, hA', hL']
     rw [re, rv, rm, rc]
     clear re rv rm rc hN hA' hB' hL' hpe hpv hpm
     by_cases hp : pe = 0
     · have tp : (pe == 0) = true := beq_iff_eq.2 hp
       rw [if_pos hp]
       go_enter Tryz.func180, Tryz.ntmps180
       go_wp2
       go_quiet (fail)
       go_wp2_with (first
         | (go_at_call 167; refine ((HU.out.step (Kp.draw _ _)).free 1 (by omega) (by omega) HF.out).mono ?_; rintro e w4 ⟨rfl, U4⟩; have HU4 := hid U4; have k0 := U4.b3.cell 0; have k1 := U4.b3.cell 1; have k2 := U4.b3.cell 2; clear U4)
         | (go_at_call 168; refine (HU4.out.plc (fb * 64) fb (by omega) HV.out (by omega) (by omega) rfl HPV.out HPE.out HPM.out).mono ?_; rintro e w5 ⟨rfl, d5, U5, _⟩; have y0 := U5.al.frozen 5; have y1 := U5.al.frozen 6; have y2 : w5.cell? ⟨g, 5, none⟩ = some (.int .i64 (A.oc : Int)) := U5.al.cell 5; have y3 : w5.cell? ⟨g, 6, none⟩ = some (.int .i64 (A.ol : Int)) := U5.al.cell 6; have HU5 := hid U5; clear U5))
       go_ret2
       have US := HU5.out.setO ((fb * 64) + n) ((fb + 1) * 64)
       rw [show ((fb * 64 + n : Nat) : Int) = (fb : Int) * 64 + (n : Int) by omega, show (((fb + 1) * 64 : Nat) : Int) = ((fb : Int) + 1) * 64 by omega] at US
       exact ⟨by first | rfl | (rw [hp]; done) | (rw [hp]; rfl), _, US⟩
     · have tp : (pe == 0) = false := beq_eq_false_iff_ne.2 hp
       rw [if_neg hp]
       go_enter Tryz.func180, Tryz.ntmps180
       go_wp2
       go_quiet (fail)
       go_wp2_with (first
         | (go_at_call 167; refine ((HU.out.step (Kp.draw _ _)).free 1 (by omega) (by omega) HF.out).mono ?_; rintro e w4 ⟨rfl, U4⟩; have HU4 := hid U4; have k0 := U4.b3.cell 0; have k1 := U4.b3.cell 1; have k2 := U4.b3.cell 2; clear U4)
         | (go_at_call 168; refine (HU4.out.plc (fb * 64) fb (by omega) HV.out (by omega) (by omega) rfl HPV.out HPE.out HPM.out).mono ?_; rintro e w5 ⟨rfl, d5, U5, _⟩; have y0 := U5.al.frozen 5; have y1 := U5.al.frozen 6; have y2 : w5.cell? ⟨g, 5, none⟩ = some (.int .i64 (A.oc : Int)) := U5.al.cell 5; have y3 : w5.cell? ⟨g, 6, none⟩ = some (.int .i64 (A.ol : Int)) := U5.al.cell 6; have HU5 := hid U5; clear U5))
       go_ret2
       refine ⟨rfl, d5, ?_⟩
       rw [show ({ A with oc := (c, l).1, ol := (c, l).2 } : AS) = A from HAC.out]
       exact HU5.out
end
end Go.Proofs.YthndilllnneijaaGreat
