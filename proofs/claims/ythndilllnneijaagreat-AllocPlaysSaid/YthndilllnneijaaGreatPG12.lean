/-
  The contracts of the document's Valid and Words. No condition.
-/
import Derived.Test.YthndilllnneijaaGreatPG11
set_option linter.unusedSimpArgs false
set_option linter.unusedVariables false
set_option maxRecDepth 100000
set_option maxHeartbeats 2000000
namespace Go.Proofs.YthndilllnneijaaGreat
open Go.RowKit Go.Deep Go.Maps
structure Bx (w W : World) (cs : Array Value) (t : TypeId) : Prop where
 box : Blk W w.heap.size t cs
 kp : Kp [] w W
theorem Bx.start (w : World) (cs : Array Value) (t : TypeId) : Bx w (w.alloc (.cells cs t)) cs t := ⟨Blk.new w t cs, Kp.new _ _⟩
theorem Bx.kp0 {w W W' : World} {cs : Array Value} {t : TypeId} (h : Bx w W cs t) (k : Kp [] W W') : Bx w W' cs t := ⟨h.box.kp k (by simp), h.kp.chain k⟩
theorem r_valid (r d k : Int) (w : World) :
   Calls Tryz.prog 136 #[.agg #[.int .i64 r, .int .i64 d, .int .i64 k]] w fun e w' => e = .returned (.bool (vldB r d k)) ∧ Kp [] w w' := by
 by_cases h1 : r < 0
 · have e : vldB r d k = false := decide_eq_false (by omega)
   rw [e]; clear e
   go_enter Tryz.func136, Tryz.ntmps136
   go_wp2
   go_ret
   exact ⟨rfl, Kp.new _ _⟩
 by_cases h2 : 15 < r
 · have e : vldB r d k = false := decide_eq_false (by omega)
   rw [e]; clear e
   go_enter Tryz.func136, Tryz.ntmps136
   go_wp2
   go_ret
   exact ⟨rfl, Kp.new _ _⟩
 by_cases h3 : d < 0
 · have e : vldB r d k = false := decide_eq_false (by omega)
   rw [e]; clear e
   go_enter Tryz.func136, Tryz.ntmps136
   go_wp2
   go_ret
   exact ⟨rfl, Kp.new _ _⟩
 by_cases h4 : 200 < d
 · have e : vldB r d k = false := decide_eq_false (by omega)
   rw [e]; clear e
   go_enter Tryz.func136, Tryz.ntmps136
   go_wp2
   go_ret
   exact ⟨rfl, Kp.new _ _⟩
 by_cases k0 : k = 0
 · have e : vldB r d k = true := decide_eq_true (by omega)
   rw [e]; clear e; subst k0
   go_enter Tryz.func136, Tryz.ntmps136
   go_wp2
   go_ret
   exact ⟨rfl, Kp.new _ _⟩
 by_cases k3 : k = 3
 · have e : vldB r d k = true := decide_eq_true (by omega)
   rw [e]; clear e k0; subst k3
   go_enter Tryz.func136, Tryz.ntmps136
   go_wp2
   go_ret
   exact ⟨rfl, Kp.new _ _⟩
 by_cases k1 : k = 1
 · clear k0 k3; subst k1
   by_cases hr : 1 ≤ r
   · have e : vldB r d 1 = true := decide_eq_true (by omega)
     rw [e]; clear e
     go_enter Tryz.func136, Tryz.ntmps136
     go_wp2
     go_ret
     exact ⟨rfl, Kp.new _ _⟩
   · have e : vldB r d 1 = false := decide_eq_false (by omega)
     rw [e]; clear e
     go_enter Tryz.func136, Tryz.ntmps136
     go_wp2
     go_ret
     exact ⟨rfl, Kp.new _ _⟩
 by_cases k2 : k = 2
 · clear k0 k3 k1; subst k2
   by_cases hr : 2 ≤ r
   · have e : vldB r d 2 = true := decide_eq_true (by omega)
     rw [e]; clear e
     go_enter Tryz.func136, Tryz.ntmps136
     go_wp2
     go_ret
     exact ⟨rfl, Kp.new _ _⟩
   · have e : vldB r d 2 = false := decide_eq_false (by omega)
     rw [e]; clear e
     go_enter Tryz.func136, Tryz.ntmps136
     go_wp2
     go_ret
     exact ⟨rfl, Kp.new _ _⟩
 have e : vldB r d k = false := decide_eq_false (by omega)
 have g0 : (k == 0) = false := beq_eq_false_iff_ne.2 k0
 have g1 : (k == 1) = false := beq_eq_false_iff_ne.2 k1
 have g2 : (k == 2) = false := beq_eq_false_iff_ne.2 k2
 have g3 : (k == 3) = false := beq_eq_false_iff_ne.2 k3
 rw [e]; clear e k0 k1 k2 k3
 go_enter Tryz.func136, Tryz.ntmps136
 go_wp2
 go_ret
 exact ⟨rfl, Kp.new _ _⟩
theorem r_words (r d k : Int) (w : World) :
   Calls Tryz.prog 153 #[.agg #[.int .i64 r, .int .i64 d, .int .i64 k]] w fun e w' => e = .returned (.int .i64 (wordsI r d k)) ∧ Kp [] w w' := by
 have B0 := hid (Blk.new w 33 #[.int .i64 r, .int .i64 d, .int .i64 k])
 rcases hv : vldB r d k
 · have e : wordsI r d k = 0 := by simp [wordsI, hv]
   rw [e]; clear e
   have HV := hid hv
   clear hv
   go_enter Tryz.func153, Tryz.ntmps153
   go_wp2_with (go_at_call 136; refine (r_valid r d k _).mono ?_; rintro e w1 ⟨rfl, K1⟩; rw [HV.out]; have HK := hid K1; clear K1)
   go_ret
   exact ⟨rfl, (Kp.new _ _).chain HK.out⟩
 · obtain ⟨r, d, k, rfl, rfl, rfl, hr, hd, hk⟩ := vldB_nat hv
   have e : wordsI r d k = 2 + (r : Int) + (d : Int) + (2 + (r : Int) + (d : Int)) % 2 := by simp only [wordsI, hv, if_true, Int.toNat_natCast, wdN]; omega
   have HE := hid e
   clear e
   have HV := hid hv
   clear hv
   go_enter Tryz.func153, Tryz.ntmps153
   go_wp2_with (first | (go_at_call 136; refine (r_valid r d k _).mono ?_; rintro e w1 ⟨rfl, K1⟩; rw [HV.out]; have HK := hid K1; have B1 := B0.out.kp K1 (by simp); have q0 := B1.cell 0; have q1 := B1.cell 1; clear K1 B1))
   go_ret
   rw [HE.out]
   exact ⟨rfl, ((Kp.new _ _).chain HK.out)⟩
section
variable {w w' : World} {b : HB} {r : RM} {m : HM} {q : Nat}
def HM.refE (m : HM) (a i : Int) : Int := if m.has a then (match m.ob a.toNat with | some o => if inB o.refs i then 0 else 1 | none => 4) else 4
def HM.datE (m : HM) (a i : Int) : Int := if m.has a then (match m.ob a.toNat with | some o => if inB o.data i then 0 else 1 | none => 4) else 4
def HM.datOff (m : HM) (a : Int) : Nat := match m.ob a.toNat with | some o => o.refs | none => 0
def HM.refV (m : HM) (a i : Int) : Int := if m.refE a i = 0 then a + 2 + i else 0
def HM.datV (m : HM) (a i : Int) : Int := if m.datE a i = 0 then a + 2 + (m.datOff a : Int) + i else 0
theorem SH.shape_at (h : SH w b q m) {a : Nat} {o : Ob} (ho : m.ob a = some o) :
   Calls Tryz.prog 113 #[.pointer (some ⟨b.g, 0, none⟩), .int .i64 (a : Int)] w fun e w' => e = .returned (.agg #[.int .i64 (o.refs : Int), .int .i64 (o.data : Int), .int .i64 (o.kind : Int)]) ∧ Kp [] w w' := by
 obtain ⟨r, R, A, _⟩ := h
 have hok := A.inv.ok _ _ ho
 have hhi := A.inv.hi ho
 have hw := hok.wd_bd
 exact h_shape R a o.refs o.data o.kind (by rw [A.wl R]; omega) hok.bd.1 hok.bd.2.1 hok.bd.2.2 (A.w1 ho)
theorem fld0 (x y z : Value) (w : World) : Sem.run Tryz.prog (Instr.field 33 (.agg #[x, y, z]) 0) w = .ok x w := rfl
theorem h_refWord (h : SH w b q m) (a i : Int) (ha : W64 a) :
   Calls Tryz.prog 142 #[.pointer (some ⟨b.g, 0, none⟩), .int .i64 a, .int .i64 i] w fun e w' => e = .returned (.tuple #[.int .i64 (m.refV a i), .int .i64 (m.refE a i)]) ∧ Kp [] w w' := by
 have HA := hid ha
 rcases hb : m.has a
 · have e : m.lackE a = 4 := by simp [HM.lackE, hb]
   have e1 : m.refE a i = 4 := by simp [HM.refE, hb]
   have HE := hid e
   rw [show m.refV a i = 0 by simp [HM.refV, e1], e1]; clear e e1
   go_enter Tryz.func142, Tryz.ntmps142
   go_wp2_with (go_at_call 112; refine (h_check h _ HA.out).mono ?_; rintro e w' ⟨rfl, n1, rfl⟩; rw [HE.out])
   go_ret2
   exact ⟨rfl, Kp.draw _ _⟩
 · obtain ⟨k, o, rfl, ho⟩ := has_nat hb
   have e : m.lackE (k : Int) = 0 := by simp [HM.lackE, hb]
   have hok := h.inv.ok _ _ ho
   have hbd := hok.bd
   have hhi := h.inv.hi ho
   have hnb := h.inv.n_bd
   have HE := hid e
   have HO := hid ho
   by_cases hi : 0 ≤ i ∧ i < (o.refs : Int)
   · have e1 : m.refE (k : Int) i = 0 := by simp [HM.refE, hb, ho, show inB o.refs i = true from decide_eq_true hi]
     rw [show m.refV (k : Int) i = (k : Int) + 2 + i by simp [HM.refV, e1], e1]
     obtain ⟨j, rfl⟩ : ∃ j : Nat, i = (j : Int) := ⟨i.toNat, by omega⟩
     have hj : j < o.refs := by omega
     clear e e1 ho hi ha
     go_enter Tryz.func142, Tryz.ntmps142
     go_wp2_with (first | (go_at_call 112; refine (h_check h _ HA.out).mono ?_; rintro e w' ⟨rfl, n1, rfl⟩; rw [HE.out]) | (go_at_call 113; refine ((h.drewN _).shape_at HO.out).mono ?_; rintro e w2 ⟨rfl, K2⟩; have HK := hid K2.from_drewN; clear K2))
     rw [fld0]
     go_wp2
     go_ret2
     exact ⟨rfl, HK.out⟩
   · have e1 : m.refE (k : Int) i = 1 := by simp [HM.refE, hb, ho, show inB o.refs i = false from decide_eq_false hi]
     rw [show m.refV (k : Int) i = 0 by simp [HM.refV, e1], e1]
     by_cases hn : i < 0
     · clear e e1 ho hi ha
       go_enter Tryz.func142, Tryz.ntmps142
       go_wp2_with (first | (go_at_call 112; refine (h_check h _ HA.out).mono ?_; rintro e w' ⟨rfl, n1, rfl⟩; rw [HE.out]))
       go_ret2
       exact ⟨rfl, Kp.draw _ _⟩
     · have hge : (o.refs : Int) ≤ i := by omega
       clear e e1 ho hi ha
       go_enter Tryz.func142, Tryz.ntmps142
       go_wp2_with (first | (go_at_call 112; refine (h_check h _ HA.out).mono ?_; rintro e w' ⟨rfl, n1, rfl⟩; rw [HE.out]) | (go_at_call 113; refine ((h.drewN _).shape_at HO.out).mono ?_; rintro e w2 ⟨rfl, K2⟩; have HK := hid K2.from_drewN; clear K2))
       rw [fld0]
       go_wp2
       go_ret2
       exact ⟨rfl, HK.out⟩
theorem h_dataWord (h : SH w b q m) (a i : Int) (ha : W64 a) :
   Calls Tryz.prog 145 #[.pointer (some ⟨b.g, 0, none⟩), .int .i64 a, .int .i64 i] w fun e w' => e = .returned (.tuple #[.int .i64 (m.datV a i), .int .i64 (m.datE a i)]) ∧ Kp [] w w' := by
 have HA := hid ha
 rcases hb : m.has a
 · have e : m.lackE a = 4 := by simp [HM.lackE, hb]
   have e1 : m.datE a i = 4 := by simp [HM.datE, hb]
   have HE := hid e
   rw [show m.datV a i = 0 by simp [HM.datV, e1], e1]; clear e e1
   go_enter Tryz.func145, Tryz.ntmps145
   go_wp2_with (go_at_call 112; refine (h_check h _ HA.out).mono ?_; rintro e w' ⟨rfl, n1, rfl⟩; rw [HE.out])
   go_ret2
   exact ⟨rfl, Kp.draw _ _⟩
 · obtain ⟨k, o, rfl, ho⟩ := has_nat hb
   have e : m.lackE (k : Int) = 0 := by simp [HM.lackE, hb]
   have hok := h.inv.ok _ _ ho
   have hbd := hok.bd
   have hhi := h.inv.hi ho
   have hnb := h.inv.n_bd
   have HE := hid e
   have HO := hid ho
   have hoff : m.datOff (k : Int) = o.refs := by simp [HM.datOff, ho]
   have B0 : ∀ (W : World), Blk (W.alloc (.cells #[.int .i64 (o.refs : Int), .int .i64 (o.data : Int), .int .i64 (o.kind : Int)] 33)) W.heap.size 33 #[.int .i64 (o.refs : Int), .int .i64 (o.data : Int), .int .i64 (o.kind : Int)] := fun W => Blk.new W _ _
   by_cases hi : 0 ≤ i ∧ i < (o.data : Int)
   · have e1 : m.datE (k : Int) i = 0 := by simp [HM.datE, hb, ho, show inB o.data i = true from decide_eq_true hi]
     rw [show m.datV (k : Int) i = (k : Int) + 2 + (o.refs : Int) + i by simp [HM.datV, e1, hoff], e1]
     obtain ⟨j, rfl⟩ : ∃ j : Nat, i = (j : Int) := ⟨i.toNat, by omega⟩
     have hj : j < o.data := by omega
     clear e e1 ho hi ha B0 hoff
     go_enter Tryz.func145, Tryz.ntmps145
     go_wp2_with (first | (go_at_call 112; refine (h_check h _ HA.out).mono ?_; rintro e w' ⟨rfl, n1, rfl⟩; rw [HE.out]) | (go_at_call 113; refine ((h.drewN _).shape_at HO.out).mono ?_; rintro e w2 ⟨rfl, K2⟩; have HK := hid K2.from_drewN; clear K2))
     go_ret2
     exact ⟨rfl, HK.out.chain (Kp.new _ _)⟩
   · have e1 : m.datE (k : Int) i = 1 := by simp [HM.datE, hb, ho, show inB o.data i = false from decide_eq_false hi]
     rw [show m.datV (k : Int) i = 0 by simp [HM.datV, e1], e1]
     by_cases hn : i < 0
     · clear e e1 ho hi ha B0 hoff
       go_enter Tryz.func145, Tryz.ntmps145
       go_wp2_with (first | (go_at_call 112; refine (h_check h _ HA.out).mono ?_; rintro e w' ⟨rfl, n1, rfl⟩; rw [HE.out]) | (go_at_call 113; refine ((h.drewN _).shape_at HO.out).mono ?_; rintro e w2 ⟨rfl, K2⟩; have HK := hid K2.from_drewN; clear K2))
       go_ret2
       exact ⟨rfl, HK.out.chain (Kp.new _ _)⟩
     · have hge : (o.data : Int) ≤ i := by omega
       clear e e1 ho hi ha B0 hoff
       go_enter Tryz.func145, Tryz.ntmps145
       go_wp2_with (first | (go_at_call 112; refine (h_check h _ HA.out).mono ?_; rintro e w' ⟨rfl, n1, rfl⟩; rw [HE.out]) | (go_at_call 113; refine ((h.drewN _).shape_at HO.out).mono ?_; rintro e w2 ⟨rfl, K2⟩; have HK := hid K2.from_drewN; clear K2))
       go_ret2
       exact ⟨rfl, HK.out.chain (Kp.new _ _)⟩
end
section
variable {w w' : World} {b : HB} {r : RM} {m : HM} {q : Nat}
theorem refE_zero {a i : Int} (h : m.refE a i = 0) : ∃ (k j : Nat) (o : Ob), a = (k : Int) ∧ i = (j : Int) ∧ m.ob k = some o ∧ j < o.refs ∧ m.refV a i = ((k + 2 + j : Nat) : Int) := by
 rcases hb : m.has a
 · simp [HM.refE, hb] at h
 · obtain ⟨k, o, rfl, ho⟩ := has_nat hb
   by_cases hi : 0 ≤ i ∧ i < (o.refs : Int)
   · obtain ⟨j, rfl⟩ : ∃ j : Nat, i = (j : Int) := ⟨i.toNat, by omega⟩
     exact ⟨k, j, o, rfl, rfl, ho, by omega, by simp only [HM.refV, h, if_true]; omega⟩
   · simp [HM.refE, hb, ho, show inB o.refs i = false from decide_eq_false hi] at h
theorem datE_zero {a i : Int} (h : m.datE a i = 0) : ∃ (k j : Nat) (o : Ob), a = (k : Int) ∧ i = (j : Int) ∧ m.ob k = some o ∧ j < o.data ∧ m.datV a i = ((k + 2 + (o.refs + j) : Nat) : Int) ∧ m.datOff a = o.refs := by
 rcases hb : m.has a
 · simp [HM.datE, hb] at h
 · obtain ⟨k, o, rfl, ho⟩ := has_nat hb
   by_cases hi : 0 ≤ i ∧ i < (o.data : Int)
   · obtain ⟨j, rfl⟩ : ∃ j : Nat, i = (j : Int) := ⟨i.toNat, by omega⟩
     have e : m.datOff (k : Int) = o.refs := by simp [HM.datOff, ho]
     exact ⟨k, j, o, rfl, rfl, ho, by omega, by simp only [HM.datV, h, if_true, e]; omega, e⟩
   · simp [HM.datE, hb, ho, show inB o.data i = false from decide_eq_false hi] at h
theorem SH.wcell (h : SH w b q m) {a j : Nat} {o : Ob} (ho : m.ob a = some o) (hj : j < o.refs + o.data) {W : World} (k : Kp [] w W) :
   ∃ n c : Nat, W.cell? ⟨b.g, 1, none⟩ = some (.slice (some ⟨b.hw, 0, none⟩) n c) ∧ a + 2 + j < n ∧ n ≤ 4096 ∧ W.cell? ⟨b.hw, a + 2 + j, none⟩ = some (.int .i64 (o.fs.getD j 0)) ∧ a + 2 + j ≤ 4096 ∧ W.frozen? ⟨b.hw, a + 2 + j, none⟩ = false := by
 obtain ⟨r, R, A, hq1, hq2⟩ := h
 have hok := A.inv.ok _ _ ho
 have hhi := A.inv.hi ho
 have hwl := A.wl R
 have hlen := hok.len
 have hnb := A.inv.n_bd
 have hl : a + 2 + j < r.ws.length := by have := hok.wd_bd; rw [hwl]; omega
 refine ⟨r.ws.length, r.cw, (R.kp0 k).c1, hl, by omega, ?_, by omega, (R.kp0 k).Bw.frozen _⟩
 rw [(R.kp0 k).word hl]
 have := A.rep.w_ob _ _ ho (2 + j) (by have := hok.wd_bd; omega)
 rw [show a + (2 + j) = a + 2 + j by omega] at this
 rw [this]
 have e : o.word (2 + j) = o.fs.getD j 0 := by
   unfold Ob.word
   rw [if_neg (by omega), if_neg (by omega), show 2 + j - 2 = j by omega]
 rw [e]
def HM.fget (m : HM) (a j : Nat) : Int := match m.ob a with | some o => o.fs.getD j 0 | none => 0
def HM.refG (m : HM) (a i : Int) : Int := if m.refE a i = 0 then m.fget a.toNat i.toNat else 0
def HM.datG (m : HM) (a i : Int) : Int := if m.datE a i = 0 then m.fget a.toNat (m.datOff a + i.toNat) else 0
theorem h_ref (h : SH w b q m) (a i : Int) (ha : W64 a) :
   Calls Tryz.prog 161 #[.pointer (some ⟨b.g, 0, none⟩), .int .i64 a, .int .i64 i] w fun e w' => e = .returned (.tuple #[.int .i64 (m.refG a i), .int .i64 (m.refE a i)]) ∧ Kp [] w w' := by
 have HC := hid (h_refWord h a i ha)
 clear ha
 by_cases hz : m.refE a i = 0
 · obtain ⟨k, j, o, rfl, rfl, ho, hj, hv⟩ := refE_zero hz
   have HZ := hid hz
   have HV := hid hv
   have e2 : m.refG (k : Int) (j : Int) = o.fs.getD j 0 := by unfold HM.refG; rw [if_pos hz, Int.toNat_natCast, Int.toNat_natCast]; simp only [HM.fget, ho]
   rw [e2]
   have HW : Hid (∀ W, Kp [] w W → _) := fun W k => h.wcell ho (j := j) (by omega) k
   generalize k + 2 + j = p at HV HW
   generalize o.fs.getD j 0 = y at HW ⊢
   clear e2 hz hv ho
   go_enter Tryz.func161, Tryz.ntmps161
   go_wp2_with (go_at_call 142; refine HC.out.mono ?_; rintro e w2 ⟨rfl, K2⟩; rw [HV.out, HZ.out]; have HK := hid K2; clear K2; obtain ⟨n, c, c1, hpn, hn, c2, hp, c3⟩ := HW.out w2 HK.out)
   go_ret2
   rw [HZ.out]
   exact ⟨rfl, HK.out⟩
 · have e2 : m.refG a i = 0 := by unfold HM.refG; rw [if_neg hz]
   rw [e2]
   have f1 : (m.refE a i != 0) = true := bne_iff_ne.2 hz
   clear hz e2
   go_enter Tryz.func161, Tryz.ntmps161
   go_wp2_with (go_at_call 142; refine HC.out.mono ?_; rintro e w2 ⟨rfl, K2⟩; have HK := hid K2; clear K2)
   go_ret2
   exact ⟨rfl, HK.out⟩
theorem h_data (h : SH w b q m) (a i : Int) (ha : W64 a) :
   Calls Tryz.prog 163 #[.pointer (some ⟨b.g, 0, none⟩), .int .i64 a, .int .i64 i] w fun e w' => e = .returned (.tuple #[.int .i64 (m.datG a i), .int .i64 (m.datE a i)]) ∧ Kp [] w w' := by
 have HC := hid (h_dataWord h a i ha)
 clear ha
 by_cases hz : m.datE a i = 0
 · obtain ⟨k, j, o, rfl, rfl, ho, hj, hv, hf⟩ := datE_zero hz
   have HZ := hid hz
   have HV := hid hv
   have e2 : m.datG (k : Int) (j : Int) = o.fs.getD (o.refs + j) 0 := by unfold HM.datG; rw [if_pos hz, Int.toNat_natCast, Int.toNat_natCast, hf]; simp only [HM.fget, ho]
   rw [e2]
   have HW : Hid (∀ W, Kp [] w W → _) := fun W k => h.wcell ho (j := o.refs + j) (by omega) k
   generalize k + 2 + (o.refs + j) = p at HV HW
   generalize o.fs.getD (o.refs + j) 0 = y at HW ⊢
   clear e2 hz hv ho
   go_enter Tryz.func163, Tryz.ntmps163
   go_wp2_with (go_at_call 145; refine HC.out.mono ?_; rintro e w2 ⟨rfl, K2⟩; rw [HV.out, HZ.out]; have HK := hid K2; clear K2; obtain ⟨n, c, c1, hpn, hn, c2, hp, c3⟩ := HW.out w2 HK.out)
   go_ret2
   rw [HZ.out]
   exact ⟨rfl, HK.out⟩
 · have e2 : m.datG a i = 0 := by unfold HM.datG; rw [if_neg hz]
   rw [e2]
   have f1 : (m.datE a i != 0) = true := bne_iff_ne.2 hz
   clear hz e2
   go_enter Tryz.func163, Tryz.ntmps163
   go_wp2_with (go_at_call 145; refine HC.out.mono ?_; rintro e w2 ⟨rfl, K2⟩; have HK := hid K2; clear K2)
   go_ret2
   exact ⟨rfl, HK.out⟩
end
section
variable {w w' : World} {b : HB} {r : RM} {m : HM} {q : Nat}
def HM.findE (m : HM) (a : Int) : Int := if m.ownI a = 0 then 4 else 0
theorem h_find (h : SH w b q m) (a : Int) (ha : W64 a) :
   Calls Tryz.prog 157 #[.pointer (some ⟨b.g, 0, none⟩), .int .i64 a] w fun e w' => e = .returned (.tuple #[.int .i64 ((m.ownI a : Nat) : Int), .int .i64 (m.findE a)]) ∧ ∃ n, w' = w.drewN n := by
 have HC : Hid (∀ n, _) := fun n => h_owner (h.drewN n) a ha
 clear ha
 by_cases hz : m.ownI a = 0
 · have e : m.findE a = 4 := by simp [HM.findE, hz]
   rw [e, hz]
   have HZ := hid hz
   clear e hz
   go_enter Tryz.func157, Tryz.ntmps157
   go_wp2_with (first | (go_at_call 55; refine h.made.mono ?_; rintro e w' ⟨rfl, n1, rfl⟩) | (go_at_call 175; refine (HC.out _).mono ?_; rintro e w' ⟨rfl, n2, rfl⟩; rw [HZ.out]))
   go_ret2
   exact ⟨rfl, _, rfl⟩
 · have e : m.findE a = 0 := by simp [HM.findE, hz]
   rw [e]
   generalize m.ownI a = x at hz HC ⊢
   have e0 : ((x : Int) == 0) = false := beq_eq_false_iff_ne.2 (by omega)
   clear e hz
   go_enter Tryz.func157, Tryz.ntmps157
   go_wp2_with (first | (go_at_call 55; refine h.made.mono ?_; rintro e w' ⟨rfl, n1, rfl⟩) | (go_at_call 175; refine (HC.out _).mono ?_; rintro e w' ⟨rfl, n2, rfl⟩))
   go_ret2
   exact ⟨rfl, _, rfl⟩
theorem h_births (h : SH w b q m) :
   Calls Tryz.prog 30 #[.pointer (some ⟨b.g, 0, none⟩)] w fun e w' => e = .returned (.int .i64 (m.born : Int)) ∧ ∃ n, w' = w.drewN n := by
 have h0 := h
 obtain ⟨r, R, A, _⟩ := h
 have hc := R.c6
 rw [A.born] at hc
 go_enter Tryz.func30, Tryz.ntmps30
 go_wp2_with (first | (go_at_call 55; refine h0.made.mono ?_; rintro e w' ⟨rfl, n1, rfl⟩))
 go_ret
 exact ⟨rfl, _, rfl⟩
theorem h_blocks (h : SH w b q m) :
   Calls Tryz.prog 40 #[.pointer (some ⟨b.g, 0, none⟩)] w fun e w' => e = .returned (.int .i64 (m.bl.length : Int)) ∧ ∃ n, w' = w.drewN n := by
 have h0 := h
 obtain ⟨r, R, A, _⟩ := h
 have hc := R.c0
 rw [A.bl] at hc
 go_enter Tryz.func40, Tryz.ntmps40
 go_wp2_with (first | (go_at_call 55; refine h0.made.mono ?_; rintro e w' ⟨rfl, n1, rfl⟩))
 go_ret
 exact ⟨rfl, _, rfl⟩
end
end Go.Proofs.YthndilllnneijaaGreat
