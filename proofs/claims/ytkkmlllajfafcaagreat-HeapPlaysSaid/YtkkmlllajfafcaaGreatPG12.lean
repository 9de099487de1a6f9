/-
  The contracts of the document's Valid and Words. No condition.
-/
import Derived.Test.YtkkmlllajfafcaaGreatPG11
namespace Go.Proofs.YtkkmlllajfafcaaGreat
set_option linter.unusedVariables false
set_option linter.unusedSimpArgs false
open Go.RowKit Go.Deep Go.Maps

structure Bx (w W : World) (cs : Array Value) (t : TypeId) : Prop where
  box : Blk W w.heap.size t cs
  kp : Kp [] w W
theorem Bx.start (w : World) (cs : Array Value) (t : TypeId) : Bx w (w.alloc (.cells cs t)) cs t := ⟨Blk.new w t cs, Kp.new _ _⟩
theorem Bx.kp0 {w W W' : World} {cs : Array Value} {t : TypeId} (h : Bx w W cs t) (k : Kp [] W W') : Bx w W' cs t := ⟨h.box.kp k (by simp), h.kp.chain k⟩
set_option maxHeartbeats 1000000 in
theorem r_valid (r d k : Int) (w : World) :
    Calls Tryz.prog 136 #[.agg #[.int .i64 r, .int .i64 d, .int .i64 k]] w fun e w' => e = .returned (.bool (vldB r d k)) ∧ Kp [] w w' := by
  by_cases h1 : r < 0
  · have e : vldB r d k = false := decide_eq_false (by omega)
    rw [e]; clear e
    go_enter Tryz.func136, Tryz.ntmps136
    go_wp2
    go_ret
    exact ⟨rfl, Kp.new _ _⟩
  by_cases h2 : 15 < r
  · have e : vldB r d k = false := decide_eq_false (by omega)
    rw [e]; clear e
    go_enter Tryz.func136, Tryz.ntmps136
    go_wp2
    go_ret
    exact ⟨rfl, Kp.new _ _⟩
  by_cases h3 : d < 0
  · have e : vldB r d k = false := decide_eq_false (by omega)
    rw [e]; clear e
    go_enter Tryz.func136, Tryz.ntmps136
    go_wp2
    go_ret
    exact ⟨rfl, Kp.new _ _⟩
  by_cases h4 : 200 < d
  · have e : vldB r d k = false := decide_eq_false (by omega)
    rw [e]; clear e
    go_enter Tryz.func136, Tryz.ntmps136
    go_wp2
    go_ret
    exact ⟨rfl, Kp.new _ _⟩
  by_cases k0 : k = 0
  · have e : vldB r d k = true := decide_eq_true (by omega)
    rw [e]; clear e; subst k0
    go_enter Tryz.func136, Tryz.ntmps136
    go_wp2
    go_ret
    exact ⟨rfl, Kp.new _ _⟩
  by_cases k3 : k = 3
  · have e : vldB r d k = true := decide_eq_true (by omega)
    rw [e]; clear e k0; subst k3
    go_enter Tryz.func136, Tryz.ntmps136
    go_wp2
    go_ret
    exact ⟨rfl, Kp.new _ _⟩
  by_cases k1 : k = 1
  · clear k0 k3; subst k1
    by_cases hr : 1 ≤ r
    · have e : vldB r d 1 = true := decide_eq_true (by omega)
      rw [e]; clear e
      go_enter Tryz.func136, Tryz.ntmps136
      go_wp2
      go_ret
      exact ⟨rfl, Kp.new _ _⟩
    · have e : vldB r d 1 = false := decide_eq_false (by omega)
      rw [e]; clear e
      go_enter Tryz.func136, Tryz.ntmps136
      go_wp2
      go_ret
      exact ⟨rfl, Kp.new _ _⟩
  by_cases k2 : k = 2
  · clear k0 k3 k1; subst k2
    by_cases hr : 2 ≤ r
    · have e : vldB r d 2 = true := decide_eq_true (by omega)
      rw [e]; clear e
      go_enter Tryz.func136, Tryz.ntmps136
      go_wp2
      go_ret
      exact ⟨rfl, Kp.new _ _⟩
    · have e : vldB r d 2 = false := decide_eq_false (by omega)
      rw [e]; clear e
      go_enter Tryz.func136, Tryz.ntmps136
      go_wp2
      go_ret
      exact ⟨rfl, Kp.new _ _⟩
  have e : vldB r d k = false := decide_eq_false (by omega)
  have g0 : (k == 0) = false := beq_eq_false_iff_ne.2 k0
  have g1 : (k == 1) = false := beq_eq_false_iff_ne.2 k1
  have g2 : (k == 2) = false := beq_eq_false_iff_ne.2 k2
  have g3 : (k == 3) = false := beq_eq_false_iff_ne.2 k3
  rw [e]; clear e k0 k1 k2 k3
  go_enter Tryz.func136, Tryz.ntmps136
  go_wp2
  go_ret
  exact ⟨rfl, Kp.new _ _⟩
set_option maxHeartbeats 1000000 in
theorem r_words (r d k : Int) (w : World) :
    Calls Tryz.prog 153 #[.agg #[.int .i64 r, .int .i64 d, .int .i64 k]] w fun e w' => e = .returned (.int .i64 (wordsI r d k)) ∧ Kp [] w w' := by
  have B0 := hid (Blk.new w 33 #[.int .i64 r, .int .i64 d, .int .i64 k])
  rcases hv : vldB r d k
  · have e : wordsI r d k = 0 := by simp [wordsI, hv]
    rw [e]; clear e
    have HV := hid hv
    clear hv
    go_enter Tryz.func153, Tryz.ntmps153
    go_wp2_with (go_at_call 136; refine (r_valid r d k _).mono ?_; rintro e w1 ⟨rfl, K1⟩; rw [HV.out]; have HK := hid K1; clear K1)
    go_ret
    exact ⟨rfl, (Kp.new _ _).chain HK.out⟩
  · obtain ⟨r, d, k, rfl, rfl, rfl, hr, hd, hk⟩ := vldB_nat hv
    have e : wordsI r d k = 2 + (r : Int) + (d : Int) + (2 + (r : Int) + (d : Int)) % 2 := by simp only [wordsI, hv, if_true, Int.toNat_natCast, wdN]; omega
    have HE := hid e
    clear e
    have HV := hid hv
    clear hv
    go_enter Tryz.func153, Tryz.ntmps153
    go_wp2_with (first | (go_at_call 136; refine (r_valid r d k _).mono ?_; rintro e w1 ⟨rfl, K1⟩; rw [HV.out]; have HK := hid K1; have B1 := B0.out.kp K1 (by simp); have q0 := B1.cell 0; have q1 := B1.cell 1; clear K1 B1))
    go_ret
    rw [HE.out]
    exact ⟨rfl, ((Kp.new _ _).chain HK.out)⟩
end Go.Proofs.YtkkmlllajfafcaaGreat
/-
  The contracts of package heap's refWord, dataWord, SetRef, SetData, Ref, Data. Conditions: those that stand in each theorem.
-/
namespace Go.Proofs.YtkkmlllajfafcaaGreat
set_option linter.unusedVariables false
set_option linter.unusedSimpArgs false
open Go.RowKit Go.Deep Go.Maps

def Ob.setF (o : Ob) (j : Nat) (v : Int) : Ob := { o with fs := o.fs.set j v }
theorem Ob.Ok.setF {o : Ob} (h : o.Ok) (j : Nat) (v : Int) : (o.setF j v).Ok := ⟨h.vld, by simpa [Ob.setF] using h.len, h.pos⟩
theorem setF_word {o : Ob} {j : Nat} {v : Int} (hj : j < o.fs.length) (i : Nat) : (o.setF j v).word i = if i = j + 2 then v else o.word i := by
  unfold Ob.word Ob.setF
  by_cases h0 : i = 0
  · subst h0; simp
  · by_cases h1 : i = 1
    · subst h1
      rw [if_neg (by omega), if_pos rfl, if_neg (by omega), if_neg (by omega), if_pos rfl]
      rfl
    · simp only [h0, h1, if_false]
      simp only [List.getD_eq_getElem?_getD, List.getElem?_set]
      by_cases h2 : i = j + 2
      · subst h2
        simp [hj]
      · rw [if_neg (by omega), if_neg h2]
section
variable {w w' : World} {b : HB} {r : RM} {m : HM} {q : Nat}
theorem Abs.setF (A : Abs r m) {w : World} {b : HB} (R : Raw w b r) {a : Nat} {o : Ob} (h : m.ob a = some o) {j : Nat} (hj : j < o.refs + o.data) (v : Int) : Abs { r with ws := r.ws.set (a + 2 + j) v } (m.add a (o.setF j v)) := by
  have I := A.inv
  have hok := I.ok _ _ h
  have J : (m.add a (o.setF j v)).Inv := I.put h (hok.setF j v) rfl rfl
  have hwl := A.wl R
  have hhi := I.hi h
  have hw := hok.wd_bd
  have hlen := hok.len
  refine ⟨J, A.bl, A.born, ?_, ?_, A.df, A.fs⟩
  · refine A.rep.put I h rfl (fun k => ?_) (fun i => ?_)
    · show (r.ws.set (a + 2 + j) v).getD k 0 = _
      by_cases hk : k = a + 2 + j
      · subst hk
        rw [if_pos (by omega), setF_word (by omega), if_pos (by omega), List.getD_eq_getElem?_getD, List.getElem?_set_self (by omega)]
        rfl
      · rw [List.getD_eq_getElem?_getD, List.getElem?_set_ne (by omega), ← List.getD_eq_getElem?_getD]
        by_cases hc : a ≤ k ∧ k < a + o.wd
        · rw [if_pos hc, setF_word (by omega), if_neg (by omega)]
          have := A.rep.w_ob _ _ h (k - a) (by omega)
          rw [show a + (k - a) = k by omega] at this
          exact this
        · rw [if_neg hc]
    · by_cases hi : i = a / 2
      · rw [if_pos hi, hi]
        have t := A.rep.n_ob a o h
        exact t
      · rw [if_neg hi]
  · rw [atI_put (o' := o.setF j v) I h rfl J]
    exact A.dp
/-- Why there is no such reference, no such data word. -/
def HM.refE (m : HM) (a i : Int) : Int := if m.has a then (match m.ob a.toNat with | some o => if inB o.refs i then 0 else 1 | none => 4) else 4
def HM.datE (m : HM) (a i : Int) : Int := if m.has a then (match m.ob a.toNat with | some o => if inB o.data i then 0 else 1 | none => 4) else 4
def HM.datOff (m : HM) (a : Int) : Nat := match m.ob a.toNat with | some o => o.refs | none => 0
def HM.refV (m : HM) (a i : Int) : Int := if m.refE a i = 0 then a + 2 + i else 0
def HM.datV (m : HM) (a i : Int) : Int := if m.datE a i = 0 then a + 2 + (m.datOff a : Int) + i else 0
theorem SH.shape_at (h : SH w b q m) {a : Nat} {o : Ob} (ho : m.ob a = some o) :
    Calls Tryz.prog 113 #[.pointer (some ⟨b.g, 0, none⟩), .int .i64 (a : Int)] w fun e w' => e = .returned (.agg #[.int .i64 (o.refs : Int), .int .i64 (o.data : Int), .int .i64 (o.kind : Int)]) ∧ Kp [] w w' := by
  obtain ⟨r, R, A, _⟩ := h
  have hok := A.inv.ok _ _ ho
  have hhi := A.inv.hi ho
  have hw := hok.wd_bd
  exact h_shape R a o.refs o.data o.kind (by rw [A.wl R]; omega) hok.bd.1 hok.bd.2.1 hok.bd.2.2 (A.w1 ho)
set_option maxRecDepth 100000 in
theorem fld0 (x y z : Value) (w : World) : Sem.run Tryz.prog (Instr.field 33 (.agg #[x, y, z]) 0) w = .ok x w := rfl
set_option maxRecDepth 100000 in
set_option maxHeartbeats 2000000 in
theorem h_refWord (h : SH w b q m) (a i : Int) (ha : W64 a) :
    Calls Tryz.prog 142 #[.pointer (some ⟨b.g, 0, none⟩), .int .i64 a, .int .i64 i] w fun e w' => e = .returned (.tuple #[.int .i64 (m.refV a i), .int .i64 (m.refE a i)]) ∧ Kp [] w w' := by
  have HA := hid ha
  rcases hb : m.has a
  · have e : m.lackE a = 4 := by simp [HM.lackE, hb]
    have e1 : m.refE a i = 4 := by simp [HM.refE, hb]
    have HE := hid e
    rw [show m.refV a i = 0 by simp [HM.refV, e1], e1]; clear e e1
    go_enter Tryz.func142, Tryz.ntmps142
    go_wp2_with (go_at_call 112; refine (h_check h _ HA.out).mono ?_; rintro e w' ⟨rfl, n1, rfl⟩; rw [HE.out])
    go_ret2
    exact ⟨rfl, Kp.draw _ _⟩
  · obtain ⟨k, o, rfl, ho⟩ := has_nat hb
    have e : m.lackE (k : Int) = 0 := by simp [HM.lackE, hb]
    have hok := h.inv.ok _ _ ho
    have hbd := hok.bd
    have hhi := h.inv.hi ho
    have hnb := h.inv.n_bd
    have HE := hid e
    have HO := hid ho
    by_cases hi : 0 ≤ i ∧ i < (o.refs : Int)
    · have e1 : m.refE (k : Int) i = 0 := by simp [HM.refE, hb, ho, show inB o.refs i = true from decide_eq_true hi]
      rw [show m.refV (k : Int) i = (k : Int) + 2 + i by simp [HM.refV, e1], e1]
      obtain ⟨j, rfl⟩ : ∃ j : Nat, i = (j : Int) := ⟨i.toNat, by omega⟩
      have hj : j < o.refs := by omega
      clear e e1 ho hi ha
      go_enter Tryz.func142, Tryz.ntmps142
      go_wp2_with (first | (go_at_call 112; refine (h_check h _ HA.out).mono ?_; rintro e w' ⟨rfl, n1, rfl⟩; rw [HE.out]) | (go_at_call 113; refine ((h.drewN _).shape_at HO.out).mono ?_; rintro e w2 ⟨rfl, K2⟩; have HK := hid K2.from_drewN; clear K2))
      rw [fld0]
      go_wp2
      go_ret2
      exact ⟨rfl, HK.out⟩
    · have e1 : m.refE (k : Int) i = 1 := by simp [HM.refE, hb, ho, show inB o.refs i = false from decide_eq_false hi]
      rw [show m.refV (k : Int) i = 0 by simp [HM.refV, e1], e1]
      by_cases hn : i < 0
      · clear e e1 ho hi ha
        go_enter Tryz.func142, Tryz.ntmps142
        go_wp2_with (first | (go_at_call 112; refine (h_check h _ HA.out).mono ?_; rintro e w' ⟨rfl, n1, rfl⟩; rw [HE.out]))
        go_ret2
        exact ⟨rfl, Kp.draw _ _⟩
      · have hge : (o.refs : Int) ≤ i := by omega
        clear e e1 ho hi ha
        go_enter Tryz.func142, Tryz.ntmps142
        go_wp2_with (first | (go_at_call 112; refine (h_check h _ HA.out).mono ?_; rintro e w' ⟨rfl, n1, rfl⟩; rw [HE.out]) | (go_at_call 113; refine ((h.drewN _).shape_at HO.out).mono ?_; rintro e w2 ⟨rfl, K2⟩; have HK := hid K2.from_drewN; clear K2))
        rw [fld0]
        go_wp2
        go_ret2
        exact ⟨rfl, HK.out⟩
set_option maxHeartbeats 1000000 in
theorem h_dataWord (h : SH w b q m) (a i : Int) (ha : W64 a) :
    Calls Tryz.prog 145 #[.pointer (some ⟨b.g, 0, none⟩), .int .i64 a, .int .i64 i] w fun e w' => e = .returned (.tuple #[.int .i64 (m.datV a i), .int .i64 (m.datE a i)]) ∧ Kp [] w w' := by
  have HA := hid ha
  rcases hb : m.has a
  · have e : m.lackE a = 4 := by simp [HM.lackE, hb]
    have e1 : m.datE a i = 4 := by simp [HM.datE, hb]
    have HE := hid e
    rw [show m.datV a i = 0 by simp [HM.datV, e1], e1]; clear e e1
    go_enter Tryz.func145, Tryz.ntmps145
    go_wp2_with (go_at_call 112; refine (h_check h _ HA.out).mono ?_; rintro e w' ⟨rfl, n1, rfl⟩; rw [HE.out])
    go_ret2
    exact ⟨rfl, Kp.draw _ _⟩
  · obtain ⟨k, o, rfl, ho⟩ := has_nat hb
    have e : m.lackE (k : Int) = 0 := by simp [HM.lackE, hb]
    have hok := h.inv.ok _ _ ho
    have hbd := hok.bd
    have hhi := h.inv.hi ho
    have hnb := h.inv.n_bd
    have HE := hid e
    have HO := hid ho
    have hoff : m.datOff (k : Int) = o.refs := by simp [HM.datOff, ho]
    have B0 : ∀ (W : World), Blk (W.alloc (.cells #[.int .i64 (o.refs : Int), .int .i64 (o.data : Int), .int .i64 (o.kind : Int)] 33)) W.heap.size 33 #[.int .i64 (o.refs : Int), .int .i64 (o.data : Int), .int .i64 (o.kind : Int)] := fun W => Blk.new W _ _
    by_cases hi : 0 ≤ i ∧ i < (o.data : Int)
    · have e1 : m.datE (k : Int) i = 0 := by simp [HM.datE, hb, ho, show inB o.data i = true from decide_eq_true hi]
      rw [show m.datV (k : Int) i = (k : Int) + 2 + (o.refs : Int) + i by simp [HM.datV, e1, hoff], e1]
      obtain ⟨j, rfl⟩ : ∃ j : Nat, i = (j : Int) := ⟨i.toNat, by omega⟩
      have hj : j < o.data := by omega
      clear e e1 ho hi ha B0 hoff
      go_enter Tryz.func145, Tryz.ntmps145
      go_wp2_with (first | (go_at_call 112; refine (h_check h _ HA.out).mono ?_; rintro e w' ⟨rfl, n1, rfl⟩; rw [HE.out]) | (go_at_call 113; refine ((h.drewN _).shape_at HO.out).mono ?_; rintro e w2 ⟨rfl, K2⟩; have HK := hid K2.from_drewN; clear K2))
      go_ret2
      exact ⟨rfl, HK.out.chain (Kp.new _ _)⟩
    · have e1 : m.datE (k : Int) i = 1 := by simp [HM.datE, hb, ho, show inB o.data i = false from decide_eq_false hi]
      rw [show m.datV (k : Int) i = 0 by simp [HM.datV, e1], e1]
      by_cases hn : i < 0
      · clear e e1 ho hi ha B0 hoff
        go_enter Tryz.func145, Tryz.ntmps145
        go_wp2_with (first | (go_at_call 112; refine (h_check h _ HA.out).mono ?_; rintro e w' ⟨rfl, n1, rfl⟩; rw [HE.out]) | (go_at_call 113; refine ((h.drewN _).shape_at HO.out).mono ?_; rintro e w2 ⟨rfl, K2⟩; have HK := hid K2.from_drewN; clear K2))
        go_ret2
        exact ⟨rfl, HK.out.chain (Kp.new _ _)⟩
      · have hge : (o.data : Int) ≤ i := by omega
        clear e e1 ho hi ha B0 hoff
        go_enter Tryz.func145, Tryz.ntmps145
        go_wp2_with (first | (go_at_call 112; refine (h_check h _ HA.out).mono ?_; rintro e w' ⟨rfl, n1, rfl⟩; rw [HE.out]) | (go_at_call 113; refine ((h.drewN _).shape_at HO.out).mono ?_; rintro e w2 ⟨rfl, K2⟩; have HK := hid K2.from_drewN; clear K2))
        go_ret2
        exact ⟨rfl, HK.out.chain (Kp.new _ _)⟩
end
end Go.Proofs.YtkkmlllajfafcaaGreat
/-
  The contracts of package heap's SetRef, SetData, Ref, Data, isField, Poke, Ident, Shape, Find. Conditions: those that stand in each theorem.
-/
namespace Go.Proofs.YtkkmlllajfafcaaGreat
set_option linter.unusedVariables false
set_option linter.unusedSimpArgs false
open Go.RowKit Go.Deep Go.Maps

def HM.setF (m : HM) (a j : Nat) (v : Int) : HM := match m.ob a with | some o => m.add a (o.setF j v) | none => m
def HM.setRefE (m : HM) (a i t : Int) : Int := if m.refE a i = 0 then (if t = 0 ∨ m.has t = true then 0 else 1) else m.refE a i
def HM.setRefM (m : HM) (a i t : Int) : HM := if m.setRefE a i t = 0 then m.setF a.toNat i.toNat t else m
def HM.setDatM (m : HM) (a i v : Int) : HM := if m.datE a i = 0 then m.setF a.toNat (m.datOff a + i.toNat) v else m
section
variable {w w' : World} {b : HB} {r : RM} {m : HM} {q : Nat}
theorem refE_zero {a i : Int} (h : m.refE a i = 0) : ∃ (k j : Nat) (o : Ob), a = (k : Int) ∧ i = (j : Int) ∧ m.ob k = some o ∧ j < o.refs ∧ m.refV a i = ((k + 2 + j : Nat) : Int) := by
  rcases hb : m.has a
  · simp [HM.refE, hb] at h
  · obtain ⟨k, o, rfl, ho⟩ := has_nat hb
    by_cases hi : 0 ≤ i ∧ i < (o.refs : Int)
    · obtain ⟨j, rfl⟩ : ∃ j : Nat, i = (j : Int) := ⟨i.toNat, by omega⟩
      exact ⟨k, j, o, rfl, rfl, ho, by omega, by simp only [HM.refV, h, if_true]; omega⟩
    · simp [HM.refE, hb, ho, show inB o.refs i = false from decide_eq_false hi] at h
theorem datE_zero {a i : Int} (h : m.datE a i = 0) : ∃ (k j : Nat) (o : Ob), a = (k : Int) ∧ i = (j : Int) ∧ m.ob k = some o ∧ j < o.data ∧ m.datV a i = ((k + 2 + (o.refs + j) : Nat) : Int) ∧ m.datOff a = o.refs := by
  rcases hb : m.has a
  · simp [HM.datE, hb] at h
  · obtain ⟨k, o, rfl, ho⟩ := has_nat hb
    by_cases hi : 0 ≤ i ∧ i < (o.data : Int)
    · obtain ⟨j, rfl⟩ : ∃ j : Nat, i = (j : Int) := ⟨i.toNat, by omega⟩
      have e : m.datOff (k : Int) = o.refs := by simp [HM.datOff, ho]
      exact ⟨k, j, o, rfl, rfl, ho, by omega, by simp only [HM.datV, h, if_true, e]; omega, e⟩
    · simp [HM.datE, hb, ho, show inB o.data i = false from decide_eq_false hi] at h
theorem SH.poke (h : SH w b q m) {a j : Nat} {o : Ob} (ho : m.ob a = some o) (hj : j < o.refs + o.data) (v : Int) {W : World} (k : Kp [] w W) :
    SH (W.setCell ⟨b.hw, a + 2 + j, none⟩ (.int .i64 v)) b q (m.setF a j v) ∧ Kp b.all w (W.setCell ⟨b.hw, a + 2 + j, none⟩ (.int .i64 v)) := by
  obtain ⟨r, R, A, hq1, hq2⟩ := h
  have hok := A.inv.ok _ _ ho
  have hhi := A.inv.hi ho
  have hw := hok.wd_bd
  have hwl := A.wl R
  have hlen := hok.len
  have K : Kp [b.hw] W (W.setCell ⟨b.hw, a + 2 + j, none⟩ (.int .i64 v)) := Kp.cell W ⟨b.hw, a + 2 + j, none⟩ (.int .i64 v)
  have hl : a + 2 + j < r.ws.length := by have := hok.wd_bd; rw [hwl]; unfold Ob.wd at hhi this; have := wdN_bd hok.bd.1 hok.bd.2.1; omega
  have B := (R.kp0 k).Bw.set_ (a + 2 + j) (.int .i64 v)
  rw [zcells_set hl] at B
  have e : m.setF a j v = m.add a (o.setF j v) := by simp [HM.setF, ho]
  rw [e]
  exact ⟨⟨_, (R.kp0 k).setW B (by simp) K, A.setF R ho hj v, hq1, hq2⟩, (k.chain0 K).all b (by simp [HB.all])⟩
theorem SH.wcell (h : SH w b q m) {a j : Nat} {o : Ob} (ho : m.ob a = some o) (hj : j < o.refs + o.data) {W : World} (k : Kp [] w W) :
    ∃ n c : Nat, W.cell? ⟨b.g, 1, none⟩ = some (.slice (some ⟨b.hw, 0, none⟩) n c) ∧ a + 2 + j < n ∧ n ≤ 4096 ∧ W.cell? ⟨b.hw, a + 2 + j, none⟩ = some (.int .i64 (o.fs.getD j 0)) ∧ a + 2 + j ≤ 4096 ∧ W.frozen? ⟨b.hw, a + 2 + j, none⟩ = false := by
  obtain ⟨r, R, A, hq1, hq2⟩ := h
  have hok := A.inv.ok _ _ ho
  have hhi := A.inv.hi ho
  have hwl := A.wl R
  have hlen := hok.len
  have hnb := A.inv.n_bd
  have hl : a + 2 + j < r.ws.length := by have := hok.wd_bd; rw [hwl]; omega
  refine ⟨r.ws.length, r.cw, (R.kp0 k).c1, hl, by omega, ?_, by omega, (R.kp0 k).Bw.frozen _⟩
  rw [(R.kp0 k).word hl]
  have := A.rep.w_ob _ _ ho (2 + j) (by have := hok.wd_bd; omega)
  rw [show a + (2 + j) = a + 2 + j by omega] at this
  rw [this]
  have e : o.word (2 + j) = o.fs.getD j 0 := by
    unfold Ob.word
    rw [if_neg (by omega), if_neg (by omega), show 2 + j - 2 = j by omega]
  rw [e]
set_option maxRecDepth 100000 in
set_option maxHeartbeats 2000000 in
theorem h_setRef (h : SH w b q m) (a i t : Int) (ha : W64 a) (ht : W64 t) :
    Calls Tryz.prog 69 #[.pointer (some ⟨b.g, 0, none⟩), .int .i64 a, .int .i64 i, .int .i64 t] w fun e w' => e = .returned (.int .i64 (m.setRefE a i t)) ∧ SH w' b q (m.setRefM a i t) ∧ Kp b.all w w' := by
  have HA := hid ha
  have HT := hid ht
  have HC := hid (h_refWord h a i ha)
  clear ha ht
  by_cases hz : m.refE a i = 0
  · obtain ⟨k, j, o, rfl, rfl, ho, hj, hv⟩ := refE_zero hz
    have HZ := hid hz
    have HV := hid hv
    by_cases h1 : t = 0 ∨ m.has t = true
    · have e1 : m.setRefE (k : Int) (j : Int) t = 0 := by unfold HM.setRefE; rw [if_pos hz, if_pos h1]
      have e2 : m.setRefM (k : Int) (j : Int) t = m.setF k j t := by unfold HM.setRefM; rw [if_pos e1, Int.toNat_natCast, Int.toNat_natCast]
      rw [e1, e2]
      have HP : Hid (∀ W, Kp [] w W → _) := fun W k => h.poke ho (j := j) (by omega) t k
      have HW : Hid (∀ W, Kp [] w W → _) := fun W k => h.wcell ho (j := j) (by omega) k
      generalize k + 2 + j = p at HV HP HW
      clear e1 e2 hz hv ho
      by_cases h0 : t = 0
      · subst h0
        clear h1
        go_enter Tryz.func69, Tryz.ntmps69
        go_wp2_with (go_at_call 142; refine HC.out.mono ?_; rintro e w2 ⟨rfl, K2⟩; rw [HV.out, HZ.out]; have HK := hid K2; clear K2; obtain ⟨n, c, c1, hpn, hn, c2, hp, c3⟩ := HW.out w2 HK.out)
        go_ret
        exact ⟨rfl, HP.out _ HK.out⟩
      · have h2 : m.has t = true := by rcases h1 with h1 | h1; exact absurd h1 h0; exact h1
        have H2 := hid h2
        have f0 : (t != 0) = true := bne_iff_ne.2 h0
        clear h1 h2 h0
        go_enter Tryz.func69, Tryz.ntmps69
        go_wp2_with (first | (go_at_call 142; refine HC.out.mono ?_; rintro e w2 ⟨rfl, K2⟩; rw [HV.out, HZ.out]; have HK := hid K2; clear K2; obtain ⟨n, c, c1, hpn, hn, c2, hp, c3⟩ := HW.out w2 HK.out) | (go_at_call 143; refine (h_has (h.kp0 HK.out) _ HT.out).mono ?_; rintro e w3 ⟨rfl, n3, rfl⟩; rw [H2.out]))
        go_ret
        exact ⟨rfl, HP.out _ (HK.out.drewN _)⟩
    · have e1 : m.setRefE (k : Int) (j : Int) t = 1 := by unfold HM.setRefE; rw [if_pos hz, if_neg h1]
      have e2 : m.setRefM (k : Int) (j : Int) t = m := by unfold HM.setRefM; rw [e1]; rfl
      rw [e1, e2]
      have h2 : m.has t = false := by rcases hb : m.has t; rfl; exact absurd (.inr hb) h1
      have h0 : t ≠ 0 := fun hc => h1 (.inl hc)
      have H2 := hid h2
      have f0 : (t != 0) = true := bne_iff_ne.2 h0
      clear h1 h2 h0 e1 e2 hz hv ho
      go_enter Tryz.func69, Tryz.ntmps69
      go_wp2_with (first | (go_at_call 142; refine HC.out.mono ?_; rintro e w2 ⟨rfl, K2⟩; rw [HZ.out]; have HK := hid K2; clear K2) | (go_at_call 143; refine (h_has (h.kp0 HK.out) _ HT.out).mono ?_; rintro e w3 ⟨rfl, n3, rfl⟩; rw [H2.out]))
      go_ret
      exact ⟨rfl, (h.kp0 HK.out).drewN _, (HK.out.drewN _).mono (by simp)⟩
  · have e1 : m.setRefE a i t = m.refE a i := by unfold HM.setRefE; rw [if_neg hz]
    have e2 : m.setRefM a i t = m := by unfold HM.setRefM; rw [if_neg (by rw [e1]; exact hz)]
    rw [e1, e2]
    have f1 : (m.refE a i != 0) = true := bne_iff_ne.2 hz
    clear hz e1 e2
    go_enter Tryz.func69, Tryz.ntmps69
    go_wp2_with (go_at_call 142; refine HC.out.mono ?_; rintro e w2 ⟨rfl, K2⟩; have HK := hid K2; clear K2)
    go_ret
    exact ⟨rfl, h.kp0 HK.out, HK.out.mono (by simp)⟩
set_option maxRecDepth 100000 in
set_option maxHeartbeats 2000000 in
theorem h_setData (h : SH w b q m) (a i v : Int) (ha : W64 a) :
    Calls Tryz.prog 71 #[.pointer (some ⟨b.g, 0, none⟩), .int .i64 a, .int .i64 i, .int .i64 v] w fun e w' => e = .returned (.int .i64 (m.datE a i)) ∧ SH w' b q (m.setDatM a i v) ∧ Kp b.all w w' := by
  have HC := hid (h_dataWord h a i ha)
  clear ha
  by_cases hz : m.datE a i = 0
  · obtain ⟨k, j, o, rfl, rfl, ho, hj, hv, hf⟩ := datE_zero hz
    have HZ := hid hz
    have HV := hid hv
    have e2 : m.setDatM (k : Int) (j : Int) v = m.setF k (o.refs + j) v := by unfold HM.setDatM; rw [if_pos hz, Int.toNat_natCast, Int.toNat_natCast, hf]
    rw [e2]
    have HP : Hid (∀ W, Kp [] w W → _) := fun W k => h.poke ho (j := o.refs + j) (by omega) v k
    have HW : Hid (∀ W, Kp [] w W → _) := fun W k => h.wcell ho (j := o.refs + j) (by omega) k
    generalize k + 2 + (o.refs + j) = p at HV HP HW
    clear e2 hz hv ho
    go_enter Tryz.func71, Tryz.ntmps71
    go_wp2_with (go_at_call 145; refine HC.out.mono ?_; rintro e w2 ⟨rfl, K2⟩; rw [HV.out, HZ.out]; have HK := hid K2; clear K2; obtain ⟨n, c, c1, hpn, hn, c2, hp, c3⟩ := HW.out w2 HK.out)
    go_ret
    rw [HZ.out]
    exact ⟨rfl, HP.out _ HK.out⟩
  · have e2 : m.setDatM a i v = m := by unfold HM.setDatM; rw [if_neg hz]
    rw [e2]
    have f1 : (m.datE a i != 0) = true := bne_iff_ne.2 hz
    clear hz e2
    go_enter Tryz.func71, Tryz.ntmps71
    go_wp2_with (go_at_call 145; refine HC.out.mono ?_; rintro e w2 ⟨rfl, K2⟩; have HK := hid K2; clear K2)
    go_ret
    exact ⟨rfl, h.kp0 HK.out, HK.out.mono (by simp)⟩
/-- A reference, a data word. -/
def HM.fget (m : HM) (a j : Nat) : Int := match m.ob a with | some o => o.fs.getD j 0 | none => 0
def HM.refG (m : HM) (a i : Int) : Int := if m.refE a i = 0 then m.fget a.toNat i.toNat else 0
def HM.datG (m : HM) (a i : Int) : Int := if m.datE a i = 0 then m.fget a.toNat (m.datOff a + i.toNat) else 0
set_option maxRecDepth 100000 in
set_option maxHeartbeats 2000000 in
theorem h_ref (h : SH w b q m) (a i : Int) (ha : W64 a) :
    Calls Tryz.prog 161 #[.pointer (some ⟨b.g, 0, none⟩), .int .i64 a, .int .i64 i] w fun e w' => e = .returned (.tuple #[.int .i64 (m.refG a i), .int .i64 (m.refE a i)]) ∧ Kp [] w w' := by
  have HC := hid (h_refWord h a i ha)
  clear ha
  by_cases hz : m.refE a i = 0
  · obtain ⟨k, j, o, rfl, rfl, ho, hj, hv⟩ := refE_zero hz
    have HZ := hid hz
    have HV := hid hv
    have e2 : m.refG (k : Int) (j : Int) = o.fs.getD j 0 := by unfold HM.refG; rw [if_pos hz, Int.toNat_natCast, Int.toNat_natCast]; simp only [HM.fget, ho]
    rw [e2]
    have HW : Hid (∀ W, Kp [] w W → _) := fun W k => h.wcell ho (j := j) (by omega) k
    generalize k + 2 + j = p at HV HW
    generalize o.fs.getD j 0 = y at HW ⊢
    clear e2 hz hv ho
    go_enter Tryz.func161, Tryz.ntmps161
    go_wp2_with (go_at_call 142; refine HC.out.mono ?_; rintro e w2 ⟨rfl, K2⟩; rw [HV.out, HZ.out]; have HK := hid K2; clear K2; obtain ⟨n, c, c1, hpn, hn, c2, hp, c3⟩ := HW.out w2 HK.out)
    go_ret2
    rw [HZ.out]
    exact ⟨rfl, HK.out⟩
  · have e2 : m.refG a i = 0 := by unfold HM.refG; rw [if_neg hz]
    rw [e2]
    have f1 : (m.refE a i != 0) = true := bne_iff_ne.2 hz
    clear hz e2
    go_enter Tryz.func161, Tryz.ntmps161
    go_wp2_with (go_at_call 142; refine HC.out.mono ?_; rintro e w2 ⟨rfl, K2⟩; have HK := hid K2; clear K2)
    go_ret2
    exact ⟨rfl, HK.out⟩
set_option maxRecDepth 100000 in
set_option maxHeartbeats 2000000 in
theorem h_data (h : SH w b q m) (a i : Int) (ha : W64 a) :
    Calls Tryz.prog 163 #[.pointer (some ⟨b.g, 0, none⟩), .int .i64 a, .int .i64 i] w fun e w' => e = .returned (.tuple #[.int .i64 (m.datG a i), .int .i64 (m.datE a i)]) ∧ Kp [] w w' := by
  have HC := hid (h_dataWord h a i ha)
  clear ha
  by_cases hz : m.datE a i = 0
  · obtain ⟨k, j, o, rfl, rfl, ho, hj, hv, hf⟩ := datE_zero hz
    have HZ := hid hz
    have HV := hid hv
    have e2 : m.datG (k : Int) (j : Int) = o.fs.getD (o.refs + j) 0 := by unfold HM.datG; rw [if_pos hz, Int.toNat_natCast, Int.toNat_natCast, hf]; simp only [HM.fget, ho]
    rw [e2]
    have HW : Hid (∀ W, Kp [] w W → _) := fun W k => h.wcell ho (j := o.refs + j) (by omega) k
    generalize k + 2 + (o.refs + j) = p at HV HW
    generalize o.fs.getD (o.refs + j) 0 = y at HW ⊢
    clear e2 hz hv ho
    go_enter Tryz.func163, Tryz.ntmps163
    go_wp2_with (go_at_call 145; refine HC.out.mono ?_; rintro e w2 ⟨rfl, K2⟩; rw [HV.out, HZ.out]; have HK := hid K2; clear K2; obtain ⟨n, c, c1, hpn, hn, c2, hp, c3⟩ := HW.out w2 HK.out)
    go_ret2
    rw [HZ.out]
    exact ⟨rfl, HK.out⟩
  · have e2 : m.datG a i = 0 := by unfold HM.datG; rw [if_neg hz]
    rw [e2]
    have f1 : (m.datE a i != 0) = true := bne_iff_ne.2 hz
    clear hz e2
    go_enter Tryz.func163, Tryz.ntmps163
    go_wp2_with (go_at_call 145; refine HC.out.mono ?_; rintro e w2 ⟨rfl, K2⟩; have HK := hid K2; clear K2)
    go_ret2
    exact ⟨rfl, HK.out⟩
end
end Go.Proofs.YtkkmlllajfafcaaGreat
/-
  The contracts of package heap's isField, Poke, Ident, Shape, Find, Births, Blocks. Conditions: those that stand in each theorem.
-/
namespace Go.Proofs.YtkkmlllajfafcaaGreat
set_option linter.unusedVariables false
set_option linter.unusedSimpArgs false
open Go.RowKit Go.Deep Go.Maps

/-- Is a word a reference or a data word. -/
def HM.fieldB (m : HM) (a : Int) : Bool := match m.ob (m.ownI a) with | some o => decide ((m.ownI a : Int) + 2 ≤ a ∧ a < (m.ownI a : Int) + 2 + ((o.refs : Int) + (o.data : Int))) | none => false
def HM.pokeE (m : HM) (a : Int) : Int := if inB m.n a then (if m.fieldB a then 0 else 4) else 1
def HM.pokeM (m : HM) (a v : Int) : HM := if m.pokeE a = 0 then m.setF (m.ownI a) (a.toNat - m.ownI a - 2) v else m
section
variable {w w' : World} {b : HB} {r : RM} {m : HM} {q : Nat}
theorem ownI_cases (I : m.Inv) (a : Int) : (∃ (k t : Nat) (o : Ob), a = (k : Int) ∧ m.ob t = some o ∧ t ≤ k ∧ k < t + o.wd ∧ m.ownI a = t ∧ 64 ≤ t) ∨ (m.ownI a = 0 ∧ m.ob 0 = none) := by
  have h0 : m.ob 0 = none := by
    rcases h : m.ob 0 with _ | o
    · rfl
    · have := I.lo h; omega
  by_cases hn : 0 ≤ a
  · obtain ⟨k, rfl⟩ : ∃ k : Nat, a = (k : Int) := ⟨a.toNat, by omega⟩
    rcases own_cases I k with ⟨t, o, h1, h2, h3, h4⟩ | ⟨_, h4⟩
    · exact .inl ⟨k, t, o, rfl, h1, h2, h3, by simpa [HM.ownI] using h4, I.lo h1⟩
    · exact .inr ⟨by simpa [HM.ownI] using h4, h0⟩
  · exact .inr ⟨by simp [HM.ownI, hn], h0⟩
set_option maxRecDepth 100000 in
set_option maxHeartbeats 2000000 in
theorem h_isField (h : SH w b q m) (a : Int) (ha : W64 a) :
    Calls Tryz.prog 146 #[.pointer (some ⟨b.g, 0, none⟩), .int .i64 a] w fun e w' => e = .returned (.bool (m.fieldB a)) ∧ Kp [] w w' := by
  have HC := hid (h_owner h a ha)
  clear ha
  rcases ownI_cases h.inv a with ⟨k, t, o, rfl, ho, h1, h2, h3, h4⟩ | ⟨h3, h4⟩
  · have hok := h.inv.ok _ _ ho
    have hhi := h.inv.hi ho
    have hnb := h.inv.n_bd
    have hbd := hok.bd
    have hwd := hok.wd_bd
    have e : m.fieldB (k : Int) = decide ((t : Int) + 2 ≤ (k : Int) ∧ (k : Int) < (t : Int) + 2 + ((o.refs : Int) + (o.data : Int))) := by unfold HM.fieldB; rw [h3, ho]
    rw [e]
    have HT := hid h3
    have HO := hid ho
    have e0 : ((t : Int) == 0) = false := beq_eq_false_iff_ne.2 (by omega)
    have hk : (k : Int) ≤ 4096 := by omega
    have ht : (t : Int) ≤ 4096 := by omega
    by_cases c1 : (0 : Int) ≤ (k : Int) - (t : Int) - 2
    · by_cases c2 : (k : Int) - (t : Int) - 2 < (o.refs : Int) + (o.data : Int)
      · rw [decide_eq_true (by omega)]
        clear e h3 ho
        go_enter Tryz.func146, Tryz.ntmps146
        go_wp2_with (first | (go_at_call 175; refine HC.out.mono ?_; rintro e w' ⟨rfl, n1, rfl⟩; rw [HT.out]) | (go_at_call 113; refine ((h.drewN _).shape_at HO.out).mono ?_; rintro e w2 ⟨rfl, K2⟩; have HK := hid K2.from_drewN; clear K2))
        go_ret
        exact ⟨rfl, HK.out.chain (Kp.new _ _)⟩
      · rw [decide_eq_false (by omega)]
        have c3 : (o.refs : Int) + (o.data : Int) ≤ (k : Int) - (t : Int) - 2 := by omega
        have HC2 := hid c2
        clear e h3 ho c2
        go_enter Tryz.func146, Tryz.ntmps146
        go_wp2_with (first | (go_at_call 175; refine HC.out.mono ?_; rintro e w' ⟨rfl, n1, rfl⟩; rw [HT.out]) | (go_at_call 113; refine ((h.drewN _).shape_at HO.out).mono ?_; rintro e w2 ⟨rfl, K2⟩; have HK := hid K2.from_drewN; clear K2))
        go_ret
        rw [decide_eq_false (Int.not_lt.2 HC2.out)]
        exact ⟨rfl, HK.out.chain (Kp.new _ _)⟩
    · rw [decide_eq_false (by omega)]
      have c3 : decide ((0 : Int) ≤ (k : Int) - (t : Int) - 2) = false := decide_eq_false c1
      have c4 : (k : Int) - (t : Int) - 2 < 0 := by omega
      clear e h3 ho
      go_enter Tryz.func146, Tryz.ntmps146
      go_wp2_with (first | (go_at_call 175; refine HC.out.mono ?_; rintro e w' ⟨rfl, n1, rfl⟩; rw [HT.out]) | (go_at_call 113; refine ((h.drewN _).shape_at HO.out).mono ?_; rintro e w2 ⟨rfl, K2⟩; have HK := hid K2.from_drewN; clear K2))
      go_ret
      exact ⟨rfl, HK.out.chain (Kp.new _ _)⟩
  · have e : m.fieldB a = false := by unfold HM.fieldB; rw [h3, h4]
    rw [e]
    have HT := hid h3
    clear e h3 h4
    go_enter Tryz.func146, Tryz.ntmps146
    go_wp2_with (first | (go_at_call 175; refine HC.out.mono ?_; rintro e w' ⟨rfl, n1, rfl⟩; rw [HT.out]))
    go_ret
    exact ⟨rfl, Kp.draw _ _⟩
theorem SH.hasWord (h : SH w b q m) (a : Int) {W : World} (k : Kp [] w W) : Calls Tryz.prog 122 #[.pointer (some ⟨b.g, 0, none⟩), .int .i64 a] W fun e w' => e = .returned (.bool (inB m.n a)) ∧ ∃ n, w' = W.drewN n := by
  obtain ⟨r, R, A, _⟩ := h
  have := h_hasWord (R.kp0 k) a
  rw [A.wl R] at this
  exact this
theorem poke_field {a : Int} (I : m.Inv) (h : m.fieldB a = true) : ∃ (k t j : Nat) (o : Ob), a = (k : Int) ∧ m.ob t = some o ∧ m.ownI a = t ∧ k = t + 2 + j ∧ j < o.refs + o.data := by
  rcases ownI_cases I a with ⟨k, t, o, rfl, ho, h1, h2, h3, h4⟩ | ⟨h3, h4⟩
  · unfold HM.fieldB at h
    rw [h3, ho] at h
    have := of_decide_eq_true h
    exact ⟨k, t, k - t - 2, o, rfl, ho, h3, by omega, by omega⟩
  · unfold HM.fieldB at h
    rw [h3, h4] at h
    cases h
set_option maxRecDepth 100000 in
set_option maxHeartbeats 2000000 in
theorem h_poke (h : SH w b q m) (a v : Int) (ha : W64 a) :
    Calls Tryz.prog 73 #[.pointer (some ⟨b.g, 0, none⟩), .int .i64 a, .int .i64 v] w fun e w' => e = .returned (.int .i64 (m.pokeE a)) ∧ SH w' b q (m.pokeM a v) ∧ Kp b.all w w' := by
  have HA := hid ha
  rcases hin : inB m.n a
  · have e0 : m.pokeE a = 1 := by simp [HM.pokeE, hin]
    have e1 : m.pokeM a v = m := by simp [HM.pokeM, e0]
    rw [e0, e1]
    have HI := hid hin
    clear hin e0 e1 ha
    go_enter Tryz.func73, Tryz.ntmps73
    go_wp2_with (first | (go_at_call 55; refine h.made.mono ?_; rintro e w' ⟨rfl, n1, rfl⟩) | (go_at_call 122; refine (h.hasWord _ (Kp.draw _ _)).mono ?_; rintro e w' ⟨rfl, n2, rfl⟩; rw [HI.out]))
    go_ret
    exact ⟨rfl, h.drewN _, (Kp.draw w _).mono (by simp)⟩
  · have HI := hid hin
    rcases hf : m.fieldB a
    · have e0 : m.pokeE a = 4 := by simp [HM.pokeE, hin, hf]
      have e1 : m.pokeM a v = m := by simp [HM.pokeM, e0]
      rw [e0, e1]
      have HF := hid hf
      clear hin e0 e1 ha hf
      go_enter Tryz.func73, Tryz.ntmps73
      go_wp2_with (first | (go_at_call 55; refine h.made.mono ?_; rintro e w' ⟨rfl, n1, rfl⟩) | (go_at_call 122; refine (h.hasWord _ (Kp.draw _ _)).mono ?_; rintro e w' ⟨rfl, n2, rfl⟩; rw [HI.out]) | (go_at_call 146; refine (h_isField (h.drewN _) _ HA.out).mono ?_; rintro e w3 ⟨rfl, K3⟩; rw [HF.out]; have HK := hid K3.from_drewN; clear K3))
      go_ret
      exact ⟨rfl, h.kp0 HK.out, HK.out.mono (by simp)⟩
    · have e0 : m.pokeE a = 0 := by simp [HM.pokeE, hin, hf]
      obtain ⟨k, t, j, o, rfl, ho, h3, h5, hj⟩ := poke_field h.inv hf
      have e1 : m.pokeM (k : Int) v = m.setF t j v := by unfold HM.pokeM; rw [if_pos e0, h3, Int.toNat_natCast, show k - t - 2 = j by omega]
      rw [e0, e1]
      have HF := hid hf
      have HP : Hid (∀ W, Kp [] w W → _) := fun W k => h.poke ho (j := j) hj v k
      have HW : Hid (∀ W, Kp [] w W → _) := fun W k => h.wcell ho (j := j) hj k
      rw [← h5] at HP HW
      clear hin e0 e1 ha hf h5 h3 ho hj
      go_enter Tryz.func73, Tryz.ntmps73
      go_wp2_with (first | (go_at_call 55; refine h.made.mono ?_; rintro e w' ⟨rfl, n1, rfl⟩) | (go_at_call 122; refine (h.hasWord _ (Kp.draw _ _)).mono ?_; rintro e w' ⟨rfl, n2, rfl⟩; rw [HI.out]) | (go_at_call 146; refine (h_isField (h.drewN _) _ HA.out).mono ?_; rintro e w3 ⟨rfl, K3⟩; rw [HF.out]; have HK := hid K3.from_drewN; clear K3; obtain ⟨n, c, c1, hpn, hn, c2, hp, c3⟩ := HW.out w3 HK.out))
      go_ret
      exact ⟨rfl, HP.out _ HK.out⟩
def HM.findE (m : HM) (a : Int) : Int := if m.ownI a = 0 then 4 else 0
theorem h_find (h : SH w b q m) (a : Int) (ha : W64 a) :
    Calls Tryz.prog 157 #[.pointer (some ⟨b.g, 0, none⟩), .int .i64 a] w fun e w' => e = .returned (.tuple #[.int .i64 ((m.ownI a : Nat) : Int), .int .i64 (m.findE a)]) ∧ ∃ n, w' = w.drewN n := by
  have HC : Hid (∀ n, _) := fun n => h_owner (h.drewN n) a ha
  clear ha
  by_cases hz : m.ownI a = 0
  · have e : m.findE a = 4 := by simp [HM.findE, hz]
    rw [e, hz]
    have HZ := hid hz
    clear e hz
    go_enter Tryz.func157, Tryz.ntmps157
    go_wp2_with (first | (go_at_call 55; refine h.made.mono ?_; rintro e w' ⟨rfl, n1, rfl⟩) | (go_at_call 175; refine (HC.out _).mono ?_; rintro e w' ⟨rfl, n2, rfl⟩; rw [HZ.out]))
    go_ret2
    exact ⟨rfl, _, rfl⟩
  · have e : m.findE a = 0 := by simp [HM.findE, hz]
    rw [e]
    generalize m.ownI a = x at hz HC ⊢
    have e0 : ((x : Int) == 0) = false := beq_eq_false_iff_ne.2 (by omega)
    clear e hz
    go_enter Tryz.func157, Tryz.ntmps157
    go_wp2_with (first | (go_at_call 55; refine h.made.mono ?_; rintro e w' ⟨rfl, n1, rfl⟩) | (go_at_call 175; refine (HC.out _).mono ?_; rintro e w' ⟨rfl, n2, rfl⟩))
    go_ret2
    exact ⟨rfl, _, rfl⟩
theorem h_births (h : SH w b q m) :
    Calls Tryz.prog 30 #[.pointer (some ⟨b.g, 0, none⟩)] w fun e w' => e = .returned (.int .i64 (m.born : Int)) ∧ ∃ n, w' = w.drewN n := by
  have h0 := h
  obtain ⟨r, R, A, _⟩ := h
  have hc := R.c6
  rw [A.born] at hc
  go_enter Tryz.func30, Tryz.ntmps30
  go_wp2_with (first | (go_at_call 55; refine h0.made.mono ?_; rintro e w' ⟨rfl, n1, rfl⟩))
  go_ret
  exact ⟨rfl, _, rfl⟩
theorem h_blocks (h : SH w b q m) :
    Calls Tryz.prog 40 #[.pointer (some ⟨b.g, 0, none⟩)] w fun e w' => e = .returned (.int .i64 (m.bl.length : Int)) ∧ ∃ n, w' = w.drewN n := by
  have h0 := h
  obtain ⟨r, R, A, _⟩ := h
  have hc := R.c0
  rw [A.bl] at hc
  go_enter Tryz.func40, Tryz.ntmps40
  go_wp2_with (first | (go_at_call 55; refine h0.made.mono ?_; rintro e w' ⟨rfl, n1, rfl⟩))
  go_ret
  exact ⟨rfl, _, rfl⟩
end
end Go.Proofs.YtkkmlllajfafcaaGreat
