/-
  The contracts of package heap's refWord, dataWord, SetRef, SetData, Ref, Data. Conditions: those that stand in each theorem.
-/
import Derived.Test.YtplgbpmldjngoaaHv
namespace Go.Proofs.Ytplgbpmldjngoaa
set_option linter.unusedVariables false
set_option linter.unusedSimpArgs false
open Go.RowKit Go.Deep Go.Maps

def Ob.setF (o : Ob) (j : Nat) (v : Int) : Ob := { o with fs := o.fs.set j v }
theorem Ob.Ok.setF {o : Ob} (h : o.Ok) (j : Nat) (v : Int) : (o.setF j v).Ok := ⟨h.vld, by simpa [Ob.setF] using h.len, h.pos⟩
theorem setF_word {o : Ob} {j : Nat} {v : Int} (hj : j < o.fs.length) (i : Nat) : (o.setF j v).word i = if i = j + 2 then v else o.word i := by
  unfold Ob.word Ob.setF
  by_cases h0 : i = 0
  · subst h0; simp
  · by_cases h1 : i = 1
    · subst h1
      rw [if_neg (by omega), if_pos rfl, if_neg (by omega), if_neg (by omega), if_pos rfl]
      rfl
    · simp only [h0, h1, if_false]
      simp only [List.getD_eq_getElem?_getD, List.getElem?_set]
      by_cases h2 : i = j + 2
      · subst h2
        simp [hj]
      · rw [if_neg (by omega), if_neg h2]
section
variable {w w' : World} {b : HB} {r : RM} {m : HM} {q : Nat}
theorem Abs.setF (A : Abs r m) {w : World} {b : HB} (R : Raw w b r) {a : Nat} {o : Ob} (h : m.ob a = some o) {j : Nat} (hj : j < o.refs + o.data) (v : Int) : Abs { r with ws := r.ws.set (a + 2 + j) v } (m.add a (o.setF j v)) := by
  have I := A.inv
  have hok := I.ok _ _ h
  have J : (m.add a (o.setF j v)).Inv := I.put h (hok.setF j v) rfl rfl
  have hwl := A.wl R
  have hhi := I.hi h
  have hw := hok.wd_bd
  have hlen := hok.len
  refine ⟨J, A.bl, A.born, ?_, ?_, A.df, A.fs⟩
  · refine A.rep.put I h rfl (fun k => ?_) (fun i => ?_)
    · show (r.ws.set (a + 2 + j) v).getD k 0 = _
      by_cases hk : k = a + 2 + j
      · subst hk
        rw [if_pos (by omega), setF_word (by omega), if_pos (by omega), List.getD_eq_getElem?_getD, List.getElem?_set_self (by omega)]
        rfl
      · rw [List.getD_eq_getElem?_getD, List.getElem?_set_ne (by omega), ← List.getD_eq_getElem?_getD]
        by_cases hc : a ≤ k ∧ k < a + o.wd
        · rw [if_pos hc, setF_word (by omega), if_neg (by omega)]
          have := A.rep.w_ob _ _ h (k - a) (by omega)
          rw [show a + (k - a) = k by omega] at this
          exact this
        · rw [if_neg hc]
    · by_cases hi : i = a / 2
      · rw [if_pos hi, hi]
        have t := A.rep.n_ob a o h
        exact t
      · rw [if_neg hi]
  · rw [atI_put (o' := o.setF j v) I h rfl J]
    exact A.dp
/-- Why there is no such reference, no such data word. -/
def HM.refE (m : HM) (a i : Int) : Int := if m.has a then (match m.ob a.toNat with | some o => if inB o.refs i then 0 else 1 | none => 4) else 4
def HM.datE (m : HM) (a i : Int) : Int := if m.has a then (match m.ob a.toNat with | some o => if inB o.data i then 0 else 1 | none => 4) else 4
def HM.datOff (m : HM) (a : Int) : Nat := match m.ob a.toNat with | some o => o.refs | none => 0
def HM.refV (m : HM) (a i : Int) : Int := if m.refE a i = 0 then a + 2 + i else 0
def HM.datV (m : HM) (a i : Int) : Int := if m.datE a i = 0 then a + 2 + (m.datOff a : Int) + i else 0
theorem SH.shape_at (h : SH w b q m) {a : Nat} {o : Ob} (ho : m.ob a = some o) :
    Calls Try.prog 81 #[.pointer (some ⟨b.g, 0, none⟩), .int .i64 (a : Int)] w fun e w' => e = .returned (.agg #[.int .i64 (o.refs : Int), .int .i64 (o.data : Int), .int .i64 (o.kind : Int)]) ∧ Kp [] w w' := by
  obtain ⟨r, R, A, _⟩ := h
  have hok := A.inv.ok _ _ ho
  have hhi := A.inv.hi ho
  have hw := hok.wd_bd
  exact h_shape R a o.refs o.data o.kind (by rw [A.wl R]; omega) hok.bd.1 hok.bd.2.1 hok.bd.2.2 (A.w1 ho)
set_option maxRecDepth 100000 in
theorem fld0 (x y z : Value) (w : World) : Sem.run Try.prog (Instr.field 46 (.agg #[x, y, z]) 0) w = .ok x w := rfl
set_option maxRecDepth 100000 in
set_option maxHeartbeats 2000000 in
theorem h_refWord (h : SH w b q m) (a i : Int) (ha : W64 a) :
    Calls Try.prog 125 #[.pointer (some ⟨b.g, 0, none⟩), .int .i64 a, .int .i64 i] w fun e w' => e = .returned (.tuple #[.int .i64 (m.refV a i), .int .i64 (m.refE a i)]) ∧ Kp [] w w' := by
  have HA := hid ha
  rcases hb : m.has a
  · have e : m.lackE a = 4 := by simp [HM.lackE, hb]
    have e1 : m.refE a i = 4 := by simp [HM.refE, hb]
    have HE := hid e
    rw [show m.refV a i = 0 by simp [HM.refV, e1], e1]; clear e e1
    go_enter Try.func125, Try.ntmps125
    go_wp2_with (go_at_call 74; refine (h_check h _ HA.out).mono ?_; rintro e w' ⟨rfl, n1, rfl⟩; rw [HE.out])
    go_ret2
    exact ⟨rfl, Kp.draw _ _⟩
  · obtain ⟨k, o, rfl, ho⟩ := has_nat hb
    have e : m.lackE (k : Int) = 0 := by simp [HM.lackE, hb]
    have hok := h.inv.ok _ _ ho
    have hbd := hok.bd
    have hhi := h.inv.hi ho
    have hnb := h.inv.n_bd
    have HE := hid e
    have HO := hid ho
    by_cases hi : 0 ≤ i ∧ i < (o.refs : Int)
    · have e1 : m.refE (k : Int) i = 0 := by simp [HM.refE, hb, ho, show inB o.refs i = true from decide_eq_true hi]
      rw [show m.refV (k : Int) i = (k : Int) + 2 + i by simp [HM.refV, e1], e1]
      obtain ⟨j, rfl⟩ : ∃ j : Nat, i = (j : Int) := ⟨i.toNat, by omega⟩
      have hj : j < o.refs := by omega
      clear e e1 ho hi ha
      go_enter Try.func125, Try.ntmps125
      go_wp2_with (first | (go_at_call 74; refine (h_check h _ HA.out).mono ?_; rintro e w' ⟨rfl, n1, rfl⟩; rw [HE.out]) | (go_at_call 81; refine ((h.drewN _).shape_at HO.out).mono ?_; rintro e w2 ⟨rfl, K2⟩; have HK := hid K2.from_drewN; clear K2))
      rw [fld0]
      go_wp2
      go_ret2
      exact ⟨rfl, HK.out⟩
    · have e1 : m.refE (k : Int) i = 1 := by simp [HM.refE, hb, ho, show inB o.refs i = false from decide_eq_false hi]
      rw [show m.refV (k : Int) i = 0 by simp [HM.refV, e1], e1]
      by_cases hn : i < 0
      · clear e e1 ho hi ha
        go_enter Try.func125, Try.ntmps125
        go_wp2_with (first | (go_at_call 74; refine (h_check h _ HA.out).mono ?_; rintro e w' ⟨rfl, n1, rfl⟩; rw [HE.out]))
        go_ret2
        exact ⟨rfl, Kp.draw _ _⟩
      · have hge : (o.refs : Int) ≤ i := by omega
        clear e e1 ho hi ha
        go_enter Try.func125, Try.ntmps125
        go_wp2_with (first | (go_at_call 74; refine (h_check h _ HA.out).mono ?_; rintro e w' ⟨rfl, n1, rfl⟩; rw [HE.out]) | (go_at_call 81; refine ((h.drewN _).shape_at HO.out).mono ?_; rintro e w2 ⟨rfl, K2⟩; have HK := hid K2.from_drewN; clear K2))
        rw [fld0]
        go_wp2
        go_ret2
        exact ⟨rfl, HK.out⟩
set_option maxHeartbeats 1000000 in
theorem h_dataWord (h : SH w b q m) (a i : Int) (ha : W64 a) :
    Calls Try.prog 126 #[.pointer (some ⟨b.g, 0, none⟩), .int .i64 a, .int .i64 i] w fun e w' => e = .returned (.tuple #[.int .i64 (m.datV a i), .int .i64 (m.datE a i)]) ∧ Kp [] w w' := by
  have HA := hid ha
  rcases hb : m.has a
  · have e : m.lackE a = 4 := by simp [HM.lackE, hb]
    have e1 : m.datE a i = 4 := by simp [HM.datE, hb]
    have HE := hid e
    rw [show m.datV a i = 0 by simp [HM.datV, e1], e1]; clear e e1
    go_enter Try.func126, Try.ntmps126
    go_wp2_with (go_at_call 74; refine (h_check h _ HA.out).mono ?_; rintro e w' ⟨rfl, n1, rfl⟩; rw [HE.out])
    go_ret2
    exact ⟨rfl, Kp.draw _ _⟩
  · obtain ⟨k, o, rfl, ho⟩ := has_nat hb
    have e : m.lackE (k : Int) = 0 := by simp [HM.lackE, hb]
    have hok := h.inv.ok _ _ ho
    have hbd := hok.bd
    have hhi := h.inv.hi ho
    have hnb := h.inv.n_bd
    have HE := hid e
    have HO := hid ho
    have hoff : m.datOff (k : Int) = o.refs := by simp [HM.datOff, ho]
    have B0 : ∀ (W : World), Blk (W.alloc (.cells #[.int .i64 (o.refs : Int), .int .i64 (o.data : Int), .int .i64 (o.kind : Int)] 46)) W.heap.size 46 #[.int .i64 (o.refs : Int), .int .i64 (o.data : Int), .int .i64 (o.kind : Int)] := fun W => Blk.new W _ _
    by_cases hi : 0 ≤ i ∧ i < (o.data : Int)
    · have e1 : m.datE (k : Int) i = 0 := by simp [HM.datE, hb, ho, show inB o.data i = true from decide_eq_true hi]
      rw [show m.datV (k : Int) i = (k : Int) + 2 + (o.refs : Int) + i by simp [HM.datV, e1, hoff], e1]
      obtain ⟨j, rfl⟩ : ∃ j : Nat, i = (j : Int) := ⟨i.toNat, by omega⟩
      have hj : j < o.data := by omega
      clear e e1 ho hi ha B0 hoff
      go_enter Try.func126, Try.ntmps126
      go_wp2_with (first | (go_at_call 74; refine (h_check h _ HA.out).mono ?_; rintro e w' ⟨rfl, n1, rfl⟩; rw [HE.out]) | (go_at_call 81; refine ((h.drewN _).shape_at HO.out).mono ?_; rintro e w2 ⟨rfl, K2⟩; have HK := hid K2.from_drewN; clear K2))
      go_ret2
      exact ⟨rfl, HK.out.chain (Kp.new _ _)⟩
    · have e1 : m.datE (k : Int) i = 1 := by simp [HM.datE, hb, ho, show inB o.data i = false from decide_eq_false hi]
      rw [show m.datV (k : Int) i = 0 by simp [HM.datV, e1], e1]
      by_cases hn : i < 0
      · clear e e1 ho hi ha B0 hoff
        go_enter Try.func126, Try.ntmps126
        go_wp2_with (first | (go_at_call 74; refine (h_check h _ HA.out).mono ?_; rintro e w' ⟨rfl, n1, rfl⟩; rw [HE.out]) | (go_at_call 81; refine ((h.drewN _).shape_at HO.out).mono ?_; rintro e w2 ⟨rfl, K2⟩; have HK := hid K2.from_drewN; clear K2))
        go_ret2
        exact ⟨rfl, HK.out.chain (Kp.new _ _)⟩
      · have hge : (o.data : Int) ≤ i := by omega
        clear e e1 ho hi ha B0 hoff
        go_enter Try.func126, Try.ntmps126
        go_wp2_with (first | (go_at_call 74; refine (h_check h _ HA.out).mono ?_; rintro e w' ⟨rfl, n1, rfl⟩; rw [HE.out]) | (go_at_call 81; refine ((h.drewN _).shape_at HO.out).mono ?_; rintro e w2 ⟨rfl, K2⟩; have HK := hid K2.from_drewN; clear K2))
        go_ret2
        exact ⟨rfl, HK.out.chain (Kp.new _ _)⟩
end
end Go.Proofs.Ytplgbpmldjngoaa
