/-
  The contracts of package heap's Kill, Pin, Unpin, Word, At, Forward, and of slices.Clone at numbers. Conditions: those that stand in each theorem.
-/
import Derived.Test.YtkhemendnoeciaaGreatHi
namespace Go.Proofs.YtkhemendnoeciaaGreat
set_option linter.unusedVariables false
set_option linter.unusedSimpArgs false
open Go.RowKit Go.Deep Go.Maps

def HM.killM (m : HM) (a : Int) : HM := if m.has a then m.del a.toNat else m
def HM.pinM (m : HM) (a : Int) (p : Bool) : HM := if m.has a then (match m.ob a.toNat with | some o => m.add a.toNat (o.setPin p) | none => m) else m
section
variable {w w' : World} {b : HB} {r : RM} {m : HM} {q : Nat}
theorem Kp.all {a c : World} {S : List Nat} (k : Kp S a c) (b : HB) (hS : ∀ x ∈ S, x ∈ b.all) : Kp b.all a c := k.mono (fun x hx => .inl (hS x hx))
theorem Abs.w0 (A : Abs r m) {a : Nat} {o : Ob} (h : m.ob a = some o) : r.ws.getD a 0 = (o.id : Int) := by
  have := A.rep.w_ob _ _ h 0 (by have := (A.inv.ok _ _ h).wd_bd; omega)
  exact this
theorem Abs.w1 (A : Abs r m) {a : Nat} {o : Ob} (h : m.ob a = some o) : r.ws.getD (a + 1) 0 = ((shN o.refs o.data o.kind : Nat) : Int) := by
  have := A.rep.w_ob _ _ h 1 (by have := (A.inv.ok _ _ h).wd_bd; omega)
  exact this
theorem h_uncover_ob (R : Raw w b r) (A : Abs r m) {k : Nat} {o : Ob} (h : m.ob k = some o) (hq : r.born ≤ 1000000000) :
    Calls Tryz.prog 102 #[.pointer (some ⟨b.g, 0, none⟩), .int .i64 (k : Int)] w fun e w' => e = .returned (.tuple #[]) ∧ Raw w' b (r.uncover k o.wd o.id) ∧ Abs (r.uncover k o.wd o.id) (m.del k) ∧ Kp b.all w w' := by
  have ho := A.inv.ok _ _ h
  have hi := A.inv.idb _ _ h
  have hb := A.born
  refine (h_uncover R k o.refs o.data o.kind o.id (by rw [A.wl R]; exact A.inv.hi h) (A.inv.even _ _ h) ho.vld (A.w0 h) (A.w1 h) ⟨by omega, by omega⟩).mono ?_
  rintro e w1 ⟨rfl, R1, K1⟩
  exact ⟨rfl, R1, A.uncover R h, K1.all b (by simp [HB.all])⟩
theorem h_kill (h : SH w b q m) (a : Int) (ha : W64 a) (hq : q ≤ 1000000000) :
    Calls Tryz.prog 29 #[.pointer (some ⟨b.g, 0, none⟩), .int .i64 a] w fun e w' => e = .returned (.int .i64 (m.lackE a)) ∧ SH w' b q (m.killM a) ∧ Kp b.all w w' := by
  have HA := hid ha
  clear ha
  rcases hb : m.has a
  · have e : m.lackE a = 4 := by simp [HM.lackE, hb]
    have e1 : m.killM a = m := by simp [HM.killM, hb]
    have HE := hid e
    rw [e1]; clear e e1
    go_enter Tryz.func29, Tryz.ntmps29
    go_wp2_with (go_at_call 101; refine (h_check h _ HA.out).mono ?_; rintro e w' ⟨rfl, n1, rfl⟩; rw [HE.out])
    go_ret
    rw [HE.out]
    exact ⟨rfl, h.drewN _, (Kp.draw w _).mono (by simp)⟩
  · obtain ⟨k, o, rfl, ho⟩ := has_nat hb
    have e : m.lackE (k : Int) = 0 := by simp [HM.lackE, hb]
    have e1 : m.killM (k : Int) = m.del k := by simp [HM.killM, hb]
    have HE := hid e
    rw [e1]; clear e e1
    have h0 := h
    obtain ⟨r, R, A, hq1, hq2⟩ := h
    have HO := hid ho
    clear ho
    go_enter Tryz.func29, Tryz.ntmps29
    go_wp2_with (first | (go_at_call 101; refine (h_check h0 _ HA.out).mono ?_; rintro e w' ⟨rfl, n1, rfl⟩; rw [HE.out]) | (go_at_call 102; refine (h_uncover_ob (R.drewN _) A HO.out (by omega)).mono ?_; rintro e w2 ⟨rfl, R2, A2, K2⟩; have HR := hid R2; have HA2 := hid A2; have HK := hid K2; clear R2 A2 K2))
    go_ret
    rw [HE.out]
    exact ⟨rfl, ⟨_, HR.out, HA2.out, hq1, hq2⟩, HK.out.from_drewN⟩
theorem set_in {g h wd : Nat} {L : List Nat} (T : STab w g h wd L) (k v : Nat) (hk : k < L.length) (hv : v < 2 ^ wd) :
    Calls Tryz.prog 134 #[.pointer (some ⟨g, 0, none⟩), .int .i64 (k : Int), .int .i64 (v : Int)] w fun e w' => e = .returned (.int .i64 0) ∧ STab w' g h wd (L.set k v) ∧ Kp [h] w w' := by
  have H := set_any T (k : Int) (v : Int)
  rw [set_ok hk hv, show setE wd L (k : Int) (v : Int) = 0 by simp [setE, setOk, hasB_of hk, fitsB_of hv]] at H
  exact H
theorem h_setPin (h : SH w b q m) (a : Int) (ha : W64 a) (p : Bool) (pi : Int) (hp : pi = if p then 1 else 0) :
    Calls Tryz.prog 124 #[.pointer (some ⟨b.g, 0, none⟩), .int .i64 a, .int .i64 pi] w fun e w' => e = .returned (.int .i64 (m.lackE a)) ∧ SH w' b q (m.pinM a p) ∧ Kp b.all w w' := by
  have HA := hid ha
  rcases hb : m.has a
  · have e : m.lackE a = 4 := by simp [HM.lackE, hb]
    have e1 : m.pinM a p = m := by simp [HM.pinM, hb]
    have HE := hid e
    rw [e1]; clear e e1 hp
    go_enter Tryz.func124, Tryz.ntmps124
    go_wp2_with (go_at_call 101; refine (h_check h _ HA.out).mono ?_; rintro e w' ⟨rfl, n1, rfl⟩; rw [HE.out])
    go_ret
    rw [HE.out]
    exact ⟨rfl, h.drewN _, (Kp.draw w _).mono (by simp)⟩
  · obtain ⟨k, o, rfl, ho⟩ := has_nat hb
    have e : m.lackE (k : Int) = 0 := by simp [HM.lackE, hb]
    have e1 : m.pinM (k : Int) p = m.add k (o.setPin p) := by simp [HM.pinM, hb, ho]
    have HE := hid e
    rw [e1]; clear e e1
    have h0 := h
    obtain ⟨r, R, A, hq1, hq2⟩ := h
    have hk := ha.2
    have he := A.inv.even _ _ ho
    have hnl := A.nl R
    have hhi := A.inv.hi ho
    have hwd := (A.inv.ok _ _ ho).wd_bd
    have hc := R.c3
    obtain ⟨v, hpv⟩ : ∃ v : Nat, v = if p then 1 else 0 := ⟨_, rfl⟩
    have hv : v < 2 ^ 1 := by rw [hpv]; split <;> decide
    have HA2 := hid (A.setPin R ho p)
    rw [← hpv] at HA2
    obtain rfl : pi = (v : Int) := by rw [hp, hpv]; split <;> rfl
    have HE1 := hid (show ((k : Int) / 2) = ((k / 2 : Nat) : Int) by omega)
    have hkl : k / 2 < r.pn.length := by omega
    have HV := hid hv
    clear hp ho hpv hv ha
    go_enter Tryz.func124, Tryz.ntmps124
    go_wp2_with (go_at_call 101; refine (h_check h0 _ HA.out).mono ?_; rintro e w' ⟨rfl, n1, rfl⟩; rw [HE.out])
    rw [HE1.out]
    refine (set_in (w := w.drewN _) R.TN _ _ hkl HV.out).mono ?_
    rintro e w2 ⟨rfl, T2, K2⟩
    have HR := hid ((R.drewN n1).setN T2 (by simp) K2)
    have HK := hid (K2.from_drewN)
    clear T2 K2
    go_wp2
    go_ret
    rw [HE.out]
    exact ⟨rfl, ⟨_, HR.out, HA2.out, hq1, hq2⟩, HK.out.all b (by simp [HB.all])⟩
theorem h_pin (h : SH w b q m) (a : Int) (ha : W64 a) :
    Calls Tryz.prog 53 #[.pointer (some ⟨b.g, 0, none⟩), .int .i64 a] w fun e w' => e = .returned (.int .i64 (m.lackE a)) ∧ SH w' b q (m.pinM a true) ∧ Kp b.all w w' := by
  have HA := hid ha
  clear ha
  go_enter Tryz.func53, Tryz.ntmps53
  go_wp2_with (go_at_call 124; refine (h_setPin h _ HA.out true 1 rfl).mono ?_; rintro e w2 ⟨rfl, S2, K2⟩; have HS := hid S2; have HK := hid K2; clear S2 K2)
  go_ret
  exact ⟨rfl, HS.out, HK.out⟩
theorem h_unpin (h : SH w b q m) (a : Int) (ha : W64 a) :
    Calls Tryz.prog 55 #[.pointer (some ⟨b.g, 0, none⟩), .int .i64 a] w fun e w' => e = .returned (.int .i64 (m.lackE a)) ∧ SH w' b q (m.pinM a false) ∧ Kp b.all w w' := by
  have HA := hid ha
  clear ha
  go_enter Tryz.func55, Tryz.ntmps55
  go_wp2_with (go_at_call 124; refine (h_setPin h _ HA.out false 0 rfl).mono ?_; rintro e w2 ⟨rfl, S2, K2⟩; have HS := hid S2; have HK := hid K2; clear S2 K2)
  go_ret
  exact ⟨rfl, HS.out, HK.out⟩
theorem lit_inj {c v : Int} (h : (DataW.lit (.int .i64 c) : DataW Unit) = .lit (.int .i64 v)) : c = v := by
  cases h
  rfl
def optV : Option Int → Int
  | some v => v
  | none => 0
def optE : Option Int → Int
  | some _ => 0
  | none => 4
set_option maxHeartbeats 1000000 in
theorem h_at (h : SH w b q m) (i : Int) (hi : W64 i) :
    Calls Tryz.prog 27 #[.pointer (some ⟨b.g, 0, none⟩), .int .i64 i] w fun e w' => e = .returned (.tuple #[.int .i64 (optV (m.atI i)), .int .i64 (optE (m.atI i))]) ∧ ∃ n, w' = w.drewN n := by
  have h0 := h
  obtain ⟨r, R, A, hq1, hq2⟩ := h
  obtain ⟨d1, d2⟩ := A.dp i hi.1 hi.2
  have hkey := keyOf_int_mk (P := Tryz.prog) (k := 3) Tryz.underlying3 (wf64 hi.1 hi.2)
  have HKEY := hid hkey
  have HO : Hid (∀ n, (w.drewN n).ownsMap Tryz.prog 3 (plainElem Tryz.prog 3) b.mp r.q r.Dp) := fun n => R.MP
  have hc := R.c4
  rcases hf : m.atI i with _ | v
  · rw [hf] at d1
    simp only [Option.isSome_none] at d1
    clear d2 hf hkey hi A
    go_enter Tryz.func27, Tryz.ntmps27
    go_wp2_with (first
      | (go_at_call 33; refine h0.made.mono ?_; rintro e w' ⟨rfl, n1, rfl⟩)
      | (at_lookup; refine wpList_lookup_own_ok_int _ rfl _ _ 44 rfl 3 3 .i64 lawInt Tryz.underlying44 Tryz.underlying3 (zeroInt _) b.mp r.q r.Dp rfl (HO.out _) _ _ rfl HKEY.out ?_; intro c hat hwc))
    go_ret2
    exact ⟨rfl, _, rfl⟩
  · rw [hf] at d1
    have d3 := d2 v hf
    have HD := hid d3
    simp only [Option.isSome_some] at d1
    clear d2 hf hkey hi A d3
    go_enter Tryz.func27, Tryz.ntmps27
    go_wp2_with (first
      | (go_at_call 33; refine h0.made.mono ?_; rintro e w' ⟨rfl, n1, rfl⟩)
      | (at_lookup; refine wpList_lookup_own_ok_int _ rfl _ _ 44 rfl 3 3 .i64 lawInt Tryz.underlying44 Tryz.underlying3 (zeroInt _) b.mp r.q r.Dp rfl (HO.out _) _ _ rfl HKEY.out ?_; intro c hat hwc; have HC := hid hat; clear hat))
    go_ret2
    have e : c = v := by
      exact lit_inj (HC.out.symm.trans HD.out)
    rw [e]
    exact ⟨rfl, _, rfl⟩
set_option maxHeartbeats 1000000 in
theorem h_forward (h : SH w b q m) (i : Int) (hi : W64 i) :
    Calls Tryz.prog 26 #[.pointer (some ⟨b.g, 0, none⟩), .int .i64 i] w fun e w' => e = .returned (.tuple #[.int .i64 (optV (m.fwI i)), .int .i64 (optE (m.fwI i))]) ∧ ∃ n, w' = w.drewN n := by
  have h0 := h
  obtain ⟨r, R, A, hq1, hq2⟩ := h
  obtain ⟨d1, d2⟩ := A.df i hi.1 hi.2
  have hkey := keyOf_int_mk (P := Tryz.prog) (k := 3) Tryz.underlying3 (wf64 hi.1 hi.2)
  have HKEY := hid hkey
  have HO : Hid (∀ n, (w.drewN n).ownsMap Tryz.prog 3 (plainElem Tryz.prog 3) b.mf r.q r.Df) := fun n => R.MF
  have hc := R.c5
  rcases hf : m.fwI i with _ | v
  · rw [hf] at d1
    simp only [Option.isSome_none] at d1
    clear d2 hf hkey hi A
    go_enter Tryz.func26, Tryz.ntmps26
    go_wp2_with (first
      | (go_at_call 33; refine h0.made.mono ?_; rintro e w' ⟨rfl, n1, rfl⟩)
      | (at_lookup; refine wpList_lookup_own_ok_int _ rfl _ _ 44 rfl 3 3 .i64 lawInt Tryz.underlying44 Tryz.underlying3 (zeroInt _) b.mf r.q r.Df rfl (HO.out _) _ _ rfl HKEY.out ?_; intro c hat hwc))
    go_ret2
    exact ⟨rfl, _, rfl⟩
  · rw [hf] at d1
    have d3 := d2 v hf
    have HD := hid d3
    simp only [Option.isSome_some] at d1
    clear d2 hf hkey hi A d3
    go_enter Tryz.func26, Tryz.ntmps26
    go_wp2_with (first
      | (go_at_call 33; refine h0.made.mono ?_; rintro e w' ⟨rfl, n1, rfl⟩)
      | (at_lookup; refine wpList_lookup_own_ok_int _ rfl _ _ 44 rfl 3 3 .i64 lawInt Tryz.underlying44 Tryz.underlying3 (zeroInt _) b.mf r.q r.Df rfl (HO.out _) _ _ rfl HKEY.out ?_; intro c hat hwc; have HC := hid hat; clear hat))
    go_ret2
    have e : c = v := by
      exact lit_inj (HC.out.symm.trans HD.out)
    rw [e]
    exact ⟨rfl, _, rfl⟩
end
end Go.Proofs.YtkhemendnoeciaaGreat
