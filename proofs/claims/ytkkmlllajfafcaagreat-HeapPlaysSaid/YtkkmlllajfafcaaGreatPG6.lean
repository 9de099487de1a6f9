/-
  The contracts of package heap's Kill, Pin, Unpin, Word, At, Forward, and of slices.Clone at numbers. Conditions: those that stand in each theorem.
-/
import Derived.Test.YtkkmlllajfafcaaGreatPG5
namespace Go.Proofs.YtkkmlllajfafcaaGreat
set_option linter.unusedVariables false
set_option linter.unusedSimpArgs false
open Go.RowKit Go.Deep Go.Maps

def HM.killM (m : HM) (a : Int) : HM := if m.has a then m.del a.toNat else m
def HM.pinM (m : HM) (a : Int) (p : Bool) : HM := if m.has a then (match m.ob a.toNat with | some o => m.add a.toNat (o.setPin p) | none => m) else m
section
variable {w w' : World} {b : HB} {r : RM} {m : HM} {q : Nat}
theorem Kp.all {a c : World} {S : List Nat} (k : Kp S a c) (b : HB) (hS : ∀ x ∈ S, x ∈ b.all) : Kp b.all a c := k.mono (fun x hx => .inl (hS x hx))
theorem Abs.w0 (A : Abs r m) {a : Nat} {o : Ob} (h : m.ob a = some o) : r.ws.getD a 0 = (o.id : Int) := by
  have := A.rep.w_ob _ _ h 0 (by have := (A.inv.ok _ _ h).wd_bd; omega)
  exact this
theorem Abs.w1 (A : Abs r m) {a : Nat} {o : Ob} (h : m.ob a = some o) : r.ws.getD (a + 1) 0 = ((shN o.refs o.data o.kind : Nat) : Int) := by
  have := A.rep.w_ob _ _ h 1 (by have := (A.inv.ok _ _ h).wd_bd; omega)
  exact this
theorem h_uncover_ob (R : Raw w b r) (A : Abs r m) {k : Nat} {o : Ob} (h : m.ob k = some o) (hq : r.born ≤ 1000000000) :
    Calls Tryz.prog 124 #[.pointer (some ⟨b.g, 0, none⟩), .int .i64 (k : Int)] w fun e w' => e = .returned (.tuple #[]) ∧ Raw w' b (r.uncover k o.wd o.id) ∧ Abs (r.uncover k o.wd o.id) (m.del k) ∧ Kp b.all w w' := by
  have ho := A.inv.ok _ _ h
  have hi := A.inv.idb _ _ h
  have hb := A.born
  refine (h_uncover R k o.refs o.data o.kind o.id (by rw [A.wl R]; exact A.inv.hi h) (A.inv.even _ _ h) ho.vld (A.w0 h) (A.w1 h) ⟨by omega, by omega⟩).mono ?_
  rintro e w1 ⟨rfl, R1, K1⟩
  exact ⟨rfl, R1, A.uncover R h, K1.all b (by simp [HB.all])⟩
theorem h_kill (h : SH w b q m) (a : Int) (ha : W64 a) (hq : q ≤ 1000000000) :
    Calls Tryz.prog 51 #[.pointer (some ⟨b.g, 0, none⟩), .int .i64 a] w fun e w' => e = .returned (.int .i64 (m.lackE a)) ∧ SH w' b q (m.killM a) ∧ Kp b.all w w' := by
  have HA := hid ha
  clear ha
  rcases hb : m.has a
  · have e : m.lackE a = 4 := by simp [HM.lackE, hb]
    have e1 : m.killM a = m := by simp [HM.killM, hb]
    have HE := hid e
    rw [e1]; clear e e1
    go_enter Tryz.func51, Tryz.ntmps51
    go_wp2_with (go_at_call 112; refine (h_check h _ HA.out).mono ?_; rintro e w' ⟨rfl, n1, rfl⟩; rw [HE.out])
    go_ret
    rw [HE.out]
    exact ⟨rfl, h.drewN _, (Kp.draw w _).mono (by simp)⟩
  · obtain ⟨k, o, rfl, ho⟩ := has_nat hb
    have e : m.lackE (k : Int) = 0 := by simp [HM.lackE, hb]
    have e1 : m.killM (k : Int) = m.del k := by simp [HM.killM, hb]
    have HE := hid e
    rw [e1]; clear e e1
    have h0 := h
    obtain ⟨r, R, A, hq1, hq2⟩ := h
    have HO := hid ho
    clear ho
    go_enter Tryz.func51, Tryz.ntmps51
    go_wp2_with (first | (go_at_call 112; refine (h_check h0 _ HA.out).mono ?_; rintro e w' ⟨rfl, n1, rfl⟩; rw [HE.out]) | (go_at_call 124; refine (h_uncover_ob (R.drewN _) A HO.out (by omega)).mono ?_; rintro e w2 ⟨rfl, R2, A2, K2⟩; have HR := hid R2; have HA2 := hid A2; have HK := hid K2; clear R2 A2 K2))
    go_ret
    rw [HE.out]
    exact ⟨rfl, ⟨_, HR.out, HA2.out, hq1, hq2⟩, HK.out.from_drewN⟩
theorem set_in {g h wd : Nat} {L : List Nat} (T : STab w g h wd L) (k v : Nat) (hk : k < L.length) (hv : v < 2 ^ wd) :
    Calls Tryz.prog 177 #[.pointer (some ⟨g, 0, none⟩), .int .i64 (k : Int), .int .i64 (v : Int)] w fun e w' => e = .returned (.int .i64 0) ∧ STab w' g h wd (L.set k v) ∧ Kp [h] w w' := by
  have H := set_any T (k : Int) (v : Int)
  rw [set_ok hk hv, show setE wd L (k : Int) (v : Int) = 0 by simp [setE, setOk, hasB_of hk, fitsB_of hv]] at H
  exact H
theorem h_setPin (h : SH w b q m) (a : Int) (ha : W64 a) (p : Bool) (pi : Int) (hp : pi = if p then 1 else 0) :
    Calls Tryz.prog 149 #[.pointer (some ⟨b.g, 0, none⟩), .int .i64 a, .int .i64 pi] w fun e w' => e = .returned (.int .i64 (m.lackE a)) ∧ SH w' b q (m.pinM a p) ∧ Kp b.all w w' := by
  have HA := hid ha
  rcases hb : m.has a
  · have e : m.lackE a = 4 := by simp [HM.lackE, hb]
    have e1 : m.pinM a p = m := by simp [HM.pinM, hb]
    have HE := hid e
    rw [e1]; clear e e1 hp
    go_enter Tryz.func149, Tryz.ntmps149
    go_wp2_with (go_at_call 112; refine (h_check h _ HA.out).mono ?_; rintro e w' ⟨rfl, n1, rfl⟩; rw [HE.out])
    go_ret
    rw [HE.out]
    exact ⟨rfl, h.drewN _, (Kp.draw w _).mono (by simp)⟩
  · obtain ⟨k, o, rfl, ho⟩ := has_nat hb
    have e : m.lackE (k : Int) = 0 := by simp [HM.lackE, hb]
    have e1 : m.pinM (k : Int) p = m.add k (o.setPin p) := by simp [HM.pinM, hb, ho]
    have HE := hid e
    rw [e1]; clear e e1
    have h0 := h
    obtain ⟨r, R, A, hq1, hq2⟩ := h
    have hk := ha.2
    have he := A.inv.even _ _ ho
    have hnl := A.nl R
    have hhi := A.inv.hi ho
    have hwd := (A.inv.ok _ _ ho).wd_bd
    have hc := R.c3
    obtain ⟨v, hpv⟩ : ∃ v : Nat, v = if p then 1 else 0 := ⟨_, rfl⟩
    have hv : v < 2 ^ 1 := by rw [hpv]; split <;> decide
    have HA2 := hid (A.setPin R ho p)
    rw [← hpv] at HA2
    obtain rfl : pi = (v : Int) := by rw [hp, hpv]; split <;> rfl
    have HE1 := hid (show ((k : Int) / 2) = ((k / 2 : Nat) : Int) by omega)
    have hkl : k / 2 < r.pn.length := by omega
    have HV := hid hv
    clear hp ho hpv hv ha
    go_enter Tryz.func149, Tryz.ntmps149
    go_wp2_with (go_at_call 112; refine (h_check h0 _ HA.out).mono ?_; rintro e w' ⟨rfl, n1, rfl⟩; rw [HE.out])
    rw [HE1.out]
    refine (set_in (w := w.drewN _) R.TN _ _ hkl HV.out).mono ?_
    rintro e w2 ⟨rfl, T2, K2⟩
    have HR := hid ((R.drewN n1).setN T2 (by simp) K2)
    have HK := hid (K2.from_drewN)
    clear T2 K2
    go_wp2
    go_ret
    rw [HE.out]
    exact ⟨rfl, ⟨_, HR.out, HA2.out, hq1, hq2⟩, HK.out.all b (by simp [HB.all])⟩
theorem h_pin (h : SH w b q m) (a : Int) (ha : W64 a) :
    Calls Tryz.prog 75 #[.pointer (some ⟨b.g, 0, none⟩), .int .i64 a] w fun e w' => e = .returned (.int .i64 (m.lackE a)) ∧ SH w' b q (m.pinM a true) ∧ Kp b.all w w' := by
  have HA := hid ha
  clear ha
  go_enter Tryz.func75, Tryz.ntmps75
  go_wp2_with (go_at_call 149; refine (h_setPin h _ HA.out true 1 rfl).mono ?_; rintro e w2 ⟨rfl, S2, K2⟩; have HS := hid S2; have HK := hid K2; clear S2 K2)
  go_ret
  exact ⟨rfl, HS.out, HK.out⟩
theorem h_unpin (h : SH w b q m) (a : Int) (ha : W64 a) :
    Calls Tryz.prog 77 #[.pointer (some ⟨b.g, 0, none⟩), .int .i64 a] w fun e w' => e = .returned (.int .i64 (m.lackE a)) ∧ SH w' b q (m.pinM a false) ∧ Kp b.all w w' := by
  have HA := hid ha
  clear ha
  go_enter Tryz.func77, Tryz.ntmps77
  go_wp2_with (go_at_call 149; refine (h_setPin h _ HA.out false 0 rfl).mono ?_; rintro e w2 ⟨rfl, S2, K2⟩; have HS := hid S2; have HK := hid K2; clear S2 K2)
  go_ret
  exact ⟨rfl, HS.out, HK.out⟩
theorem lit_inj {c v : Int} (h : (DataW.lit (.int .i64 c) : DataW Unit) = .lit (.int .i64 v)) : c = v := by
  cases h
  rfl
def optV : Option Int → Int
  | some v => v
  | none => 0
def optE : Option Int → Int
  | some _ => 0
  | none => 4
set_option maxHeartbeats 1000000 in
theorem h_at (h : SH w b q m) (i : Int) (hi : W64 i) :
    Calls Tryz.prog 49 #[.pointer (some ⟨b.g, 0, none⟩), .int .i64 i] w fun e w' => e = .returned (.tuple #[.int .i64 (optV (m.atI i)), .int .i64 (optE (m.atI i))]) ∧ ∃ n, w' = w.drewN n := by
  have h0 := h
  obtain ⟨r, R, A, hq1, hq2⟩ := h
  obtain ⟨d1, d2⟩ := A.dp i hi.1 hi.2
  have hkey := keyOf_int_mk (P := Tryz.prog) (k := 3) Tryz.underlying3 (wf64 hi.1 hi.2)
  have HKEY := hid hkey
  have HO : Hid (∀ n, (w.drewN n).ownsMap Tryz.prog 3 (plainElem Tryz.prog 3) b.mp r.q r.Dp) := fun n => R.MP
  have hc := R.c4
  rcases hf : m.atI i with _ | v
  · rw [hf] at d1
    simp only [Option.isSome_none] at d1
    clear d2 hf hkey hi A
    go_enter Tryz.func49, Tryz.ntmps49
    go_wp2_with (first
      | (go_at_call 55; refine h0.made.mono ?_; rintro e w' ⟨rfl, n1, rfl⟩)
      | (at_lookup; refine wpList_lookup_own_ok_int _ rfl _ _ 94 rfl 3 3 .i64 lawInt Tryz.underlying94 Tryz.underlying3 (zeroInt _) b.mp r.q r.Dp rfl (HO.out _) _ _ rfl HKEY.out ?_; intro c hat hwc))
    go_ret2
    exact ⟨rfl, _, rfl⟩
  · rw [hf] at d1
    have d3 := d2 v hf
    have HD := hid d3
    simp only [Option.isSome_some] at d1
    clear d2 hf hkey hi A d3
    go_enter Tryz.func49, Tryz.ntmps49
    go_wp2_with (first
      | (go_at_call 55; refine h0.made.mono ?_; rintro e w' ⟨rfl, n1, rfl⟩)
      | (at_lookup; refine wpList_lookup_own_ok_int _ rfl _ _ 94 rfl 3 3 .i64 lawInt Tryz.underlying94 Tryz.underlying3 (zeroInt _) b.mp r.q r.Dp rfl (HO.out _) _ _ rfl HKEY.out ?_; intro c hat hwc; have HC := hid hat; clear hat))
    go_ret2
    have e : c = v := by
      exact lit_inj (HC.out.symm.trans HD.out)
    rw [e]
    exact ⟨rfl, _, rfl⟩
set_option maxHeartbeats 1000000 in
theorem h_forward (h : SH w b q m) (i : Int) (hi : W64 i) :
    Calls Tryz.prog 48 #[.pointer (some ⟨b.g, 0, none⟩), .int .i64 i] w fun e w' => e = .returned (.tuple #[.int .i64 (optV (m.fwI i)), .int .i64 (optE (m.fwI i))]) ∧ ∃ n, w' = w.drewN n := by
  have h0 := h
  obtain ⟨r, R, A, hq1, hq2⟩ := h
  obtain ⟨d1, d2⟩ := A.df i hi.1 hi.2
  have hkey := keyOf_int_mk (P := Tryz.prog) (k := 3) Tryz.underlying3 (wf64 hi.1 hi.2)
  have HKEY := hid hkey
  have HO : Hid (∀ n, (w.drewN n).ownsMap Tryz.prog 3 (plainElem Tryz.prog 3) b.mf r.q r.Df) := fun n => R.MF
  have hc := R.c5
  rcases hf : m.fwI i with _ | v
  · rw [hf] at d1
    simp only [Option.isSome_none] at d1
    clear d2 hf hkey hi A
    go_enter Tryz.func48, Tryz.ntmps48
    go_wp2_with (first
      | (go_at_call 55; refine h0.made.mono ?_; rintro e w' ⟨rfl, n1, rfl⟩)
      | (at_lookup; refine wpList_lookup_own_ok_int _ rfl _ _ 94 rfl 3 3 .i64 lawInt Tryz.underlying94 Tryz.underlying3 (zeroInt _) b.mf r.q r.Df rfl (HO.out _) _ _ rfl HKEY.out ?_; intro c hat hwc))
    go_ret2
    exact ⟨rfl, _, rfl⟩
  · rw [hf] at d1
    have d3 := d2 v hf
    have HD := hid d3
    simp only [Option.isSome_some] at d1
    clear d2 hf hkey hi A d3
    go_enter Tryz.func48, Tryz.ntmps48
    go_wp2_with (first
      | (go_at_call 55; refine h0.made.mono ?_; rintro e w' ⟨rfl, n1, rfl⟩)
      | (at_lookup; refine wpList_lookup_own_ok_int _ rfl _ _ 94 rfl 3 3 .i64 lawInt Tryz.underlying94 Tryz.underlying3 (zeroInt _) b.mf r.q r.Df rfl (HO.out _) _ _ rfl HKEY.out ?_; intro c hat hwc; have HC := hid hat; clear hat))
    go_ret2
    have e : c = v := by
      exact lit_inj (HC.out.symm.trans HD.out)
    rw [e]
    exact ⟨rfl, _, rfl⟩
end
end Go.Proofs.YtkkmlllajfafcaaGreat
/-
  The contract of package heap's Move, and of slices.Clone at numbers. Conditions: those that stand in each theorem.
-/
namespace Go.Proofs.YtkkmlllajfafcaaGreat
set_option linter.unusedVariables false
set_option linter.unusedSimpArgs false
open Go.RowKit Go.Deep Go.Maps

theorem clone_ints {w : World} {h k c : Nat} {gs : List Int} (hn : 0 < gs.length) (hl : gs.length ≤ 4096) (hh : h < w.heap.size) (hr : ∀ j, j < gs.length → w.cell? ⟨h, k + j, none⟩ = some (.int .i64 (gs.getD j 0))) :
    Calls Tryz.prog 57 #[.slice (some ⟨h, k, none⟩) gs.length c] w (ClonedI w gs) := by
  obtain ⟨i0, hi0, hz0, hz1, hz2⟩ := info_parts infoInt
  have HC : Hid (∀ j u, (zcells gs)[j]? = some u → (w.alloc (.cells #[] 3)).cell? ((⟨h, k, none⟩ : Addr).add j) = some u) := fun j u hu => by
    have hj : j < gs.length := by have := (List.getElem?_eq_some_iff.1 hu).1; simpa [zcells] using this
    have e : u = .int .i64 (gs.getD j 0) := by
      simp [zcells, hj] at hu
      rw [← hu, List.getD_eq_getElem?_getD, List.getElem?_eq_getElem hj]
      rfl
    rw [addr_off, e, ← hr j hj]
    exact World.cell?_of_block ((Kp.new w _).block _ hh (by simp))
  have hnil : ∀ W : World, (binOp .eql 59 (.slice (some ⟨h, k, none⟩) gs.length c) (.slice none 0 0)).run Tryz.prog W = .ok (.bool false) W := fun W => Lib.run_eql_slice_nil W 59 3 (some ⟨h, k, none⟩) gs.length c 0 0 Tryz.underlying59
  clear hr
  go_enter Tryz.func57, Tryz.ntmps57
  go_wp2_with (at_builtin; (refine wpList_append_lies _ rfl (.tmp 5) (.tmp 6) 59 rfl w.heap.size 3 i0 (.int .i64 0) 1 8 Tryz.underlying59 hi0 hz0 hz1 hz2 rfl (by decide) (.slice (some ⟨w.heap.size, 0, none⟩) 0 0) 0 [] rfl (own_empty w 3) ⟨h, k, none⟩ gs.length c (zcells gs) rfl (by simp [zcells]) HC.out zcells_one hn (by unfold maxLen; omega) (by omega) (by simp) (w.heap.size + 1) (by simp) ?_); intro g cap w' hown hgr hat hlt)
  have HO := hid hown
  have HG := hid hgr
  clear hown hgr hnil
  go_wp2
  go_ret
  have hO := HO.out
  rw [Nat.zero_add, List.nil_append] at hO
  obtain ⟨g', c', sp', hv, hB, hb, h1, h2, h3⟩ := own_form hO hn
  injection hv with e1 e2 e3
  injection e1 with e1
  injection e1 with e1
  subst e1 e3
  refine ⟨g, cap, sp', by simp, hB, hb, h1, h2, h3, ?_⟩
  exact (Kp.new w _).trans (Kp.of_grown HG.out) (by simp) (by simp [Value.ownBlock])

def HM.moveE (m : HM) (f t : Int) : Int := if m.has f then (match m.ob f.toNat with | some o => roomE m t o.wd f.toNat | none => 4) else 4
def HM.moveM (m : HM) (f t : Int) : HM := if m.moveE f t = 0 then (match m.ob f.toNat with | some o => ((m.del f.toNat).add t.toNat o).fwd f.toNat t.toNat | none => m) else m
section
variable {w w' : World} {b : HB} {r : RM} {m : HM} {q : Nat}
theorem free_of (I : m.Inv) {own k wd : Nat} (he : k % 2 = 0) (hw : wd % 2 = 0) (h : tkB m own k (wd / 2) = false) {x a : Nat} {o : Ob} (h1 : k ≤ x) (h2 : x < k + wd) (ho : m.ob a = some o) (h3 : a ≤ x) (h4 : x < a + o.wd) : a = own := by
  have hae := I.even _ _ ho
  have hwd := (I.ok _ _ ho).wd_bd
  have hlo := I.lo ho
  have h5 := tkB_false.1 h ((x - k) / 2) (by omega)
  rw [own_cov I ho (by omega) (by omega)] at h5
  omega
theorem setPin_word (o : Ob) (p : Bool) (j : Nat) : (o.setPin p).word j = o.word j := rfl
theorem move_model (I : m.Inv) {f t : Nat} {o : Ob} (ho : m.ob f = some o) (he : t % 2 = 0) (hs : suitB m.bl t o.wd = true) (hk : tkB m f t (o.wd / 2) = false) :
    (m.del f).free t o.wd ∧ ((m.del f).add t (o.setPin false)).Inv := by
  have hok := I.ok _ _ ho
  have hw := hok.wd_bd
  have hf : (m.del f).free t o.wd := by
    intro x h1 h2 hc
    rw [del_cv I ho] at hc
    obtain ⟨⟨a, y, h3, h4, h5⟩, hn⟩ := hc
    have := free_of I he hw.2.2.1 hk h1 h2 h3 h4 h5
    subst this
    rw [ho] at h3
    cases h3
    exact hn ⟨h4, h5⟩
  refine ⟨hf, (I.del f).add (hok.setPin false) he hs hf (fun x y hx hid => ?_) (show o.id ≤ m.born from I.idb _ _ ho)⟩
  obtain ⟨h1, h2⟩ := del_ob.1 hx
  exact h1 (I.ids _ _ _ _ h2 ho hid)
theorem add_add (m : HM) (a : Nat) (o o' : Ob) : (m.add a o).add a o' = m.add a o' := by
  unfold HM.add
  simp only [HM.mk.injEq, true_and, and_true]
  funext x
  split <;> rfl
/-- What noting a forward does. -/
theorem fwd_step (h : SH w b q m) (f t : Nat) (hf : W64 f) (ht : W64 t) (hq : q < 1000000000) :
    ∃ (w6 : World) (r6 : RM), (Instr.mapUpdate 94 (.map (some b.mf)) (.int .i64 (f : Int)) (.int .i64 (t : Int))).run Tryz.prog w = .ok () w6 ∧ Raw w6 b r6 ∧ Abs r6 (m.fwd f t) ∧ (r6.q ≤ q + 1 ∧ r6.born ≤ q) ∧ Kp b.all w w6 := by
  obtain ⟨r, R, A, hq1, hq2⟩ := h
  obtain ⟨F, hF⟩ := own_store R.MF (by unfold maxLen; omega) (f : Int) (t : Int) hf ht
  obtain ⟨f1, f2, f3⟩ := hF 0
  exact ⟨F 0, _, f1, R.setMF f2 (by omega) f3, A.fwd R f t _ hf, ⟨by show r.q + 1 ≤ _; omega, hq2⟩, f3.all b (by simp [HB.all])⟩
theorem SH.c5 (h : SH w b q m) : w.cell? ⟨b.g, 5, none⟩ = some (.map (some b.mf)) := by
  obtain ⟨r, R, _⟩ := h
  exact R.c5
set_option maxHeartbeats 4000000 in
set_option maxRecDepth 100000 in
theorem h_move (h : SH w b q m) (f t : Int) (hf : W64 f) (ht : W64 t) (hq : q ≤ 900000000) :
    Calls Tryz.prog 47 #[.pointer (some ⟨b.g, 0, none⟩), .int .i64 f, .int .i64 t] w fun e w' => e = .returned (.int .i64 (m.moveE f t)) ∧ SH w' b (q + 2) (m.moveM f t) ∧ Kp b.all w w' := by
  have HF := hid hf
  have HT := hid ht
  rcases hb : m.has f
  · have e : m.lackE f = 4 := by simp [HM.lackE, hb]
    have e2 : m.moveE f t = 4 := by simp [HM.moveE, hb]
    have e1 : m.moveM f t = m := by simp [HM.moveM, e2]
    have HE := hid e
    rw [e1, e2]; clear e e1 e2 hf ht
    go_enter Tryz.func47, Tryz.ntmps47
    go_wp2_with (go_at_call 112; refine (h_check h _ HF.out).mono ?_; rintro e w' ⟨rfl, n1, rfl⟩; rw [HE.out])
    go_ret
    exact ⟨rfl, (h.drewN _).mono (by omega), (Kp.draw w _).mono (by simp)⟩
  · obtain ⟨k, o, rfl, ho⟩ := has_nat hb
    have e : m.lackE (k : Int) = 0 := by simp [HM.lackE, hb]
    have e2 : m.moveE (k : Int) t = roomE m t o.wd k := by simp [HM.moveE, hb, ho]
    have HE := hid e
    have h0 := h
    obtain ⟨r, R, A, hq1, hq2⟩ := h
    have I := A.inv
    have hok := I.ok _ _ ho
    have hwd := hok.wd_bd
    have hhi := I.hi ho
    have hev := I.even _ _ ho
    have hwl := A.wl R
    have hnb := I.n_bd
    have HSZ : Hid (∀ (W : World), Raw W b r → Calls Tryz.prog 116 #[.pointer (some ⟨b.g, 0, none⟩), .int .i64 (k : Int)] W fun e w' => e = .returned (.int .i64 (o.wd : Int)) ∧ Kp [] W w') := fun W RW =>
      h_size RW k o.refs o.data o.kind (by omega) hok.vld (A.w1 ho)
    have HRM : Hid (∀ (W : World), SH W b q m → Calls Tryz.prog 118 #[.pointer (some ⟨b.g, 0, none⟩), .int .i64 t, .int .i64 (o.wd : Int), .int .i64 (k : Int)] W fun e w' => e = .returned (.int .i64 (roomE m t o.wd k)) ∧ ∃ n, w' = W.drewN n) := fun W SW =>
      h_room SW t HT.out o.wd k (by omega) hwd.2.2.1 (by omega) (by omega)
    have HOO := hid ho
    by_cases hz : roomE m t o.wd k = 0
    · obtain ⟨t, rfl, ht2, htn, hsu, htk⟩ := roomE_zero hz
      have e1 : m.moveM (k : Int) (t : Int) = ((m.del k).add t o).fwd k t := by
        unfold HM.moveM
        rw [e2, if_pos hz, Int.toNat_natCast, ho, Int.toNat_natCast]
      rw [e1, e2, hz]
      obtain ⟨hfree, hinv⟩ := move_model I ho ht2 hsu htk
      have HZ := hid hz
      have HFR := hid hfree
      have HIN := hid hinv
      have hthi := (suit_bd hsu).2.1
      have hcb : t + o.wd ≤ r.ws.length := by rw [hwl]; exact hthi
      obtain ⟨gs, hgl, hgs⟩ : ∃ gs : List Int, gs.length = o.wd ∧ ∀ j, j < o.wd → gs.getD j 0 = r.ws.getD (k + j) 0 := by
        refine ⟨(r.ws.drop k).take o.wd, by simp; omega, fun j hj => ?_⟩
        simp only [List.getD_eq_getElem?_getD]
        rw [List.getElem?_take_of_lt hj, List.getElem?_drop]
      have hgw : ∀ j, j < o.wd → gs.getD j 0 = (o.setPin false).word j := fun j hj => by
        rw [hgs j hj]
        exact A.rep.w_ob _ _ ho j hj
      have hcl : Hid (∀ W, Raw W b r → Calls Tryz.prog 57 #[.slice (some ⟨b.hw, k, none⟩) o.wd (r.cw - k)] W (ClonedI W gs)) := fun W RW => by
        have := clone_ints (w := W) (h := b.hw) (k := k) (c := r.cw - k) (gs := gs) (by omega) (by omega) RW.Bw.lt (fun j hj => by rw [hgs j (by omega)]; exact RW.word (by omega))
        rw [hgl] at this
        exact this
      have HID : Hid (W64 (gs.getD 0 0)) := by
        have := I.idb _ _ ho
        have h1 := A.born
        rw [hgw 0 (by omega)]
        exact ⟨by show (_ : Int) ≤ (o.id : Int); omega, by show (o.id : Int) ≤ _; omega⟩
      have HGW := hid hgw
      have HGL := hid hgl
      have HA := hid A
      have HW : Hid (2 ≤ o.wd ∧ o.wd % 2 = 0) := ⟨hwd.1, hwd.2.2.1⟩
      have hkw : (k : Int) + (o.wd : Int) ≤ (r.ws.length : Int) := by omega
      have hkl : (k : Int) ≤ (r.ws.length : Int) := by omega
      have hlw : r.ws.length ≤ 4096 := by omega
      have hcw := R.cw1
      have hcm := R.cw2
      unfold maxLen at hcm
      have hkc : k < r.cw := by omega
      have hwd2 : o.wd ≤ 218 := hwd.2.1
      have hwd1 : 2 ≤ o.wd := hwd.1
      have HHI := hid hhi
      have HTHI := hid hthi
      have HCB := hid hcb
      have HT2 := hid ht2
      have HBD : Hid (r.born ≤ 1000000000 ∧ r.q < 900000001) := ⟨by omega, by omega⟩
      have HOK := hid hok
      clear e e1 e2 hz hsu htk hfree hinv hgs hgw hgl ho hf ht hok hwd hhi hthi hcb ht2 hwl hev A
      go_enter Tryz.func47, Tryz.ntmps47
      go_wp2_with (first
        | (go_at_call 112; refine (h_check h0 _ HF.out).mono ?_; rintro e w' ⟨rfl, n1, rfl⟩; rw [HE.out])
        | (go_at_call 116; refine (HSZ.out _ (R.drewN _)).mono ?_; rintro e w1 ⟨rfl, K1⟩; have HK1 := hid K1.from_drewN; clear K1)
        | (go_at_call 118; refine (HRM.out _ (h0.kp0 HK1.out)).mono ?_; rintro e w' ⟨rfl, n2, rfl⟩; rw [HZ.out]; have R1 := R.kp0 HK1.out; have hc1 := R1.c1))
      refine (hcl.out _ (R1.drewN _)).mono ?_
      rintro e w3 ⟨gb, cap, sp, rfl, hgb, hB3, hc3a, hc3b, hc3c, K3⟩
      have K4 : Kp [] w w3 := HK1.out.chain0 (K3.from_drewN)
      have R3 := R.kp0 K4
      have S3 := h0.kp0 K4
      have HB3 := hid hB3
      have HR3 := hid R3
      have HK4 := hid K4
      have HGB : Hid (∀ x ∈ b.all, gb ≠ x) := fun x hx => by
        have h1 := h0.lt x hx
        have h2 := HK1.out.size
        have h3 : w1.heap.size ≤ gb := hgb
        omega
      have HCA := hid hc3a
      clear hgb hB3 K4 K3 R3 hc3a hc3b hc3c R1
      go_wp2_with (fail)
      refine (h_pinned S3 _ HF.out).mono ?_
      rintro e w' ⟨rfl, n5, rfl⟩
      have hpn : m.pinned (k : Int) = o.pin := by simp [HM.pinned, HOO.out]
      rw [hpn]
      clear hpn S3
      generalize hop : o.pin = p
      have HOP := hid hop
      clear hop
      go_wp2_with (fail)
      refine (h_uncover_ob (HR3.out.drewN _) HA.out HOO.out (HBD.out.1)).mono ?_
      rintro e w4 ⟨rfl, R4, A4, K5⟩
      have HR4 := hid R4
      have HA4 := hid A4
      have HK5 := hid K5.from_drewN
      have HSRC : Hid (∀ j v, (zcells gs)[j]? = some v → w4.cell? ⟨gb, j, none⟩ = some v) := fun j v hv => by
        have hx := blk_read HB3.out j v hv
        rw [addr_off, Nat.zero_add] at hx
        rw [← hx]
        exact World.cell?_of_block (K5.from_drewN.block gb HB3.out.lt (fun hc => HGB.out gb hc rfl))
      clear R4 A4 K5
      go_wp2_with (fail)
      have HRW : Hid (t + o.wd ≤ (r.uncover k o.wd o.id).ws.length) := by
        show t + o.wd ≤ (laid r.ws k (List.replicate o.wd 0)).length
        rw [laid_length (by have := HHI.out; have := HCB.out; simp; omega)]
        exact HCB.out
      refine (h_cover (cap := cap) (gs := gs) HR4.out t o.wd gb HRW.out HT2.out HW.out.2 HW.out.1 (by rw [HGL.out]; omega) (by rw [HGL.out]; exact Nat.le_refl _) HCA.out HID.out HSRC.out HGB.out (Nat.lt_of_lt_of_le HBD.out.2 (by omega))).mono ?_
      rintro e w5 ⟨rfl, R5, K6⟩
      have A5 := HA4.out.cover (o := o.setPin false) HR4.out HIN.out (HOK.out.setPin false) HT2.out HFR.out rfl HTHI.out (by rw [HGL.out]; exact Nat.le_refl _) HGW.out (by have := HID.out; rw [HGW.out 0 (by omega)] at this; exact this)
      have S5 : SH w5 b (q + 1) ((m.del k).add t (o.setPin false)) := ⟨_, R5, A5, by show r.q + 1 ≤ _; omega, by show r.born ≤ _; omega⟩
      have K7 : Kp b.all w w5 := HK4.out.chain0 (HK5.out.trans (K6.all b (by simp [HB.all])) (fun x hx => .inl hx) (fun x hx => .inl hx))
      have HS5 := hid S5
      have HK7 := hid K7
      clear S5 K7 A5 R5 K6
      rcases p
      · have em : ((m.del k).add t (o.setPin false)).fwd k t = ((m.del k).add t o).fwd k t := by
          have : o.setPin false = o := by have := HOP.out; cases o; simp at this; subst this; rfl
          rw [this]
        have HEM := hid em
        clear em
        obtain ⟨w6, r6, h6, R6, A6, hq6, K8⟩ := fwd_step HS5.out k t HF.out HT.out (by omega)
        have hc5 := HS5.out.c5
        have HR6 := hid (show SH w6 b (q + 2) _ from ⟨r6, R6, A6, by omega, by omega⟩)
        have HK8 := hid K8
        clear R6 A6 K8
        go_wp2
        go_ret
        rw [← HEM.out]
        exact ⟨rfl, HR6.out, HK7.out.trans HK8.out (fun x hx => .inl hx) (fun x hx => .inl hx)⟩
      · have em : (((m.del k).add t (o.setPin false)).pinM (t : Int) true).fwd k t = ((m.del k).add t o).fwd k t := by
          have : (o.setPin false).setPin true = o := by have := HOP.out; cases o; simp at this; subst this; rfl
          have h1 : ((m.del k).add t (o.setPin false)).ob t = some (o.setPin false) := add_ob.2 (.inl ⟨rfl, rfl⟩)
          unfold HM.pinM
          rw [if_pos (has_of h1), Int.toNat_natCast, h1]
          simp only
          rw [this, add_add]
        have HEM := hid em
        clear em
        go_wp2_with (go_at_call 75; refine (h_pin HS5.out _ HT.out).mono ?_; rintro e w8 ⟨rfl, S8, K9⟩; have HS8 := hid S8; have HK9 := hid K9; obtain ⟨w6, r6, h6, R6, A6, hq6, K8⟩ := fwd_step S8 k t HF.out HT.out (by omega); have hc5 := S8.c5; have HR6 := hid (show SH w6 b (q + 2) _ from ⟨r6, R6, A6, by omega, by omega⟩); have HK8 := hid K8; clear S8 K9 R6 A6 K8)
        go_ret
        rw [← HEM.out]
        exact ⟨rfl, HR6.out, HK7.out.trans (HK9.out.trans HK8.out (U := b.all) (fun x hx => .inl hx) (fun x hx => .inl hx)) (fun x hx => .inl hx) (fun x hx => .inl hx)⟩
    · have e1 : m.moveM (k : Int) t = m := by
        unfold HM.moveM
        rw [e2, if_neg hz]
      rw [e1, e2]
      have f1 : (roomE m t o.wd k != 0) = true := bne_iff_ne.2 hz
      clear e e1 e2 hz ho hf ht
      go_enter Tryz.func47, Tryz.ntmps47
      go_wp2_with (first
        | (go_at_call 112; refine (h_check h0 _ HF.out).mono ?_; rintro e w' ⟨rfl, n1, rfl⟩; rw [HE.out])
        | (go_at_call 116; refine (HSZ.out _ (R.drewN _)).mono ?_; rintro e w1 ⟨rfl, K1⟩; have HK1 := hid K1.from_drewN; clear K1)
        | (go_at_call 118; refine (HRM.out _ (h0.kp0 HK1.out)).mono ?_; rintro e w' ⟨rfl, n2, rfl⟩))
      go_ret
      exact ⟨rfl, ((h0.kp0 HK1.out).drewN _).mono (by omega), (HK1.out.drewN _).mono (by simp)⟩
end
end Go.Proofs.YtkkmlllajfafcaaGreat
