/-
  The contracts of package heap's Kill, Pin, Unpin, Word, At, Forward, and of slices.Clone at numbers. Conditions: those that stand in each theorem.
-/
import Derived.Test.YtkkmlllajfafcaaPG5
namespace Go.Proofs.Ytkkmlllajfafcaa
set_option linter.unusedVariables false
set_option linter.unusedSimpArgs false
open Go.RowKit Go.Deep Go.Maps

def HM.killM (m : HM) (a : Int) : HM := if m.has a then m.del a.toNat else m
def HM.pinM (m : HM) (a : Int) (p : Bool) : HM := if m.has a then (match m.ob a.toNat with | some o => m.add a.toNat (o.setPin p) | none => m) else m
section
variable {w w' : World} {b : HB} {r : RM} {m : HM} {q : Nat}
theorem Kp.all {a c : World} {S : List Nat} (k : Kp S a c) (b : HB) (hS : ∀ x ∈ S, x ∈ b.all) : Kp b.all a c := k.mono (fun x hx => .inl (hS x hx))
theorem Abs.w0 (A : Abs r m) {a : Nat} {o : Ob} (h : m.ob a = some o) : r.ws.getD a 0 = (o.id : Int) := by
  have := A.rep.w_ob _ _ h 0 (by have := (A.inv.ok _ _ h).wd_bd; omega)
  exact this
theorem Abs.w1 (A : Abs r m) {a : Nat} {o : Ob} (h : m.ob a = some o) : r.ws.getD (a + 1) 0 = ((shN o.refs o.data o.kind : Nat) : Int) := by
  have := A.rep.w_ob _ _ h 1 (by have := (A.inv.ok _ _ h).wd_bd; omega)
  exact this
theorem h_uncover_ob (R : Raw w b r) (A : Abs r m) {k : Nat} {o : Ob} (h : m.ob k = some o) (hq : r.born ≤ 1000000000) :
    Calls Try.prog 32 #[.pointer (some ⟨b.g, 0, none⟩), .int .i64 (k : Int)] w fun e w' => e = .returned (.tuple #[]) ∧ Raw w' b (r.uncover k o.wd o.id) ∧ Abs (r.uncover k o.wd o.id) (m.del k) ∧ Kp b.all w w' := by
  have ho := A.inv.ok _ _ h
  have hi := A.inv.idb _ _ h
  have hb := A.born
  refine (h_uncover R k o.refs o.data o.kind o.id (by rw [A.wl R]; exact A.inv.hi h) (A.inv.even _ _ h) ho.vld (A.w0 h) (A.w1 h) ⟨by omega, by omega⟩).mono ?_
  rintro e w1 ⟨rfl, R1, K1⟩
  exact ⟨rfl, R1, A.uncover R h, K1.all b (by simp [HB.all])⟩
theorem h_kill (h : SH w b q m) (a : Int) (ha : W64 a) (hq : q ≤ 1000000000) :
    Calls Try.prog 14 #[.pointer (some ⟨b.g, 0, none⟩), .int .i64 a] w fun e w' => e = .returned (.int .i64 (m.lackE a)) ∧ SH w' b q (m.killM a) ∧ Kp b.all w w' := by
  have HA := hid ha
  clear ha
  rcases hb : m.has a
  · have e : m.lackE a = 4 := by simp [HM.lackE, hb]
    have e1 : m.killM a = m := by simp [HM.killM, hb]
    have HE := hid e
    rw [e1]; clear e e1
    go_enter Try.func14, Try.ntmps14
    go_wp2_with (go_at_call 31; refine (h_check h _ HA.out).mono ?_; rintro e w' ⟨rfl, n1, rfl⟩; rw [HE.out])
    go_ret
    rw [HE.out]
    exact ⟨rfl, h.drewN _, (Kp.draw w _).mono (by simp)⟩
  · obtain ⟨k, o, rfl, ho⟩ := has_nat hb
    have e : m.lackE (k : Int) = 0 := by simp [HM.lackE, hb]
    have e1 : m.killM (k : Int) = m.del k := by simp [HM.killM, hb]
    have HE := hid e
    rw [e1]; clear e e1
    have h0 := h
    obtain ⟨r, R, A, hq1, hq2⟩ := h
    have HO := hid ho
    clear ho
    go_enter Try.func14, Try.ntmps14
    go_wp2_with (first | (go_at_call 31; refine (h_check h0 _ HA.out).mono ?_; rintro e w' ⟨rfl, n1, rfl⟩; rw [HE.out]) | (go_at_call 32; refine (h_uncover_ob (R.drewN _) A HO.out (by omega)).mono ?_; rintro e w2 ⟨rfl, R2, A2, K2⟩; have HR := hid R2; have HA2 := hid A2; have HK := hid K2; clear R2 A2 K2))
    go_ret
    rw [HE.out]
    exact ⟨rfl, ⟨_, HR.out, HA2.out, hq1, hq2⟩, HK.out.from_drewN⟩
theorem set_in {g h wd : Nat} {L : List Nat} (T : STab w g h wd L) (k v : Nat) (hk : k < L.length) (hv : v < 2 ^ wd) :
    Calls Try.prog 47 #[.pointer (some ⟨g, 0, none⟩), .int .i64 (k : Int), .int .i64 (v : Int)] w fun e w' => e = .returned (.int .i64 0) ∧ STab w' g h wd (L.set k v) ∧ Kp [h] w w' := by
  have H := set_any T (k : Int) (v : Int)
  rw [set_ok hk hv, show setE wd L (k : Int) (v : Int) = 0 by simp [setE, setOk, hasB_of hk, fitsB_of hv]] at H
  exact H
theorem lit_inj {c v : Int} (h : (DataW.lit (.int .i64 c) : DataW Unit) = .lit (.int .i64 v)) : c = v := by
  cases h
  rfl
def optV : Option Int → Int
  | some v => v
  | none => 0
def optE : Option Int → Int
  | some _ => 0
  | none => 4
end
end Go.Proofs.Ytkkmlllajfafcaa
/-
  The contract of package heap's Move, and of slices.Clone at numbers. Conditions: those that stand in each theorem.
-/
namespace Go.Proofs.Ytkkmlllajfafcaa
set_option linter.unusedVariables false
set_option linter.unusedSimpArgs false
open Go.RowKit Go.Deep Go.Maps

def HM.moveE (m : HM) (f t : Int) : Int := if m.has f then (match m.ob f.toNat with | some o => roomE m t o.wd f.toNat | none => 4) else 4
def HM.moveM (m : HM) (f t : Int) : HM := if m.moveE f t = 0 then (match m.ob f.toNat with | some o => ((m.del f.toNat).add t.toNat o).fwd f.toNat t.toNat | none => m) else m
section
variable {w w' : World} {b : HB} {r : RM} {m : HM} {q : Nat}
theorem free_of (I : m.Inv) {own k wd : Nat} (he : k % 2 = 0) (hw : wd % 2 = 0) (h : tkB m own k (wd / 2) = false) {x a : Nat} {o : Ob} (h1 : k ≤ x) (h2 : x < k + wd) (ho : m.ob a = some o) (h3 : a ≤ x) (h4 : x < a + o.wd) : a = own := by
  have hae := I.even _ _ ho
  have hwd := (I.ok _ _ ho).wd_bd
  have hlo := I.lo ho
  have h5 := tkB_false.1 h ((x - k) / 2) (by omega)
  rw [own_cov I ho (by omega) (by omega)] at h5
  omega
theorem setPin_word (o : Ob) (p : Bool) (j : Nat) : (o.setPin p).word j = o.word j := rfl
theorem move_model (I : m.Inv) {f t : Nat} {o : Ob} (ho : m.ob f = some o) (he : t % 2 = 0) (hs : suitB m.bl t o.wd = true) (hk : tkB m f t (o.wd / 2) = false) :
    (m.del f).free t o.wd ∧ ((m.del f).add t (o.setPin false)).Inv := by
  have hok := I.ok _ _ ho
  have hw := hok.wd_bd
  have hf : (m.del f).free t o.wd := by
    intro x h1 h2 hc
    rw [del_cv I ho] at hc
    obtain ⟨⟨a, y, h3, h4, h5⟩, hn⟩ := hc
    have := free_of I he hw.2.2.1 hk h1 h2 h3 h4 h5
    subst this
    rw [ho] at h3
    cases h3
    exact hn ⟨h4, h5⟩
  refine ⟨hf, (I.del f).add (hok.setPin false) he hs hf (fun x y hx hid => ?_) (show o.id ≤ m.born from I.idb _ _ ho)⟩
  obtain ⟨h1, h2⟩ := del_ob.1 hx
  exact h1 (I.ids _ _ _ _ h2 ho hid)
theorem add_add (m : HM) (a : Nat) (o o' : Ob) : (m.add a o).add a o' = m.add a o' := by
  unfold HM.add
  simp only [HM.mk.injEq, true_and, and_true]
  funext x
  split <;> rfl
/-- What noting a forward does. -/
theorem fwd_step (h : SH w b q m) (f t : Nat) (hf : W64 f) (ht : W64 t) (hq : q < 1000000000) :
    ∃ (w6 : World) (r6 : RM), (Instr.mapUpdate 37 (.map (some b.mf)) (.int .i64 (f : Int)) (.int .i64 (t : Int))).run Try.prog w = .ok () w6 ∧ Raw w6 b r6 ∧ Abs r6 (m.fwd f t) ∧ (r6.q ≤ q + 1 ∧ r6.born ≤ q) ∧ Kp b.all w w6 := by
  obtain ⟨r, R, A, hq1, hq2⟩ := h
  obtain ⟨F, hF⟩ := own_store R.MF (by unfold maxLen; omega) (f : Int) (t : Int) hf ht
  obtain ⟨f1, f2, f3⟩ := hF 0
  exact ⟨F 0, _, f1, R.setMF f2 (by omega) f3, A.fwd R f t _ hf, ⟨by show r.q + 1 ≤ _; omega, hq2⟩, f3.all b (by simp [HB.all])⟩
theorem SH.c5 (h : SH w b q m) : w.cell? ⟨b.g, 5, none⟩ = some (.map (some b.mf)) := by
  obtain ⟨r, R, _⟩ := h
  exact R.c5
end
end Go.Proofs.Ytkkmlllajfafcaa
