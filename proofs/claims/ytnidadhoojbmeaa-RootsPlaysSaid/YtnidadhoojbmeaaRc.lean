/-
  The contracts of package roots' Get, Set, Push, Queue, Pop, New, addresses, rising. Conditions: those that stand in each theorem.
-/
import Derived.Test.YtnidadhoojbmeaaRb
import Derived.Shelf.SlicesG.Delete
import Derived.Shelf.SlicesG.SearchI
import Derived.Shelf.Lay
namespace Go.Proofs.Ytnidadhoojbmeaa
set_option linter.unusedVariables false
set_option linter.unusedSimpArgs false
open Go.RowKit Go.Deep Go.Maps

shelf_lay_g SlLaysN.n49 Slgn 49 at Try 43 as Try.searchL
shelf_lay_g SlLaysN.n45 Slgn 45 at Try 44 as Try.deleteL

def RT.getV (t : RT) (k m i : Int) : Int := if t.has k m i then t.get k m i else 0
def RT.getE (t : RT) (k m i : Int) : Int := if t.has k m i then 0 else 1
def RT.setE (t : RT) (k m i v : Int) : Int := if t.has k m i then (if v < 0 then 1 else if v = 0 ∧ k = 2 then 1 else 0) else 1
def RT.setM (t : RT) (k m i v : Int) : RT := if t.setE k m i v = 0 then t.set k m i v else t
def RT.pushE (t : RT) (v : Int) : Int := if v ≤ 0 then 1 else if 64 ≤ t.qu.length then 6 else 0
def RT.pushM (t : RT) (v : Int) : RT := if t.pushE v = 0 then { t with qu := t.qu ++ [v] } else t
def RT.popV (t : RT) : Int := t.qu.getD 0 0
def RT.popE (t : RT) : Int := if t.qu = [] then 4 else 0
def RT.popM (t : RT) : RT := { t with qu := t.qu.drop 1 }
/-- What a call that changes roots leaves. -/
def ChgP (w : World) (b : RB) (M : RT) (w' : World) : Prop := ∃ b' : RB, b'.g = b.g ∧ RR w' b' M ∧ Kp b.all w w' ∧ ∀ x ∈ b'.all, x ∈ b.all ∨ w.heap.size ≤ x
section
variable {w w' W : World} {b : RB} {t : RT}
theorem ChgP.same (R : RR w b t) (k : Kp [] w w') : ChgP w b t w' := ⟨b, rfl, R.kp0 k, k.mono (by simp), fun x hx => .inl hx⟩
set_option maxHeartbeats 1000000 in
set_option maxRecDepth 100000 in
theorem r_get (R : RR w b t) (k m i : Int) :
    Calls Try.prog 21 #[.pointer (some ⟨b.g, 0, none⟩), .agg #[.int .i64 k, .int .i64 m, .int .i64 i]] w fun e w' => e = .returned (.tuple #[.int .i64 (t.getV k m i), .int .i64 (t.getE k m i)]) ∧ Kp [] w w' := by
  have K0 := Kp.new w (.cells #[.int .i64 k, .int .i64 m, .int .i64 i] 33)
  have hb := Blk.new w 33 #[.int .i64 k, .int .i64 m, .int .i64 i]
  have HB := hid hb
  have HR := hid (R.kp0 K0)
  have HK := hid K0
  rcases h : t.has k m i
  · have e1 : t.getV k m i = 0 := by simp [RT.getV, h]
    have e2 : t.getE k m i = 1 := by simp [RT.getE, h]
    rw [e1, e2]
    have HH := hid h
    clear h e1 e2 K0 hb R
    go_enter Try.func21, Try.ntmps21
    go_wp2_with (first
      | (go_at_call 23; refine (r_made HR.out).mono ?_; rintro e w' ⟨rfl, n1, rfl⟩; have hb1 := HB.out.kp (Kp.draw _ n1) (by simp); have d0 := hb1.cell 0; have d1 := hb1.cell 1; have d2 := hb1.cell 2; clear hb1)
      | (go_at_call 39; refine (at_no (HR.out.drewN _) k m i HH.out).mono ?_; rintro e w2 ⟨rfl, K2⟩; have HK2 := hid ((HK.out.drewN _).chain K2); clear K2))
    go_ret2
    exact ⟨rfl, HK2.out⟩
  · have e1 : t.getV k m i = t.get k m i := by simp [RT.getV, h]
    have e2 : t.getE k m i = 0 := by simp [RT.getE, h]
    rw [e1, e2]
    have HH := hid h
    clear h e1 e2 K0 hb R
    go_enter Try.func21, Try.ntmps21
    go_wp2_with (first
      | (go_at_call 23; refine (r_made HR.out).mono ?_; rintro e w' ⟨rfl, n1, rfl⟩; have hb1 := HB.out.kp (Kp.draw _ n1) (by simp); have d0 := hb1.cell 0; have d1 := hb1.cell 1; have d2 := hb1.cell 2; clear hb1)
      | (go_at_call 39; refine (at_yes (HR.out.drewN _) k m i HH.out).mono ?_; rintro e w2 ⟨⟨a, sp, rfl⟩, K2⟩; have hca := sp.cell w2 ((HR.out.drewN _).kp0 K2); have HK2 := hid ((HK.out.drewN _).chain K2); clear K2 sp))
    go_ret2
    exact ⟨rfl, HK2.out⟩
theorem RT.set_all (b : RB) (k m i v : Int) : True := trivial
set_option maxHeartbeats 1000000 in
set_option maxRecDepth 100000 in
theorem r_set (R : RR w b t) (k m i v : Int) :
    Calls Try.prog 14 #[.pointer (some ⟨b.g, 0, none⟩), .agg #[.int .i64 k, .int .i64 m, .int .i64 i], .int .i64 v] w fun e w' => e = .returned (.int .i64 (t.setE k m i v)) ∧ RR w' b (t.setM k m i v) ∧ Kp b.all w w' := by
  have K0 := Kp.new w (.cells #[.int .i64 k, .int .i64 m, .int .i64 i] 33)
  have hb := Blk.new w 33 #[.int .i64 k, .int .i64 m, .int .i64 i]
  have HB := hid hb
  have HR := hid (R.kp0 K0)
  have HR0 := hid R
  have HK := hid K0
  rcases h : t.has k m i
  · have e2 : t.setE k m i v = 1 := by simp [RT.setE, h]
    have e1 : t.setM k m i v = t := by simp [RT.setM, e2]
    rw [e1, e2]
    have HH := hid h
    clear h e1 e2 K0 hb R
    go_enter Try.func14, Try.ntmps14
    go_wp2_with (first
      | (go_at_call 23; refine (r_made HR.out).mono ?_; rintro e w' ⟨rfl, n1, rfl⟩; have hb1 := HB.out.kp (Kp.draw _ n1) (by simp); have d0 := hb1.cell 0; have d1 := hb1.cell 1; have d2 := hb1.cell 2; clear hb1)
      | (go_at_call 39; refine (at_no (HR.out.drewN _) k m i HH.out).mono ?_; rintro e w2 ⟨rfl, K2⟩; have HK2 := hid ((HK.out.drewN _).chain K2); clear K2))
    repeat (go_quiet (fail); go_wp2)
    go_ret
    exact ⟨rfl, HR0.out.kp0 (by first | exact HK2.out | exact HK2.out.drewN _), (by first | exact HK2.out | exact HK2.out.drewN _ : Kp [] _ _).mono (by simp)⟩
  · by_cases hv : v < 0
    · have e2 : t.setE k m i v = 1 := by simp [RT.setE, h, hv]
      have e1 : t.setM k m i v = t := by simp [RT.setM, e2]
      rw [e1, e2]
      have HH := hid h
      have hd : decide (v < 0) = true := decide_eq_true hv
      clear h e1 e2 K0 hb R
      go_enter Try.func14, Try.ntmps14
      go_wp2_with (first
        | (go_at_call 23; refine (r_made HR.out).mono ?_; rintro e w' ⟨rfl, n1, rfl⟩; have hb1 := HB.out.kp (Kp.draw _ n1) (by simp); have d0 := hb1.cell 0; have d1 := hb1.cell 1; have d2 := hb1.cell 2; clear hb1)
        | (go_at_call 39; refine (at_yes (HR.out.drewN _) k m i HH.out).mono ?_; rintro e w2 ⟨⟨a, sp, rfl⟩, K2⟩; have HK2 := hid ((HK.out.drewN _).chain K2); clear K2 sp))
      repeat (go_quiet (fail); go_wp2)
      go_ret
      exact ⟨rfl, HR0.out.kp0 (by first | exact HK2.out | exact HK2.out.drewN _), (by first | exact HK2.out | exact HK2.out.drewN _ : Kp [] _ _).mono (by simp)⟩
    · have hd : decide (v < 0) = false := decide_eq_false hv
      by_cases hz : v = 0 ∧ k = 2
      · have e2 : t.setE k m i v = 1 := by simp [RT.setE, h, hz]
        have e1 : t.setM k m i v = t := by simp [RT.setM, e2]
        rw [e1, e2]
        have HH := hid h
        obtain ⟨rfl, rfl⟩ := hz
        clear h e1 e2 K0 hb R hv hd
        go_enter Try.func14, Try.ntmps14
        go_wp2_with (first
          | (go_at_call 23; refine (r_made HR.out).mono ?_; rintro e w' ⟨rfl, n1, rfl⟩; have hb1 := HB.out.kp (Kp.draw _ n1) (by simp); have d0 := hb1.cell 0; have d1 := hb1.cell 1; have d2 := hb1.cell 2; clear hb1)
          | (go_at_call 39; refine (at_yes (HR.out.drewN _) 2 m i HH.out).mono ?_; rintro e w2 ⟨⟨a, sp, rfl⟩, K2⟩; have hb2 := (HB.out.kp (Kp.draw _ n1) (by simp)).kp K2 (by simp); have f0 := hb2.cell 0; have HK2 := hid ((HK.out.drewN _).chain K2); clear K2 sp hb2))
        repeat (go_quiet (fail); go_wp2)
        go_ret
        exact ⟨rfl, HR0.out.kp0 (by first | exact HK2.out | exact HK2.out.drewN _), (by first | exact HK2.out | exact HK2.out.drewN _ : Kp [] _ _).mono (by simp)⟩
      · have e2 : t.setE k m i v = 0 := by simp only [RT.setE, h, if_true]; rw [if_neg hv, if_neg hz]
        have e1 : t.setM k m i v = t.set k m i v := by simp [RT.setM, e2]
        rw [e1, e2]
        have HH := hid h
        have hz2 : (v == 0) = true → (k == 2) = false := fun h1 => by
          have := beq_iff_eq.1 h1
          exact beq_eq_false_iff_ne.2 fun h2 => hz ⟨this, h2⟩
        have HSPOT : Hid (∀ (W : World) (a : Addr), RR W b t → Spot b t k m i a → Kp [] w W → RR (W.setCell a (.int .i64 v)) b (t.set k m i v) ∧ Kp b.all w (W.setCell a (.int .i64 v))) := fun W a RW sp KW =>
          ⟨sp.set_ W v RW, KW.trans (Kp.cell W a _) (by simp) (fun x hx => .inl (by simp at hx; rw [hx]; exact sp.blk))⟩
        by_cases hv0 : v = 0
        · subst hv0
          have hk2 : (k == 2) = false := hz2 rfl
          clear h e1 e2 K0 hb R hv hz hz2
          go_enter Try.func14, Try.ntmps14
          go_wp2_with (first
            | (go_at_call 23; refine (r_made HR.out).mono ?_; rintro e w' ⟨rfl, n1, rfl⟩; have hb1 := HB.out.kp (Kp.draw _ n1) (by simp); have d0 := hb1.cell 0; have d1 := hb1.cell 1; have d2 := hb1.cell 2; clear hb1)
            | (go_at_call 39; refine (at_yes (HR.out.drewN _) k m i HH.out).mono ?_; rintro e w2 ⟨⟨a, sp, rfl⟩, K2⟩; have hb2 := (HB.out.kp (Kp.draw _ n1) (by simp)).kp K2 (by simp); have f0 := hb2.cell 0; have hca := sp.cell w2 ((HR.out.drewN _).kp0 K2); have hfa := sp.frz w2 ((HR.out.drewN _).kp0 K2); have HSP := hid sp; have HR2 := hid ((HR.out.drewN _).kp0 K2); have HK2 := hid ((HK.out.drewN _).chain K2); clear K2 sp hb2))
          repeat (go_quiet (fail); go_wp2)
          go_ret
          exact ⟨rfl, HSPOT.out _ _ (by first | exact HR2.out | exact HR2.out.drewN _) HSP.out (by first | exact HK2.out | exact HK2.out.drewN _)⟩
        · have hv1 : (v == 0) = false := beq_eq_false_iff_ne.2 hv0
          clear h e1 e2 K0 hb R hv hz hz2 hv0
          go_enter Try.func14, Try.ntmps14
          go_wp2_with (first
            | (go_at_call 23; refine (r_made HR.out).mono ?_; rintro e w' ⟨rfl, n1, rfl⟩; have hb1 := HB.out.kp (Kp.draw _ n1) (by simp); have d0 := hb1.cell 0; have d1 := hb1.cell 1; have d2 := hb1.cell 2; clear hb1)
            | (go_at_call 39; refine (at_yes (HR.out.drewN _) k m i HH.out).mono ?_; rintro e w2 ⟨⟨a, sp, rfl⟩, K2⟩; have hca := sp.cell w2 ((HR.out.drewN _).kp0 K2); have hfa := sp.frz w2 ((HR.out.drewN _).kp0 K2); have HSP := hid sp; have HR2 := hid ((HR.out.drewN _).kp0 K2); have HK2 := hid ((HK.out.drewN _).chain K2); clear K2 sp))
          repeat (go_quiet (fail); go_wp2)
          go_ret
          exact ⟨rfl, HSPOT.out _ _ (by first | exact HR2.out | exact HR2.out.drewN _) HSP.out (by first | exact HK2.out | exact HK2.out.drewN _)⟩
end
end Go.Proofs.Ytnidadhoojbmeaa
