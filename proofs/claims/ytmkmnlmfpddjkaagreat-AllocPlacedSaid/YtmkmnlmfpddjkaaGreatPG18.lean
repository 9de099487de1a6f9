/-
  The law's Play, act by act. Conditions: those that stand in each theorem.
-/
import Derived.BigQuiet
import Derived.Deep.RegionHeld3
import Derived.Test.YtmkmnlmfpddjkaaGreatPG15
import Derived.Test.YtmkmnlmfpddjkaaGreatPDx
import Derived.Test.YtmkmnlmfpddjkaaGreatPG17
import Derived.Test.YtmkmnlmfpddjkaaGreatPGE
import Derived.Test.YtmkmnlmfpddjkaaGreatPG7
import Derived.Test.YtmkmnlmfpddjkaaGreatPG6
import Derived.Test.YtmkmnlmfpddjkaaGreatPG9
import Derived.Test.YtmkmnlmfpddjkaaGreatPG12
import Derived.Test.YtmkmnlmfpddjkaaGreatPG10
import Derived.Test.YtmkmnlmfpddjkaaGreatPG16
import Derived.Test.YtmkmnlmfpddjkaaGreatPG8
namespace Go.Proofs.YtmkmnlmfpddjkaaGreat
set_option linter.unusedVariables false
set_option linter.unusedSimpArgs false
open Go.RowKit Go.Deep Go.Maps

section
variable {w w' w0 w1 w2 : World} {b : HB} {d : DB} {m m' : HM} {q p q1 p1 : Nat}
end
end Go.Proofs.YtmkmnlmfpddjkaaGreat
/-
  The law's Play: Place, Forget, the others. Conditions: those that stand in each theorem.
-/
namespace Go.Proofs.YtmkmnlmfpddjkaaGreat
set_option linter.unusedVariables false
set_option linter.unusedSimpArgs false
open Go.RowKit Go.Deep Go.Maps

section
variable {w w' w0 w1 w2 : World} {b : HB} {d : DB} {m m' : HM} {q p q1 p1 : Nat}
end
end Go.Proofs.YtmkmnlmfpddjkaaGreat
/-
  The law's acts on the model. Conditions: those that stand in each theorem.
-/
namespace Go.Proofs.YtmkmnlmfpddjkaaGreat
set_option linter.unusedVariables false
set_option linter.unusedSimpArgs false
open Go.RowKit Go.Deep Go.Maps

section
variable {w w' : World} {b : HB} {d : DB} {m m' : HM} {q p : Nat}
theorem Tl.bl (t : m.Tl) (h : m'.bl = m.bl) : m'.Tl := fun j hj => by
  unfold HM.st at hj ⊢
  rw [h] at hj ⊢
  exact t j hj
theorem Tl.claim (t : m.Tl) (x n s : Int) {st : Nat} (hst : st = 2 ∨ (st = 1 ∧ n = 1)) : (m.claimM x n s st).Tl := by
  unfold HM.claimM
  split
  · rename_i he
    unfold HM.claimE at he
    split at he
    · rename_i ok
      unfold claimOk at ok
      simp only [Bool.and_eq_true] at ok
      obtain ⟨⟨h1, h2⟩, _⟩ := ok
      have h1 := of_decide_eq_true h1
      have h2 := of_decide_eq_true h2
      unfold takenE at he
      split at he
      · rename_i hf
        have hf := freeB_true.1 hf
        have G := fun j => claimL_get (bl := m.bl) (b := x.toNat) (n := n.toNat) (s := s.toNat) (st := st) (by omega) (by omega) j
        intro j hj
        unfold HM.st at hj ⊢
        have hj : ((claimL m.bl x.toNat n.toNat s.toNat st).getD (j + 1) (0, 0)).1 = 3 := hj
        show ((claimL m.bl x.toNat n.toNat s.toNat st).getD j (0, 0)).1 = 2 ∨ ((claimL m.bl x.toNat n.toNat s.toNat st).getD j (0, 0)).1 = 3
        rw [G] at hj ⊢
        by_cases c1 : j + 1 = x.toNat
        · rw [if_pos c1] at hj
          have hj : st = 3 := hj
          omega
        · rw [if_neg c1] at hj
          by_cases c2 : x.toNat ≤ j + 1 ∧ j + 1 < x.toNat + n.toNat
          · by_cases c3 : j = x.toNat
            · rw [if_pos c3]
              show st = 2 ∨ st = 3
              omega
            · rw [if_neg c3, if_pos (by omega)]
              exact .inr rfl
          · rw [if_neg c2] at hj
            have h0 := t j hj
            by_cases c4 : x.toNat ≤ j ∧ j < x.toNat + n.toNat
            · have := hf (j - x.toNat) (by omega)
              rw [show x.toNat + (j - x.toNat) = j by omega] at this
              omega
            · rw [if_neg (by omega), if_neg c4]
              exact h0
      · exact absurd he (by decide)
    · exact absurd he (by decide)
  · exact t
theorem Tl.release (t : m.Tl) (i : Int) : (m.releaseM i).Tl := by
  unfold HM.releaseM
  split
  · rename_i he
    unfold HM.releaseE at he
    split at he
    · rename_i hb
      have hb := of_decide_eq_true hb
      obtain ⟨e1, e2, e3, e4⟩ := (grpEnd_iff m.bl i.toNat (grpEnd m.bl i.toNat) (by omega)).1 rfl
      have G := fun j => rangeL_get m.bl i.toNat (0, 0) (grpEnd m.bl i.toNat - i.toNat) j (by omega)
      intro j hj
      unfold HM.st at hj ⊢
      have hj : ((rangeL m.bl i.toNat (0, 0) (grpEnd m.bl i.toNat - i.toNat)).getD (j + 1) (0, 0)).1 = 3 := hj
      show ((rangeL m.bl i.toNat (0, 0) (grpEnd m.bl i.toNat - i.toNat)).getD j (0, 0)).1 = 2 ∨ ((rangeL m.bl i.toNat (0, 0) (grpEnd m.bl i.toNat - i.toNat)).getD j (0, 0)).1 = 3
      rw [G] at hj ⊢
      by_cases c : i.toNat ≤ j + 1 ∧ j + 1 < i.toNat + (grpEnd m.bl i.toNat - i.toNat)
      · rw [if_pos c] at hj
        exact absurd hj (by decide)
      · rw [if_neg c] at hj
        have h0 := t j hj
        by_cases c2 : i.toNat ≤ j ∧ j < i.toNat + (grpEnd m.bl i.toNat - i.toNat)
        · have hje : j + 1 = grpEnd m.bl i.toNat := by omega
          rw [hje] at hj
          rcases Nat.lt_or_ge (grpEnd m.bl i.toNat) m.bl.length with h | h
          · exact absurd hj (e4 h)
          · rw [List.getD_eq_getElem?_getD, List.getElem?_eq_none h] at hj
            exact absurd hj (by decide)
        · rw [if_neg c2]
          exact h0
    · exact absurd he (by decide)
  · exact t
theorem Tl.retag (t : m.Tl) (i s : Int) : (m.retagM i s).Tl := by
  unfold HM.retagM
  split
  · rename_i he
    unfold HM.retagE at he
    split at he
    · rename_i hb
      have hb := of_decide_eq_true hb
      obtain ⟨e1, e2, e3, e4⟩ := (grpEnd_iff m.bl i.toNat (grpEnd m.bl i.toNat) (by omega)).1 rfl
      have G : ∀ j, ((spaceL m.bl i.toNat s.toNat (grpEnd m.bl i.toNat - i.toNat)).getD j (0, 0)).1 = (m.bl.getD j (0, 0)).1 := fun j => by
        rw [spaceL_get m.bl i.toNat s.toNat (grpEnd m.bl i.toNat - i.toNat) j (by omega)]
        split <;> rfl
      intro j hj
      unfold HM.st at hj ⊢
      have hj : ((spaceL m.bl i.toNat s.toNat (grpEnd m.bl i.toNat - i.toNat)).getD (j + 1) (0, 0)).1 = 3 := hj
      show ((spaceL m.bl i.toNat s.toNat (grpEnd m.bl i.toNat - i.toNat)).getD j (0, 0)).1 = 2 ∨ ((spaceL m.bl i.toNat s.toNat (grpEnd m.bl i.toNat - i.toNat)).getD j (0, 0)).1 = 3
      rw [G] at hj ⊢
      exact t j hj
    · exact absurd he (by decide)
  · exact t
theorem Tl.place (t : m.Tl) (a x dd k : Int) : (m.placeM a x dd k).Tl := Tl.bl t (by unfold HM.placeM; split <;> rfl)
theorem Tl.kill (t : m.Tl) (a : Int) : (m.killM a).Tl := Tl.bl t (by unfold HM.killM; split <;> rfl)
theorem Tl.pin (t : m.Tl) (a : Int) (z : Bool) : (m.pinM a z).Tl := Tl.bl t (by unfold HM.pinM; split <;> first | rfl | (split <;> rfl))
theorem Tl.new (n : Nat) : (HM.new n).Tl := fun j hj => by
  unfold HM.st at hj
  have hj : ((List.replicate n ((0, 0) : Nat × Nat)).getD (j + 1) (0, 0)).1 = 3 := hj
  rw [bl_zero] at hj
  exact absurd hj (by decide)
end
end Go.Proofs.YtmkmnlmfpddjkaaGreat
/-
  The contracts of package heap's Ident and Shape at any address. Conditions: those that stand in each theorem.
-/
namespace Go.Proofs.YtmkmnlmfpddjkaaGreat
set_option linter.unusedVariables false
set_option linter.unusedSimpArgs false
open Go.RowKit Go.Deep Go.Maps

section
variable {w w' : World} {b : HB} {r : RM} {m : HM} {q : Nat}
theorem h_ident_ob (h : SH w b q m) {a : Nat} {o : Ob} (ho : m.ob a = some o) :
    Calls Tryz.prog 34 #[.pointer (some ⟨b.g, 0, none⟩), .int .i64 (a : Int)] w fun e w' => e = .returned (.tuple #[.int .i64 (o.id : Int), .int .i64 0]) ∧ ∃ n, w' = w.drewN n := by
  have h0 := h
  obtain ⟨r, R, A, _⟩ := h
  have hhi := A.inv.hi ho
  have hw := (A.inv.ok _ _ ho).wd_bd
  have hwl := A.wl R
  have hnb := A.inv.n_bd
  have hc1 := R.c1
  have hx := R.word (k := a) (by omega)
  rw [A.w0 ho] at hx
  have hal : (a : Int) < (r.ws.length : Int) := by omega
  have HE : Hid (m.lackE (a : Int) = 0) := by show _ = _; simp [HM.lackE, has_of ho]
  have HW : Hid (W64 (a : Int)) := ⟨by omega, by omega⟩
  clear A ho hw
  go_enter Tryz.func34, Tryz.ntmps34
  go_wp2_with (go_at_call 112; refine (h_check h0 _ HW.out).mono ?_; rintro e w' ⟨rfl, n1, rfl⟩; rw [HE.out])
  go_ret2
  exact ⟨rfl, _, rfl⟩
theorem h_ident_a (h : SH w b q m) (a : Int) (ha : W64 a) :
    Calls Tryz.prog 34 #[.pointer (some ⟨b.g, 0, none⟩), .int .i64 a] w fun e w' => e = .returned (.tuple #[.int .i64 (m.identV a), .int .i64 (m.lackE a)]) ∧ ∃ n, w' = w.drewN n := by
  rcases hb : m.has a
  · have e1 : m.identV a = 0 := by simp [HM.identV, hb]
    have e2 : m.lackE a = 4 := by simp [HM.lackE, hb]
    have HE := hid e2
    have HW := hid ha
    rw [e1, e2]
    clear hb e1 e2
    go_enter Tryz.func34, Tryz.ntmps34
    go_wp2_with (go_at_call 112; refine (h_check h _ HW.out).mono ?_; rintro e w' ⟨rfl, n1, rfl⟩; rw [HE.out])
    go_ret2
    exact ⟨rfl, _, rfl⟩
  · obtain ⟨k, o, rfl, ho⟩ := has_nat hb
    have e1 : m.identV (k : Int) = (o.id : Int) := by simp [HM.identV, hb, ho]
    have e2 : m.lackE (k : Int) = 0 := by simp [HM.lackE, hb]
    rw [e1, e2]
    exact h_ident_ob h ho
theorem h_shape_a (h : SH w b q m) (a : Int) (ha : W64 a) :
    Calls Tryz.prog 35 #[.pointer (some ⟨b.g, 0, none⟩), .int .i64 a] w fun e w' => e = .returned (.tuple #[.agg #[.int .i64 (m.shR a), .int .i64 (m.shD a), .int .i64 (m.shK a)], .int .i64 (m.lackE a)]) ∧ Kp [] w w' := by
  rcases hb : m.has a
  · have e1 : m.shR a = 0 := by simp [HM.shR, hb]
    have e2 : m.shD a = 0 := by simp [HM.shD, hb]
    have e3 : m.shK a = 0 := by simp [HM.shK, hb]
    have e4 : m.lackE a = 4 := by simp [HM.lackE, hb]
    have HE := hid e4
    have HW := hid ha
    rw [e1, e2, e3, e4]
    have K0 := hid (Kp.new w (.cells #[.int .i64 0, .int .i64 0, .int .i64 0] 33))
    have B0 := hid (Blk.new w 33 #[.int .i64 0, .int .i64 0, .int .i64 0])
    clear hb e1 e2 e3 e4
    go_enter Tryz.func35, Tryz.ntmps35
    go_wp2_with (go_at_call 112; refine (h_check (h.kp0 K0.out) _ HW.out).mono ?_; rintro e w2 ⟨rfl, h2⟩; rw [HE.out]; have K2 := Kp.of_drewN h2; have HK := hid (K0.out.chain K2); have B2 := B0.out.kp K2 (by simp); have c0 := B2.cell 0; have c1 := B2.cell 1; have c2 := B2.cell 2; have f0 := B2.frozen 0; have f1 := B2.frozen 1; have f2 := B2.frozen 2; have HB2 := hid B2; clear B2 K2 h2)
    have hB9 := ((HB2.out.set_ 0 (.int .i64 0)).set_ 1 (.int .i64 0)).set_ 2 (.int .i64 0)
    have hK9 : Kp [] w (((w2.setCell ⟨w.heap.size, 0, none⟩ (.int .i64 0)).setCell ⟨w.heap.size, 1, none⟩ (.int .i64 0)).setCell ⟨w.heap.size, 2, none⟩ (.int .i64 0)) :=
      (((HK.out.trans (Kp.cell _ ⟨w.heap.size, 0, none⟩ _) (U := []) (by simp) (by simp)).trans (Kp.cell _ ⟨w.heap.size, 1, none⟩ _) (U := []) (by simp) (by simp)).trans (Kp.cell _ ⟨w.heap.size, 2, none⟩ _) (U := []) (by simp) (by simp))
    generalize (((w2.setCell ⟨w.heap.size, 0, none⟩ (.int .i64 0)).setCell ⟨w.heap.size, 1, none⟩ (.int .i64 0)).setCell ⟨w.heap.size, 2, none⟩ (.int .i64 0)) = W9 at hB9 hK9 ⊢
    have q0 : W9.cell? ⟨w.heap.size, 0, none⟩ = some (.int .i64 0) := hB9.cell 0
    have q1 : W9.cell? ⟨w.heap.size, 1, none⟩ = some (.int .i64 0) := hB9.cell 1
    have q2 : W9.cell? ⟨w.heap.size, 2, none⟩ = some (.int .i64 0) := hB9.cell 2
    refine bodyPost_ret (v := .tuple #[.agg #[.int .i64 0, .int .i64 0, .int .i64 0], .int .i64 4]) ?_ rfl ⟨rfl, hK9⟩
    simp [results, Tryz.results35, q0, q1, q2, go_sem]
  · obtain ⟨k, o, rfl, ho⟩ := has_nat hb
    have e1 : m.shR (k : Int) = (o.refs : Int) := by simp [HM.shR, hb, ho]
    have e2 : m.shD (k : Int) = (o.data : Int) := by simp [HM.shD, hb, ho]
    have e3 : m.shK (k : Int) = (o.kind : Int) := by simp [HM.shK, hb, ho]
    have e4 : m.lackE (k : Int) = 0 := by simp [HM.lackE, hb]
    rw [e1, e2, e3, e4]
    exact h_shape_ob h ho
end
end Go.Proofs.YtmkmnlmfpddjkaaGreat
/-
  The law's Looks. Conditions: those that stand in each theorem.
-/
namespace Go.Proofs.YtmkmnlmfpddjkaaGreat
set_option linter.unusedVariables false
set_option linter.unusedSimpArgs false
open Go.RowKit Go.Deep Go.Maps

section
variable {w w' W : World} {b : HB} {d : DB} {m : HM} {q p : Nat}
end
end Go.Proofs.YtmkmnlmfpddjkaaGreat
