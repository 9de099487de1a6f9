/-
  The contracts of package model's shape, refs, data, at. Conditions: those that stand in each theorem.
-/
import Derived.Test.YtbiompmklijgoaaDoorPVa
import Derived.Shelf.SlicesG.Clone
import Derived.Shelf.Slices.Empties
import Derived.Shelf.SlicesG.Delete
import Derived.Lib.AppendZerosOnto
namespace Go.Proofs.YtbiompmklijgoaaDoor
set_option linter.unusedVariables false
set_option linter.unusedSimpArgs false
open Go.RowKit Go.Deep Go.Maps

/-- Some of the words, as a slice. -/
def VS (wv : Value) (f r : Nat) (v : Value) : Prop := ∃ A c, v = .slice A r c ∧ r ≤ c ∧ c ≤ maxLen ∧ (0 < r → ∃ g n cw, wv = .slice (some ⟨g, 0, none⟩) n cw ∧ A = some ⟨g, f, none⟩)
def OB.shv (o : OB) : Value := .agg #[.int .i64 (o.r : Int), .int .i64 (o.d : Int), .int .i64 (o.k : Int)]
section
variable {w w' W : World} {b : MB} {t : MT}
theorem MT.has_nat {x : Int} (h : t.has x = true) : ∃ i : Nat, x = (i : Int) + 1 ∧ i < t.ob.length ∧ t.obj x = t.ob.getD i OB.zero := by
  have h1 := of_decide_eq_true h
  refine ⟨(x - 1).toNat, by omega, by omega, ?_⟩
  unfold MT.obj
  rw [show x.toNat - 1 = (x - 1).toNat by omega]
set_option maxRecDepth 100000 in
set_option maxHeartbeats 1000000 in
theorem m_shape (R : MR w b t) {x : Int} (hx : t.has x = true) :
    Calls Tryd.prog 68 #[.pointer (some ⟨b.g, 0, none⟩), .int .i64 x] w fun e w' => e = .returned (t.obj x).shv ∧ Kp [] w w' := by
  obtain ⟨i, rfl, hi, ho⟩ := MT.has_nat hx
  rw [ho]
  have R1 := R.kp0 (Kp.new w (.cells #[.int .i64 0, .int .i64 0, .int .i64 0] 33))
  obtain ⟨g, c, hv, hcm, c0, c1, c2, c3⟩ := R1.obc hi
  have hc := R1.c18
  rw [hv] at hc
  have hsm := R.ok.small.1
  generalize t.ob.getD i OB.zero = o at c0 c1 c2 c3 ⊢
  unfold maxLen at hcm
  have q1 : (i : Int) < (t.ob.length : Int) := by omega
  clear R R1 hv ho hx
  go_enter Tryd.func68, Tryd.ntmps68
  go_wp2
  refine bodyPost_ret (v := o.shv) ?_ rfl ⟨rfl, Kp.new _ _⟩
  unfold OB.shv
  simp [results, Tryd.results68, go_sem]
set_option maxRecDepth 100000 in
set_option maxHeartbeats 4000000 in
theorem m_refs (R : MR w b t) {x : Int} (hx : t.has x = true) :
    Calls Tryd.prog 70 #[.pointer (some ⟨b.g, 0, none⟩), .int .i64 x] w fun e w' => ∃ v, e = .returned v ∧ VS b.wv (t.obj x).f (t.obj x).r v ∧ Kp [] w w' := by
  obtain ⟨i, rfl, hi, ho⟩ := MT.has_nat hx
  rw [ho]
  obtain ⟨g, c, hv, hcm, c0, c1, c2, c3⟩ := R.obc hi
  have hc := R.c18
  rw [hv] at hc
  have hsm := R.ok.small.1
  have hsm2 := R.ok.small.2
  have hfit := R.ok.fit i hi
  generalize t.ob.getD i OB.zero = o at c0 c1 c2 c3 hfit ⊢
  obtain ⟨r, d, k, f⟩ := o
  simp only at c0 c1 c2 c3 hfit ⊢
  unfold maxLen at hcm
  have q1 : (i : Int) < (t.ob.length : Int) := by omega
  have K0 := Kp.new w (.cells #[.int .i64 (r : Int), .int .i64 (d : Int), .int .i64 (k : Int), .int .i64 (f : Int)] 84)
  have hc19 := (R.kp0 K0).c19
  have hb := Blk.new w 84 #[.int .i64 (r : Int), .int .i64 (d : Int), .int .i64 (k : Int), .int .i64 (f : Int)]
  have b0 := hb.cell 0
  have b1 := hb.cell 1
  have b3 := hb.cell 3
  have HK := hid K0
  rcases R.D.2 with ⟨hw, hw0⟩ | ⟨gw, cw, cur, hw, _, _, h1, h2, _⟩
  · obtain rfl : f = 0 := by omega
    obtain rfl : r = 0 := by omega
    obtain rfl : d = 0 := by omega
    rw [hw] at hc19
    have hz0 : ((0 : Nat) : Int) = 0 := rfl
    rw [hz0] at c0 c1 c3
    have hb := Blk.new w 84 #[.int .i64 0, .int .i64 0, .int .i64 (k : Int), .int .i64 0]
    have b0 := hb.cell 0
    have b1 := hb.cell 1
    have b3 := hb.cell 3
    have hc19 := (R.kp0 (Kp.new w (.cells #[.int .i64 0, .int .i64 0, .int .i64 (k : Int), .int .i64 0] 84))).c19
    rw [hw] at hc19
    have HK := hid (Kp.new w (.cells #[.int .i64 0, .int .i64 0, .int .i64 (k : Int), .int .i64 0] 84))
    have HFIN : Hid (VS b.wv 0 0 (.slice none 0 0)) := ⟨none, 0, rfl, Nat.le_refl _, Nat.zero_le _, fun h => by omega⟩
    clear R hv ho hx K0 hw hfit hz0
    go_enter Tryd.func70, Tryd.ntmps70
    go_wp2
    go_quiet (fail)
    go_wp2
    go_ret
    exact ⟨_, rfl, HFIN.out, HK.out.drewN _⟩
  · rw [hw] at hc19
    unfold maxLen at h2
    have q2 : (0 : Int) ≤ (f : Int) := by omega
    have q7 : (0 : Int) ≤ (f : Int) := by omega
    have q3 : (f : Int) + (r : Int) ≤ (cw : Int) := by omega
    have q4 : (f : Int) ≤ (f : Int) + (r : Int) := by omega
    have q5 : f + r ≤ cw := by omega
    by_cases hcap : cw = f
    · obtain rfl : r = 0 := by omega
      have hz0 : ((0 : Nat) : Int) = 0 := rfl
      rw [hz0] at c0
      have hb := Blk.new w 84 #[.int .i64 0, .int .i64 (d : Int), .int .i64 (k : Int), .int .i64 (f : Int)]
      have b0 := hb.cell 0
      have b1 := hb.cell 1
      have b3 := hb.cell 3
      have hc19 := (R.kp0 (Kp.new w (.cells #[.int .i64 0, .int .i64 (d : Int), .int .i64 (k : Int), .int .i64 (f : Int)] 84))).c19
      rw [hw] at hc19
      have HK := hid (Kp.new w (.cells #[.int .i64 0, .int .i64 (d : Int), .int .i64 (k : Int), .int .i64 (f : Int)] 84))
      have HFIN : Hid (∀ c, c ≤ maxLen → VS b.wv (f) 0 (.slice (some ⟨gw, 0, none⟩) 0 c)) := fun c hc => ⟨_, _, rfl, by omega, hc, fun h => by omega⟩
      have hcap2 : (cw : Int) = (f : Int) := by omega
      subst hcap
      clear R hv ho hx K0 hw hcap2 hz0
      go_enter Tryd.func70, Tryd.ntmps70
      go_wp2
      go_quiet (fail)
      go_wp2
      go_ret
      exact ⟨_, rfl, by first | exact HFIN.out _ (by unfold maxLen; omega) | (simp; exact HFIN.out _ (by unfold maxLen; omega)), HK.out.drewN _⟩
    · have HFIN : Hid (VS b.wv (f) r (.slice (some ⟨gw, f, none⟩) (f + r - (f)) (cw - (f)))) := ⟨_, _, by rw [Nat.add_sub_cancel_left], by omega, by unfold maxLen; omega, fun h => ⟨gw, _, cw, hw, rfl⟩⟩
      have hcap2 : ¬ (cw : Int) = (f : Int) := by omega
      clear R hv ho hx K0 hb hw
      go_enter Tryd.func70, Tryd.ntmps70
      go_wp2
      go_quiet (fail)
      go_wp2
      go_ret
      exact ⟨_, rfl, HFIN.out, HK.out.drewN _⟩
set_option maxRecDepth 100000 in
set_option maxHeartbeats 4000000 in
theorem m_data (R : MR w b t) {x : Int} (hx : t.has x = true) :
    Calls Tryd.prog 80 #[.pointer (some ⟨b.g, 0, none⟩), .int .i64 x] w fun e w' => ∃ v, e = .returned v ∧ VS b.wv ((t.obj x).f + (t.obj x).r) (t.obj x).d v ∧ Kp [] w w' := by
  obtain ⟨i, rfl, hi, ho⟩ := MT.has_nat hx
  rw [ho]
  obtain ⟨g, c, hv, hcm, c0, c1, c2, c3⟩ := R.obc hi
  have hc := R.c18
  rw [hv] at hc
  have hsm := R.ok.small.1
  have hsm2 := R.ok.small.2
  have hfit := R.ok.fit i hi
  generalize t.ob.getD i OB.zero = o at c0 c1 c2 c3 hfit ⊢
  obtain ⟨r, d, k, f⟩ := o
  simp only at c0 c1 c2 c3 hfit ⊢
  unfold maxLen at hcm
  have q1 : (i : Int) < (t.ob.length : Int) := by omega
  have K0 := Kp.new w (.cells #[.int .i64 (r : Int), .int .i64 (d : Int), .int .i64 (k : Int), .int .i64 (f : Int)] 84)
  have hc19 := (R.kp0 K0).c19
  have hb := Blk.new w 84 #[.int .i64 (r : Int), .int .i64 (d : Int), .int .i64 (k : Int), .int .i64 (f : Int)]
  have b0 := hb.cell 0
  have b1 := hb.cell 1
  have b3 := hb.cell 3
  have HK := hid K0
  rcases R.D.2 with ⟨hw, hw0⟩ | ⟨gw, cw, cur, hw, _, _, h1, h2, _⟩
  · obtain rfl : f = 0 := by omega
    obtain rfl : r = 0 := by omega
    obtain rfl : d = 0 := by omega
    rw [hw] at hc19
    have hz0 : ((0 : Nat) : Int) = 0 := rfl
    rw [hz0] at c0 c1 c3
    have hb := Blk.new w 84 #[.int .i64 0, .int .i64 0, .int .i64 (k : Int), .int .i64 0]
    have b0 := hb.cell 0
    have b1 := hb.cell 1
    have b3 := hb.cell 3
    have hc19 := (R.kp0 (Kp.new w (.cells #[.int .i64 0, .int .i64 0, .int .i64 (k : Int), .int .i64 0] 84))).c19
    rw [hw] at hc19
    have HK := hid (Kp.new w (.cells #[.int .i64 0, .int .i64 0, .int .i64 (k : Int), .int .i64 0] 84))
    have HFIN : Hid (VS b.wv 0 0 (.slice none 0 0)) := ⟨none, 0, rfl, Nat.le_refl _, Nat.zero_le _, fun h => by omega⟩
    clear R hv ho hx K0 hw hfit hz0
    go_enter Tryd.func80, Tryd.ntmps80
    go_wp2
    go_quiet (fail)
    go_wp2
    go_ret
    exact ⟨_, rfl, HFIN.out, HK.out.drewN _⟩
  · rw [hw] at hc19
    unfold maxLen at h2
    have q2 : (0 : Int) ≤ (f : Int) := by omega
    have q7 : (0 : Int) ≤ ((f : Int) + (r : Int)) := by omega
    have q3 : ((f : Int) + (r : Int)) + (d : Int) ≤ (cw : Int) := by omega
    have q4 : ((f : Int) + (r : Int)) ≤ ((f : Int) + (r : Int)) + (d : Int) := by omega
    have q5 : f + r + d ≤ cw := by omega
    by_cases hcap : cw = f + r
    · obtain rfl : d = 0 := by omega
      have hz0 : ((0 : Nat) : Int) = 0 := rfl
      rw [hz0] at c1
      have hb := Blk.new w 84 #[.int .i64 (r : Int), .int .i64 0, .int .i64 (k : Int), .int .i64 (f : Int)]
      have b0 := hb.cell 0
      have b1 := hb.cell 1
      have b3 := hb.cell 3
      have hc19 := (R.kp0 (Kp.new w (.cells #[.int .i64 (r : Int), .int .i64 0, .int .i64 (k : Int), .int .i64 (f : Int)] 84))).c19
      rw [hw] at hc19
      have HK := hid (Kp.new w (.cells #[.int .i64 (r : Int), .int .i64 0, .int .i64 (k : Int), .int .i64 (f : Int)] 84))
      have HFIN : Hid (∀ c, c ≤ maxLen → VS b.wv (f + r) 0 (.slice (some ⟨gw, 0, none⟩) 0 c)) := fun c hc => ⟨_, _, rfl, by omega, hc, fun h => by omega⟩
      have hcap2 : (cw : Int) = ((f : Int) + (r : Int)) := by omega
      subst hcap
      clear R hv ho hx K0 hw hcap2 hz0
      go_enter Tryd.func80, Tryd.ntmps80
      go_wp2
      go_quiet (fail)
      go_wp2
      go_ret
      exact ⟨_, rfl, by first | exact HFIN.out _ (by unfold maxLen; omega) | (simp; exact HFIN.out _ (by unfold maxLen; omega)), HK.out.drewN _⟩
    · have HFIN : Hid (VS b.wv (f + r) d (.slice (some ⟨gw, f + r, none⟩) (f + r + d - (f + r)) (cw - (f + r)))) := ⟨_, _, by rw [Nat.add_sub_cancel_left], by omega, by unfold maxLen; omega, fun h => ⟨gw, _, cw, hw, rfl⟩⟩
      have hcap2 : ¬ (cw : Int) = ((f : Int) + (r : Int)) := by omega
      clear R hv ho hx K0 hb hw
      go_enter Tryd.func80, Tryd.ntmps80
      go_wp2
      go_quiet (fail)
      go_wp2
      go_ret
      exact ⟨_, rfl, HFIN.out, HK.out.drewN _⟩
end
end Go.Proofs.YtbiompmklijgoaaDoor
/-
  The contracts of package model's at, Slot, Global, Shape, Ref, Data, Queue. Conditions: those that stand in each theorem.
-/
namespace Go.Proofs.YtbiompmklijgoaaDoor
set_option linter.unusedVariables false
set_option linter.unusedSimpArgs false
open Go.RowKit Go.Deep Go.Maps

shelf_lay_g SlLaysN.n41 Slgn 41 at Tryd 43 as Tryd.cloneL

def MT.sloV (t : MT) (m i : Int) : Int := if t.hasM m && slotB i then t.sl.getD (m.toNat * 16 + i.toNat) 0 else 0
def MT.sloE (t : MT) (m i : Int) : Int := if t.hasM m && slotB i then 0 else 1
def MT.gloV (t : MT) (i : Int) : Int := if slotB i then t.gl.getD i.toNat 0 else 0
def MT.gloE (t : MT) (i : Int) : Int := if slotB i then 0 else 1
def MT.isR (t : MT) (x i : Int) : Bool := decide (0 ≤ i ∧ i < ((t.obj x).r : Int))
def MT.isD (t : MT) (x i : Int) : Bool := decide (0 ≤ i ∧ i < ((t.obj x).d : Int))
def MT.refV (t : MT) (x i : Int) : Int := if t.has x && t.isR x i then t.ws.getD ((t.obj x).f + i.toNat) 0 else 0
def MT.refE (t : MT) (x i : Int) : Int := if t.has x then (if t.isR x i then 0 else 1) else 4
def MT.datV (t : MT) (x i : Int) : Int := if t.has x && t.isD x i then t.ws.getD ((t.obj x).f + (t.obj x).r + i.toNat) 0 else 0
def MT.datE (t : MT) (x i : Int) : Int := if t.has x then (if t.isD x i then 0 else 1) else 4
section
variable {w w' W : World} {b : MB} {t : MT}
theorem m_at_yes (w : World) {g f n c : Nat} {i : Int} (h0 : 0 ≤ i) (hi : i < (n : Int)) (hn : n ≤ maxLen) :
    Calls Tryd.prog 69 #[.slice (some ⟨g, f, none⟩) n c, .int .i64 i] w fun e w' => e = .returned (.pointer (some ⟨g, f + i.toNat, none⟩)) ∧ w = w' := by
  unfold maxLen at hn
  obtain ⟨i, rfl⟩ : ∃ k : Nat, i = (k : Int) := ⟨i.toNat, by omega⟩
  have d0 : decide ((i : Int) < 0) = false := decide_eq_false (by omega)
  have hl : i < n := by omega
  have d1 : decide (n ≤ i) = false := decide_eq_false (by omega)
  go_enter Tryd.func69, Tryd.ntmps69
  go_wp2
  go_ret
  exact ⟨by simp, rfl⟩
theorem m_at_no (w : World) {A : Option Addr} {n c : Nat} {i : Int} (h : ¬ (0 ≤ i ∧ i < (n : Int))) (hn : n ≤ maxLen) :
    Calls Tryd.prog 69 #[.slice A n c, .int .i64 i] w fun e w' => e = .returned (.pointer none) ∧ w = w' := by
  unfold maxLen at hn
  by_cases h0 : i < 0
  · have d0 : decide (i < (0 : Int)) = true := decide_eq_true h0
    clear h
    go_enter Tryd.func69, Tryd.ntmps69
    go_wp2
    go_ret
    exact ⟨rfl, rfl⟩
  · have d0 : decide (i < (0 : Int)) = false := decide_eq_false h0
    have d1 : decide ((n : Int) ≤ i) = true := decide_eq_true (by omega)
    clear h
    go_enter Tryd.func69, Tryd.ntmps69
    go_wp2
    go_ret
    exact ⟨rfl, rfl⟩
set_option maxRecDepth 100000 in
set_option maxHeartbeats 1000000 in
theorem m_slot (R : MR w b t) (m i : Int) :
    Calls Tryd.prog 20 #[.pointer (some ⟨b.g, 0, none⟩), .int .i64 m, .int .i64 i] w fun e w' => e = .returned (.tuple #[.int .i64 (t.sloV m i), .int .i64 (t.sloE m i)]) ∧ Kp [] w w' := by
  have HR := hid R
  rcases hm : t.hasM m
  · rw [show t.sloV m i = 0 by simp [MT.sloV, hm], show t.sloE m i = 1 by simp [MT.sloE, hm]]
    have HM := hid hm
    clear R hm
    go_enter Tryd.func20, Tryd.ntmps20
    go_wp2_with (first
      | (go_at_call 41; refine (m_made HR.out).mono ?_; rintro e w' ⟨rfl, n1, rfl⟩)
      | (go_at_call 59; refine (m_hasMutator (HR.out.drewN n1) m).mono ?_; rw [HM.out]; rintro e w' ⟨rfl, rfl⟩))
    go_ret2
    exact ⟨rfl, Kp.draw _ _⟩
  · rcases hs : slotB i
    · rw [show t.sloV m i = 0 by simp [MT.sloV, hs], show t.sloE m i = 1 by simp [MT.sloE, hs]]
      have HM := hid hm
      have HS := hid hs
      clear R hm hs
      go_enter Tryd.func20, Tryd.ntmps20
      go_wp2_with (first
        | (go_at_call 41; refine (m_made HR.out).mono ?_; rintro e w' ⟨rfl, n1, rfl⟩)
        | (go_at_call 59; refine (m_hasMutator (HR.out.drewN n1) m).mono ?_; rw [HM.out]; rintro e w' ⟨rfl, rfl⟩)
        | (go_at_call 60; refine (m_isSlot _ i).mono ?_; rw [HS.out]; rintro e w' ⟨rfl, rfl⟩))
      go_ret2
      exact ⟨rfl, Kp.draw _ _⟩
    · have h1 := of_decide_eq_true hm
      have h2 := of_decide_eq_true hs
      obtain ⟨m, rfl⟩ : ∃ k : Nat, m = (k : Int) := ⟨m.toNat, by omega⟩
      obtain ⟨i, rfl⟩ : ∃ k : Nat, i = (k : Int) := ⟨i.toNat, by omega⟩
      have hm1 : m < t.n := by omega
      have hi1 : i < 16 := by omega
      rw [show t.sloV (m : Int) (i : Int) = t.sl.getD (m * 16 + i) 0 by simp [MT.sloV, hm, hs], show t.sloE (m : Int) (i : Int) = 0 by simp [MT.sloE, hm, hs]]
      have HM := hid hm
      have HS := hid hs
      obtain ⟨c, hc1, hc2, hc⟩ := R.c0
      unfold maxLen at hc2
      have h4 := R.ok.n4
      have hv := R.cs (i := m * 16 + i) (by omega)
      generalize t.sl.getD (m * 16 + i) 0 = x at hv ⊢
      have q1 : (m : Int) < (t.n : Int) := by omega
      have q2 : (i : Int) < 16 := by omega
      clear R hm hs h1 h2
      go_enter Tryd.func20, Tryd.ntmps20
      go_wp2_with (first
        | (go_at_call 41; refine (m_made HR.out).mono ?_; rintro e w' ⟨rfl, n1, rfl⟩)
        | (go_at_call 59; refine (m_hasMutator (HR.out.drewN n1) (m : Int)).mono ?_; rw [HM.out]; rintro e w' ⟨rfl, rfl⟩)
        | (go_at_call 60; refine (m_isSlot _ (i : Int)).mono ?_; rw [HS.out]; rintro e w' ⟨rfl, rfl⟩))
      go_ret2
      exact ⟨rfl, Kp.draw _ _⟩
set_option maxRecDepth 100000 in
set_option maxHeartbeats 1000000 in
theorem m_global (R : MR w b t) (i : Int) :
    Calls Tryd.prog 21 #[.pointer (some ⟨b.g, 0, none⟩), .int .i64 i] w fun e w' => e = .returned (.tuple #[.int .i64 (t.gloV i), .int .i64 (t.gloE i)]) ∧ Kp [] w w' := by
  have HR := hid R
  by_cases h0 : i < 0
  · have d0 : decide (i < (0 : Int)) = true := decide_eq_true h0
    have hs : slotB i = false := decide_eq_false (by omega)
    rw [show t.gloV i = 0 by simp [MT.gloV, hs], show t.gloE i = 1 by simp [MT.gloE, hs]]
    clear R hs
    go_enter Tryd.func21, Tryd.ntmps21
    go_wp2_with (go_at_call 41; refine (m_made HR.out).mono ?_; rintro e w' ⟨rfl, n1, rfl⟩)
    go_ret2
    exact ⟨rfl, Kp.draw _ _⟩
  · have d0 : decide (i < (0 : Int)) = false := decide_eq_false h0
    by_cases h1 : (16 : Int) ≤ i
    · have d1 : decide ((16 : Int) ≤ i) = true := decide_eq_true h1
      have hs : slotB i = false := decide_eq_false (by omega)
      rw [show t.gloV i = 0 by simp [MT.gloV, hs], show t.gloE i = 1 by simp [MT.gloE, hs]]
      clear R hs
      go_enter Tryd.func21, Tryd.ntmps21
      go_wp2_with (go_at_call 41; refine (m_made HR.out).mono ?_; rintro e w' ⟨rfl, n1, rfl⟩)
      go_ret2
      exact ⟨rfl, Kp.draw _ _⟩
    · have hs : slotB i = true := decide_eq_true (by omega)
      obtain ⟨i, rfl⟩ : ∃ k : Nat, i = (k : Int) := ⟨i.toNat, by omega⟩
      have d1 : decide (16 ≤ i) = false := decide_eq_false (by omega)
      have d2 : decide ((16 : Int) ≤ (i : Int)) = false := decide_eq_false (by omega)
      have hi1 : i < 16 := by omega
      have hv := R.cg hi1
      rw [show t.gloV (i : Int) = t.gl.getD i 0 by simp [MT.gloV, hs], show t.gloE (i : Int) = 0 by simp [MT.gloE, hs]]
      generalize t.gl.getD i 0 = x at hv ⊢
      have q2 : (i : Int) < 16 := by omega
      clear R hs
      go_enter Tryd.func21, Tryd.ntmps21
      go_wp2_with (go_at_call 41; refine (m_made HR.out).mono ?_; rintro e w' ⟨rfl, n1, rfl⟩)
      go_ret2
      exact ⟨rfl, Kp.draw _ _⟩
end
end Go.Proofs.YtbiompmklijgoaaDoor
/-
  The contracts of package model's Shape, Ref, Data, Queue. Conditions: those that stand in each theorem.
-/
namespace Go.Proofs.YtbiompmklijgoaaDoor
set_option linter.unusedVariables false
set_option linter.unusedSimpArgs false
open Go.RowKit Go.Deep Go.Maps

theorem VS.cut {wv v : Value} {f r : Nat} (h : VS wv f r v) : ∃ A c, v = .slice A r c ∧ r ≤ maxLen := by
  obtain ⟨A, c, hv, h1, h2, _⟩ := h
  exact ⟨A, c, hv, Nat.le_trans h1 h2⟩
theorem set3 {w W : World} {g : Nat} {T : TypeId} {p q r : Value} (a b c : Value) (hB : Blk W g T #[p, q, r]) (hk : Kp [] w W) (hg : w.heap.size ≤ g) :
    Blk (((W.setCell ⟨g, 0, none⟩ a).setCell ⟨g, 1, none⟩ b).setCell ⟨g, 2, none⟩ c) g T #[a, b, c] ∧ Kp [] w (((W.setCell ⟨g, 0, none⟩ a).setCell ⟨g, 1, none⟩ b).setCell ⟨g, 2, none⟩ c) := by
  refine ⟨((hB.set_ 0 a).set_ 1 b).set_ 2 c, ?_⟩
  exact (((hk.trans (Kp.cell _ ⟨g, 0, none⟩ _) (U := []) (by simp) (by simp; omega)).trans (Kp.cell _ ⟨g, 1, none⟩ _) (U := []) (by simp) (by simp; omega)).trans (Kp.cell _ ⟨g, 2, none⟩ _) (U := []) (by simp) (by simp; omega))
section
variable {w w' W : World} {b : MB} {t : MT}
def MT.shV (t : MT) (x : Int) : Value := if t.has x then (t.obj x).shv else OB.zero.shv
set_option maxRecDepth 100000 in
set_option maxHeartbeats 2000000 in
theorem m_Shape (R : MR w b t) (x : Int) :
    Calls Tryd.prog 34 #[.pointer (some ⟨b.g, 0, none⟩), .int .i64 x] w fun e w' => e = .returned (.tuple #[t.shV x, .int .i64 (t.chk x)]) ∧ Kp [] w w' := by
  have HR := hid R
  have K0 := hid (Kp.new w (.cells #[.int .i64 0, .int .i64 0, .int .i64 0] 33))
  have B0 := hid (Blk.new w 33 #[.int .i64 0, .int .i64 0, .int .i64 0])
  clear R
  rcases hh : t.has x
  · have HE : Hid (t.chk x = 4) := by show _ = _; simp [MT.chk, hh]
    rw [show t.chk x = 4 from HE.out, show t.shV x = OB.zero.shv by simp [MT.shV, hh]]
    clear hh
    go_enter Tryd.func34, Tryd.ntmps34
    go_wp2_with (go_at_call 67; refine (m_check (HR.out.kp0 K0.out) x).mono ?_; rw [HE.out]; rintro e w' ⟨rfl, n1, rfl⟩)
    obtain ⟨hB9, hK9⟩ := set3 (.int .i64 0) (.int .i64 0) (.int .i64 0) (B0.out.kp (Kp.draw _ n1) (by simp)) (K0.out.drewN n1) (Nat.le_refl _)
    generalize (((((w.alloc (.cells #[.int .i64 0, .int .i64 0, .int .i64 0] 33)).drewN n1).setCell ⟨w.heap.size, 0, none⟩ (.int .i64 0)).setCell ⟨w.heap.size, 1, none⟩ (.int .i64 0)).setCell ⟨w.heap.size, 2, none⟩ (.int .i64 0)) = W9 at hB9 hK9 ⊢
    have q0 := hB9.cell 0
    have q1 := hB9.cell 1
    have q2 := hB9.cell 2
    refine bodyPost_ret (v := .tuple #[OB.zero.shv, .int .i64 4]) ?_ rfl ⟨rfl, hK9⟩
    unfold OB.shv OB.zero
    simp [results, Tryd.results34, q0, q1, q2, go_sem]
  · have HE : Hid (t.chk x = 0) := by show _ = _; simp [MT.chk, hh]
    rw [show t.chk x = 0 from HE.out, show t.shV x = (t.obj x).shv by simp [MT.shV, hh]]
    have HH := hid hh
    have HSH := hid (fun W (R : MR W b t) => m_shape R hh)
    clear hh
    generalize t.obj x = o at HSH ⊢
    obtain ⟨r, d, k, f⟩ := o
    go_enter Tryd.func34, Tryd.ntmps34
    go_wp2_with (go_at_call 67; refine (m_check (HR.out.kp0 K0.out) x).mono ?_; rw [HE.out]; rintro e w' ⟨rfl, n1, rfl⟩)
    refine (HSH.out _ ((HR.out.kp0 K0.out).drewN n1)).mono ?_
    rintro e w2 ⟨rfl, K2⟩
    have hK2 := K0.out.chain (Kp.from_drewN K2)
    have hB2 := B0.out.kp (Kp.from_drewN K2) (by simp)
    have c0 := hB2.cell 0
    have c1 := hB2.cell 1
    have c2 := hB2.cell 2
    have f0 := hB2.frozen 0
    have f1 := hB2.frozen 1
    have f2 := hB2.frozen 2
    have HB2 := hid hB2
    have HK2 := hid hK2
    unfold OB.shv
    clear K2 hK2 hB2
    go_wp2
    obtain ⟨hB9, hK9⟩ := set3 (.int .i64 (r : Int)) (.int .i64 (d : Int)) (.int .i64 (k : Int)) HB2.out HK2.out (Nat.le_refl _)
    generalize ((w2.setCell ⟨w.heap.size, 0, none⟩ (.int .i64 (r : Int))).setCell ⟨w.heap.size, 1, none⟩ (.int .i64 (d : Int))).setCell ⟨w.heap.size, 2, none⟩ (.int .i64 (k : Int)) = W9 at hB9 hK9 ⊢
    have q0 := hB9.cell 0
    have q1 := hB9.cell 1
    have q2 := hB9.cell 2
    refine bodyPost_ret (v := .tuple #[.agg #[.int .i64 (r : Int), .int .i64 (d : Int), .int .i64 (k : Int)], .int .i64 0]) ?_ rfl ⟨rfl, hK9⟩
    simp [results, Tryd.results34, q0, q1, q2, go_sem]
set_option maxRecDepth 100000 in
set_option maxHeartbeats 2000000 in
theorem m_Ref (R : MR w b t) (x i : Int) :
    Calls Tryd.prog 35 #[.pointer (some ⟨b.g, 0, none⟩), .int .i64 x, .int .i64 i] w fun e w' => e = .returned (.tuple #[.int .i64 (t.refV x i), .int .i64 (t.refE x i)]) ∧ Kp [] w w' := by
  have HR := hid R
  rcases hh : t.has x
  · have HE : Hid (t.chk x = 4) := by show _ = _; simp [MT.chk, hh]
    rw [show t.refV x i = 0 by simp [MT.refV, hh], show t.refE x i = 4 by simp [MT.refE, hh]]
    clear hh R
    go_enter Tryd.func35, Tryd.ntmps35
    go_wp2_with (go_at_call 67; refine (m_check HR.out x).mono ?_; rw [HE.out]; rintro e w' ⟨rfl, n1, rfl⟩)
    go_ret2
    exact ⟨rfl, Kp.draw _ _⟩
  · have HE : Hid (t.chk x = 0) := by show _ = _; simp [MT.chk, hh]
    have HH := hid hh
    rcases hi : t.isR x i
    · rw [show t.refV x i = 0 by simp [MT.refV, hi], show t.refE x i = 1 by simp [MT.refE, hh, hi]]
      have HI := hid (of_decide_eq_false hi)
      clear hh hi R
      go_enter Tryd.func35, Tryd.ntmps35
      go_wp2_with (go_at_call 67; refine (m_check HR.out x).mono ?_; rw [HE.out]; rintro e w' ⟨rfl, n1, rfl⟩)
      refine (m_refs (HR.out.drewN n1) HH.out).mono ?_
      rintro e w2 ⟨v, rfl, hv, K2⟩
      obtain ⟨A, c, rfl, hm⟩ := hv.cut
      have HM := hid hm
      have HK2 := hid (Kp.from_drewN K2)
      clear hv hm K2
      go_wp2_with (fail)
      refine (m_at_no w2 HI.out HM.out).mono ?_
      rintro e w3 ⟨rfl, rfl⟩
      go_wp2
      go_ret2
      exact ⟨rfl, HK2.out⟩
    · have h1 := of_decide_eq_true hi
      obtain ⟨k, hk, hko, hob⟩ := MT.has_nat hh
      have hfit := R.ok.fit k hko
      rw [← hob] at hfit
      rw [show t.refV x i = t.ws.getD ((t.obj x).f + i.toNat) 0 by simp [MT.refV, hh, hi], show t.refE x i = 0 by simp [MT.refE, hh, hi]]
      have H1 := hid h1
      obtain ⟨g0, cw, hwv, hcell⟩ := R.dat (i := (t.obj x).f + i.toNat) (by omega)
      have HC := hid hcell
      have HW := hid hwv
      have hpos : 0 < (t.obj x).r := by omega
      have HP := hid hpos
      clear hh hi R h1 hk hko hob hfit hwv hcell hpos
      generalize t.ws.getD ((t.obj x).f + i.toNat) 0 = y at HC ⊢
      go_enter Tryd.func35, Tryd.ntmps35
      go_wp2_with (go_at_call 67; refine (m_check HR.out x).mono ?_; rw [HE.out]; rintro e w' ⟨rfl, n1, rfl⟩)
      refine (m_refs (HR.out.drewN n1) HH.out).mono ?_
      rintro e w2 ⟨v, rfl, ⟨A, c, hv, hm1, hm2, hA⟩, K2⟩
      obtain ⟨g1, n2, c2, hw2, hA2⟩ := hA HP.out
      subst hv hA2
      have hg : g1 = g0 := by
        have := HW.out
        rw [hw2] at this
        injection this with this
        injection this with this
        injection this
      subst hg
      have HM := hid (Nat.le_trans hm1 hm2)
      have HK2 := hid (Kp.from_drewN K2)
      have hc2 := cell_kp HK2.out HC.out
      clear hw2 hm1 hm2 K2 hA
      go_wp2_with (fail)
      refine (m_at_yes w2 H1.out.1 H1.out.2 HM.out).mono ?_
      rintro e w3 ⟨rfl, rfl⟩
      go_wp2
      go_ret2
      exact ⟨rfl, HK2.out⟩
set_option maxRecDepth 100000 in
set_option maxHeartbeats 2000000 in
theorem m_Data (R : MR w b t) (x i : Int) :
    Calls Tryd.prog 63 #[.pointer (some ⟨b.g, 0, none⟩), .int .i64 x, .int .i64 i] w fun e w' => e = .returned (.tuple #[.int .i64 (t.datV x i), .int .i64 (t.datE x i)]) ∧ Kp [] w w' := by
  have HR := hid R
  rcases hh : t.has x
  · have HE : Hid (t.chk x = 4) := by show _ = _; simp [MT.chk, hh]
    rw [show t.datV x i = 0 by simp [MT.datV, hh], show t.datE x i = 4 by simp [MT.datE, hh]]
    clear hh R
    go_enter Tryd.func63, Tryd.ntmps63
    go_wp2_with (go_at_call 67; refine (m_check HR.out x).mono ?_; rw [HE.out]; rintro e w' ⟨rfl, n1, rfl⟩)
    go_ret2
    exact ⟨rfl, Kp.draw _ _⟩
  · have HE : Hid (t.chk x = 0) := by show _ = _; simp [MT.chk, hh]
    have HH := hid hh
    rcases hi : t.isD x i
    · rw [show t.datV x i = 0 by simp [MT.datV, hi], show t.datE x i = 1 by simp [MT.datE, hh, hi]]
      have HI := hid (of_decide_eq_false hi)
      clear hh hi R
      go_enter Tryd.func63, Tryd.ntmps63
      go_wp2_with (go_at_call 67; refine (m_check HR.out x).mono ?_; rw [HE.out]; rintro e w' ⟨rfl, n1, rfl⟩)
      refine (m_data (HR.out.drewN n1) HH.out).mono ?_
      rintro e w2 ⟨v, rfl, hv, K2⟩
      obtain ⟨A, c, rfl, hm⟩ := hv.cut
      have HM := hid hm
      have HK2 := hid (Kp.from_drewN K2)
      clear hv hm K2
      go_wp2_with (fail)
      refine (m_at_no w2 HI.out HM.out).mono ?_
      rintro e w3 ⟨rfl, rfl⟩
      go_wp2
      go_ret2
      exact ⟨rfl, HK2.out⟩
    · have h1 := of_decide_eq_true hi
      obtain ⟨k, hk, hko, hob⟩ := MT.has_nat hh
      have hfit := R.ok.fit k hko
      rw [← hob] at hfit
      rw [show t.datV x i = t.ws.getD (((t.obj x).f + (t.obj x).r) + i.toNat) 0 by simp [MT.datV, hh, hi], show t.datE x i = 0 by simp [MT.datE, hh, hi]]
      have H1 := hid h1
      obtain ⟨g0, cw, hwv, hcell⟩ := R.dat (i := ((t.obj x).f + (t.obj x).r) + i.toNat) (by omega)
      have HC := hid hcell
      have HW := hid hwv
      have hpos : 0 < (t.obj x).d := by omega
      have HP := hid hpos
      clear hh hi R h1 hk hko hob hfit hwv hcell hpos
      generalize t.ws.getD (((t.obj x).f + (t.obj x).r) + i.toNat) 0 = y at HC ⊢
      go_enter Tryd.func63, Tryd.ntmps63
      go_wp2_with (go_at_call 67; refine (m_check HR.out x).mono ?_; rw [HE.out]; rintro e w' ⟨rfl, n1, rfl⟩)
      refine (m_data (HR.out.drewN n1) HH.out).mono ?_
      rintro e w2 ⟨v, rfl, ⟨A, c, hv, hm1, hm2, hA⟩, K2⟩
      obtain ⟨g1, n2, c2, hw2, hA2⟩ := hA HP.out
      subst hv hA2
      have hg : g1 = g0 := by
        have := HW.out
        rw [hw2] at this
        injection this with this
        injection this with this
        injection this
      subst hg
      have HM := hid (Nat.le_trans hm1 hm2)
      have HK2 := hid (Kp.from_drewN K2)
      have hc2 := cell_kp HK2.out HC.out
      clear hw2 hm1 hm2 K2 hA
      go_wp2_with (fail)
      refine (m_at_yes w2 H1.out.1 H1.out.2 HM.out).mono ?_
      rintro e w3 ⟨rfl, rfl⟩
      go_wp2
      go_ret2
      exact ⟨rfl, HK2.out⟩
theorem MR.q_form (R : MR w b t) : (b.qv = .slice none 0 0 ∧ t.qu = []) ∨ ∃ g cap, b.qv = .slice (some ⟨g, 0, none⟩) t.qu.length cap ∧ t.qu.length ≤ cap ∧ cap ≤ maxLen ∧ ∀ i, i < t.qu.length → w.cell? ⟨g, i, none⟩ = some (.int .i64 (t.qu.getD i 0)) := by
  have Q := R.Q
  rcases Q.2 with ⟨hv, h0⟩ | ⟨g, cap, cur, hv, hg, hb, hc1, hc2, hc3, hc4⟩
  · exact .inl ⟨hv, List.length_eq_zero_iff.1 h0⟩
  · refine .inr ⟨g, cap, hv, hc1, hc2, fun i hi => ?_⟩
    rw [hv] at Q
    rw [Q.cellAt i (by omega)]
    have := zcells_get (ws := t.qu) (sp := []) hi
    simpa using this
theorem m_queue (R : MR w b t) :
    Calls Tryd.prog 26 #[.pointer (some ⟨b.g, 0, none⟩)] w (RowP w.heap.size w t.qu) := by
  have HR := hid R
  have hql := R.ok.qu
  rcases R.q_form with ⟨hv, h0⟩ | ⟨g, cap, hv, hc1, hc2, hcl⟩
  · have hcq := R.c17
    rw [hv] at hcq
    have H0 := hid h0
    clear R h0 hv
    go_enter Tryd.func26, Tryd.ntmps26
    go_wp2_with (first
      | (go_at_call 41; refine (m_made HR.out).mono ?_; rintro e w' ⟨rfl, n1, rfl⟩)
      | (go_at_call 43; refine (AnyG.slices_Clone_int_nil Tryd.cloneL 0 0 _).mono ?_; rintro e w' ⟨rfl, rfl⟩))
    go_ret
    rw [H0.out]
    exact ⟨_, rfl, ⟨rfl, .inl ⟨rfl, rfl⟩⟩, below_drewN (Below.refl _ _) _⟩
  · have hcq := R.c17
    rw [hv] at hcq
    have HCL : Hid (∀ n, Calls Tryd.prog 43 #[.slice (some ⟨g, 0, none⟩) t.qu.length cap] (w.drewN n) fun e w' => ∃ v', e = .returned v' ∧ w'.ownsRow w.heap.size 3 1 v' t.qu.length (zcells t.qu) ∧ Below w.heap.size w w') := fun n => by
      refine (AnyG.slices_Clone_int Tryd.cloneL g 0 t.qu.length cap t.qu (w.drewN n) (Nat.le_refl _) (by omega) (fun j hj => by rw [Nat.zero_add]; exact hcl j hj)).mono ?_
      rintro e w' ⟨v', rfl, own, _, bel⟩
      rw [List.take_length] at own
      exact ⟨v', rfl, own, (below_drewN (Below.refl _ w) n).trans bel⟩
    clear R hv hcl
    go_enter Tryd.func26, Tryd.ntmps26
    go_wp2_with (first
      | (go_at_call 41; refine (m_made HR.out).mono ?_; rintro e w' ⟨rfl, n1, rfl⟩)
      | (go_at_call 43; refine (HCL.out _).mono ?_; rintro e w2 ⟨v2, rfl, own2, bel2⟩; have HO := hid own2; have HB := hid bel2; clear own2 bel2))
    go_ret
    exact ⟨_, rfl, HO.out, HB.out⟩
end
end Go.Proofs.YtbiompmklijgoaaDoor
/-
  What becomes of a model when a word, a slot, a global or the queue changes: the mathematics, and the memory. Conditions: those that stand in each theorem.
-/
namespace Go.Proofs.YtbiompmklijgoaaDoor
set_option linter.unusedVariables false
set_option linter.unusedSimpArgs false
open Go.RowKit Go.Deep Go.Maps

theorem getD_set {l : List Int} {p : Nat} {y : Int} (q : Nat) : (l.set p y).getD q 0 = if p = q ∧ q < l.length then y else l.getD q 0 := by
  rw [List.getD_eq_getElem?_getD, List.getD_eq_getElem?_getD, List.getElem?_set]
  by_cases h : p = q
  · subst h
    by_cases h2 : p < l.length
    · simp [h2]
    · simp [h2]
  · simp [h]
theorem mem_set_of {l : List Int} {p : Nat} {y : Int} {P : Int → Prop} (h : ∀ x ∈ l, P x) (hy : P y) : ∀ x ∈ l.set p y, P x := fun x hx => by
  rcases List.mem_or_eq_of_mem_set hx with h1 | h1
  · exact h x h1
  · rw [h1]; exact hy
theorem getD_of {l : List Int} {P : Int → Prop} (h : ∀ x ∈ l, P x) {i : Nat} (hi : i < l.length) : P (l.getD i 0) := by
  rw [List.getD_eq_getElem?_getD, List.getElem?_eq_getElem hi]
  exact h _ (List.getElem_mem hi)
def MT.setW (t : MT) (p : Nat) (y : Int) : MT := { t with ws := t.ws.set p y }
def MT.setS (t : MT) (p : Nat) (y : Int) : MT := { t with sl := t.sl.set p y }
def MT.setG (t : MT) (p : Nat) (y : Int) : MT := { t with gl := t.gl.set p y }
theorem MT.Ok.setW {t : MT} (ok : t.Ok) {p : Nat} {y : Int} (hy : W64 y) (hr : ∀ i j, i < t.ob.length → j < (t.ob.getD i OB.zero).r → (t.ob.getD i OB.zero).f + j = p → t.idn y) : (t.setW p y).Ok :=
  ⟨ok.n1, ok.n4, ok.sl, ok.gl, ok.qu, ok.sh, fun i hi => by have := ok.fit i hi; simpa [MT.setW] using this, ok.apart, ok.isl, ok.igl, ok.iqu, fun i j hi hj => by
    show t.idn ((t.ws.set p y).getD _ 0)
    rw [getD_set]
    split
    · rename_i h
      exact hr i j hi hj h.1.symm
    · exact ok.irf i j hi hj, mem_set_of ok.w64 hy, ⟨ok.small.1, by have := ok.small.2; simpa [MT.setW] using this⟩, by have := ok.wl; simpa [MT.setW] using this⟩
theorem MT.Ok.setS {t : MT} (ok : t.Ok) {p : Nat} {y : Int} (hy : t.idn y) : (t.setS p y).Ok :=
  ⟨ok.n1, ok.n4, by show (t.sl.set p y).length = _; rw [List.length_set]; exact ok.sl, ok.gl, ok.qu, ok.sh, ok.fit, ok.apart, mem_set_of ok.isl hy, ok.igl, ok.iqu, ok.irf, ok.w64, ok.small, ok.wl⟩
theorem MT.Ok.setG {t : MT} (ok : t.Ok) {p : Nat} {y : Int} (hy : t.idn y) : (t.setG p y).Ok :=
  ⟨ok.n1, ok.n4, ok.sl, by show (t.gl.set p y).length = _; rw [List.length_set]; exact ok.gl, ok.qu, ok.sh, ok.fit, ok.apart, ok.isl, mem_set_of ok.igl hy, ok.iqu, ok.irf, ok.w64, ok.small, ok.wl⟩
theorem MT.Ok.setQ {t : MT} (ok : t.Ok) {q : List Int} (hl : q.length ≤ 64) (hq : ∀ x ∈ q, 1 ≤ x ∧ x ≤ (t.ob.length : Int)) : MT.Ok { t with qu := q } :=
  ⟨ok.n1, ok.n4, ok.sl, ok.gl, hl, ok.sh, ok.fit, ok.apart, ok.isl, ok.igl, hq, ok.irf, ok.w64, ok.small, ok.wl⟩
theorem MT.idn_of_has {t : MT} {x : Int} (h : t.has x = true) : t.idn x := by
  have := of_decide_eq_true h
  exact ⟨by omega, this.2⟩
theorem MT.Ok.w64_idn {t : MT} (ok : t.Ok) {x : Int} (h : t.idn x) : W64 x := by
  have := ok.small.1
  exact ⟨by have := h.1; omega, by have := h.2; omega⟩
/-- Where an object's references lie there lie no other words. -/
theorem MT.Ok.lone {t : MT} (ok : t.Ok) {i j i' j' : Nat} (hi : i < t.ob.length) (hj : j < (t.ob.getD i OB.zero).r + (t.ob.getD i OB.zero).d) (hi' : i' < t.ob.length) (hj' : j' < (t.ob.getD i' OB.zero).r + (t.ob.getD i' OB.zero).d)
    (h : (t.ob.getD i OB.zero).f + j = (t.ob.getD i' OB.zero).f + j') : i = i' ∧ j = j' := by
  rcases Nat.lt_trichotomy i i' with h1 | h1 | h1
  · have := ok.apart i i' h1 hi'; omega
  · subst h1; exact ⟨rfl, by omega⟩
  · have := ok.apart i' i h1 hi; omega
/-- What a call that may change a model leaves. -/
def ChgM (w : World) (b : MB) (t' : MT) (w' : World) : Prop := ∃ b' : MB, b'.g = b.g ∧ b'.sb = b.sb ∧ MR w' b' t' ∧ Kp b.all w w' ∧ ∀ x ∈ b'.all, x ∈ b.all ∨ w.heap.size ≤ x
section
variable {w w' W V : World} {b : MB} {t t' t2 : MT}
theorem ChgM.same (R : MR w b t) (k : Kp [] w w') : ChgM w b t w' := ⟨b, rfl, rfl, R.kp0 k, k.mono (by simp), fun x hx => .inl hx⟩
theorem ChgM.kp0 (h : ChgM w b t w') (k : Kp [] w' V) : ChgM w b t V := by
  obtain ⟨b', e1, e2, R, K, n⟩ := h
  exact ⟨b', e1, e2, R.kp0 k, K.chain k, n⟩
theorem own_setI {B : Nat} {g cap : Nat} {q : List Int} (h : W.ownsRow B 3 1 (.slice (some ⟨g, 0, none⟩) q.length cap) q.length (zcells q)) {i : Nat} (hi : i < q.length) (v : Int) :
    (W.setCell ⟨g, i, none⟩ (.int .i64 v)).ownsRow B 3 1 (.slice (some ⟨g, 0, none⟩) q.length cap) (q.set i v).length (zcells (q.set i v)) := by
  obtain ⟨hl, h2 | ⟨g', cap', cur, hv, hg, hb, h3, h4, h5, h6⟩⟩ := h
  · cases h2.1
  · cases hv
    have hB : Blk W g 3 cur := hb
    have hB2 := hB.set_ i (.int .i64 v)
    refine ⟨by simp [zcells], .inr ⟨g, cap, _, by simp, hg, hB2, by simpa using h3, h4, by simpa using h5, ?_⟩⟩
    have hi2 : i < cur.toList.length := by
      have : cur.toList.length = cur.size := by simp
      omega
    simp only [List.length_set, Nat.mul_one] at h6 ⊢
    rw [Array.toList_setIfInBounds, List.take_set, h6]
    simp [zcells, List.map_set]
/-- The blocks of a model: none is another one's. -/
theorem MR.blocks (R : MR w b t) : b.g ≠ b.sb ∧ (∀ x, b.qv.ownBlock = some x → x ≠ b.g ∧ x ≠ b.sb) ∧ (∀ x, b.wv.ownBlock = some x → x ≠ b.g ∧ x ≠ b.sb) ∧ (∀ x, b.ov.ownBlock = some x → x ≠ b.g ∧ x ≠ b.sb ∧ b.qv.ownBlock ≠ some x ∧ b.wv.ownBlock ≠ some x) := by
  obtain ⟨c, sp, h1, h2, h3, G, B⟩ := R.mem
  have blk : ∀ {B n z : Nat} {e : TypeId} {v : Value} {xs : List Value}, w.ownsRow B e z v n xs → ∀ x, v.ownBlock = some x → ∃ cs, Blk w x e cs := fun h x hx => by
    rcases h.2 with ⟨hv, _⟩ | ⟨g, cap, cur, hv, _, hb, _⟩
    · rw [hv] at hx; simp [Value.ownBlock] at hx
    · rw [hv] at hx; simp [Value.ownBlock] at hx; subst hx; exact ⟨cur, hb⟩
  refine ⟨G.ne_ B (by decide), fun x hx => ?_, fun x hx => ?_, fun x hx => ?_⟩
  · obtain ⟨cs, h⟩ := blk R.Q x hx
    exact ⟨h.ne_ G (by decide), h.ne_ B (by decide)⟩
  · obtain ⟨cs, h⟩ := blk R.D x hx
    exact ⟨h.ne_ G (by decide), h.ne_ B (by decide)⟩
  · obtain ⟨cs, h⟩ := blk R.O x hx
    refine ⟨h.ne_ G (by decide), h.ne_ B (by decide), fun e => ?_, fun e => ?_⟩
    · obtain ⟨cs2, h2⟩ := blk R.Q x e
      exact h.ne_ h2 (by decide) rfl
    · obtain ⟨cs2, h2⟩ := blk R.D x e
      exact h.ne_ h2 (by decide) rfl
/-- A word changes. -/
theorem MR.setW (R : MR w b t) {p : Nat} {y : Int} (hp : p < t.ws.length) (ok : (t.setW p y).Ok) {g n c : Nat} (hv : b.wv = .slice (some ⟨g, 0, none⟩) n c) :
    MR (w.setCell ⟨g, p, none⟩ (.int .i64 y)) b (t.setW p y) ∧ Kp b.all w (w.setCell ⟨g, p, none⟩ (.int .i64 y)) := by
  obtain ⟨cc, sp, h1, h2, h3, G, B⟩ := R.mem
  have hb : b.wv.ownBlock = some g := by rw [hv]; rfl
  obtain ⟨n1, n2, n3, n4⟩ := R.blocks
  have hg := n3 g hb
  have hmem : g ∈ b.all := by simp [MB.all, hb]
  have k : Kp [g] w (w.setCell ⟨g, p, none⟩ (.int .i64 y)) := Kp.cell w ⟨g, p, none⟩ _
  have h0 : 0 ∉ [g] := fun h => by simp at h; exact R.z0 (h ▸ hmem)
  refine ⟨⟨ok, R.lz.kp k h0, R.z0, ⟨cc, sp, h1, h2, h3, G.kp k (by simp; exact fun e => hg.1 e.symm), B.kp k (by simp; exact fun e => hg.2 e.symm)⟩, own_kpx R.Q k (fun x hx hm => by simp at hm; subst hm; exact R.ne x hx hb), own_kpx R.O k (fun x hx hm => by simp at hm; subst hm; exact (n4 x hx).2.2.2 hb), ?_, R.ne⟩, k.mono (fun x hx => .inl (by simp at hx; subst hx; exact hmem))⟩
  have D := R.D
  obtain ⟨A, c', hv', _⟩ := own_cut D
  have e : n = t.ws.length := by rw [hv] at hv'; injection hv'
  subst e
  rw [hv] at D ⊢
  have := own_setI D hp y
  simpa [MT.setW] using this
/-- A slot changes. -/
theorem MR.setS (R : MR w b t) {p : Nat} {y : Int} (hp : p < 16 * t.n) (ok : (t.setS p y).Ok) :
    MR (w.setCell ⟨b.sb, p, none⟩ (.int .i64 y)) b (t.setS p y) ∧ Kp b.all w (w.setCell ⟨b.sb, p, none⟩ (.int .i64 y)) := by
  obtain ⟨cc, sp, h1, h2, h3, G, B⟩ := R.mem
  obtain ⟨n1, n2, n3, n4⟩ := R.blocks
  have hmem : b.sb ∈ b.all := by simp [MB.all]
  have k : Kp [b.sb] w (w.setCell ⟨b.sb, p, none⟩ (.int .i64 y)) := Kp.cell w ⟨b.sb, p, none⟩ _
  have h0 : 0 ∉ [b.sb] := fun h => by simp at h; exact R.z0 (h ▸ hmem)
  refine ⟨⟨ok, R.lz.kp k h0, R.z0, ⟨cc, sp, h1, h2, by simpa [MT.setS, zcells] using h3, G.kp k (by simp; exact n1), ?_⟩, own_kpx R.Q k (fun x hx hm => by simp at hm; exact (n2 x hx).2 hm), own_kpx R.O k (fun x hx hm => by simp at hm; exact (n4 x hx).2.1 hm), own_kpx R.D k (fun x hx hm => by simp at hm; exact (n3 x hx).2 hm), R.ne⟩, k.mono (fun x hx => .inl (by simp at hx; subst hx; exact hmem))⟩
  have := B.set_ p (.int .i64 y)
  rw [zcells_set (by rw [R.ok.sl]; exact hp)] at this
  exact this
/-- A global changes. -/
theorem MR.setG (R : MR w b t) {p : Nat} {y : Int} (hp : p < 16) (ok : (t.setG p y).Ok) :
    MR (w.setCell ⟨b.g, 1 + p, none⟩ (.int .i64 y)) b (t.setG p y) ∧ Kp b.all w (w.setCell ⟨b.g, 1 + p, none⟩ (.int .i64 y)) := by
  obtain ⟨cc, sp, h1, h2, h3, G, B⟩ := R.mem
  obtain ⟨n1, n2, n3, n4⟩ := R.blocks
  have hmem : b.g ∈ b.all := by simp [MB.all]
  have k : Kp [b.g] w (w.setCell ⟨b.g, 1 + p, none⟩ (.int .i64 y)) := Kp.cell w ⟨b.g, 1 + p, none⟩ _
  have h0 : 0 ∉ [b.g] := fun h => by simp at h; exact R.z0 (h ▸ hmem)
  refine ⟨⟨ok, R.lz.kp k h0, R.z0, ⟨cc, sp, h1, h2, h3, ?_, B.kp k (by simp; exact fun e => n1 e.symm)⟩, own_kpx R.Q k (fun x hx hm => by simp at hm; exact (n2 x hx).1 hm), own_kpx R.O k (fun x hx hm => by simp at hm; exact (n4 x hx).1 hm), own_kpx R.D k (fun x hx hm => by simp at hm; exact (n3 x hx).1 hm), R.ne⟩, k.mono (fun x hx => .inl (by simp at hx; subst hx; exact hmem))⟩
  have := G.set_ (1 + p) (.int .i64 y)
  have e : (mcell b t cc).setIfInBounds (1 + p) (.int .i64 y) = mcell b (t.setG p y) cc := by
    unfold mcell
    rw [List.setIfInBounds_toArray, Nat.add_comm, List.set_cons_succ, List.set_append_left _ _ (by rw [zcells_length, R.ok.gl]; exact hp)]
    simp [zcells, List.map_set, MT.setG]
  rw [e] at this
  exact this
/-- Another queue. -/
theorem MR.setQ {v : Value} {q : List Int} (R : MR w b t) (ok : MT.Ok { t with qu := q }) (k : Kp b.qv.ownBlock.toList w w') (own : w'.ownsRow 0 3 1 v q.length (zcells q)) (hn : ∀ x, v.ownBlock = some x → b.qv.ownBlock = some x ∨ w.heap.size ≤ x) :
    ChgM w b { t with qu := q } (w'.setCell ⟨b.g, 17, none⟩ v) := by
  obtain ⟨cc, sp, h1, h2, h3, G, B⟩ := R.mem
  obtain ⟨n1, n2, n3, n4⟩ := R.blocks
  have hlt := R.lt
  have hno : ∀ x, (∀ y, b.qv.ownBlock = some y → y ≠ x) → x ∉ b.qv.ownBlock.toList := fun x h hm => h x (by simpa using hm) rfl
  have G2 := G.kp k (hno _ fun y hy => (n2 y hy).1)
  have B2 := B.kp k (hno _ fun y hy => (n2 y hy).2)
  have O2 := own_kpx R.O k (fun x hx => hno _ fun y hy e => (n4 x hx).2.2.1 (e ▸ hy))
  have D2 := own_kpx R.D k (fun x hx => hno _ fun y hy e => R.ne y hy (e ▸ hx))
  have hmem : b.g ∈ b.all := by simp [MB.all]
  have k2 : Kp [b.g] w' (w'.setCell ⟨b.g, 17, none⟩ v) := Kp.cell w' ⟨b.g, 17, none⟩ v
  have h0 : 0 ∉ [b.g] := fun h => by simp at h; exact R.z0 (h ▸ hmem)
  have h00 : 0 ∉ b.qv.ownBlock.toList := hno _ fun y hy e => R.z0 (by subst e; simp [MB.all, hy])
  have z0 : 0 < w.heap.size := by have := hlt b.g hmem; omega
  have vb : ∀ x, v.ownBlock = some x → x ≠ b.g ∧ x ≠ b.sb ∧ b.wv.ownBlock ≠ some x ∧ b.ov.ownBlock ≠ some x ∧ x ≠ 0 := fun x hx => by
    rcases hn x hx with h | h
    · refine ⟨(n2 x h).1, (n2 x h).2, R.ne x h, fun e => (n4 x e).2.2.1 h, fun e => R.z0 (by subst e; simp [MB.all, h])⟩
    · have a1 := hlt b.g hmem
      have a2 := hlt b.sb (by simp [MB.all])
      refine ⟨by omega, by omega, fun e => ?_, fun e => ?_, by omega⟩
      · have := own_lt R.D _ e; omega
      · have := own_lt R.O _ e; omega
  refine ⟨⟨b.g, b.sb, v, b.ov, b.wv⟩, rfl, rfl, ⟨ok, (R.lz.kp k h00).kp k2 h0, ?_, ⟨cc, sp, h1, h2, h3, ?_, B2.kp k2 (by simp; exact fun e => n1 e.symm)⟩, own_kpx own k2 (fun x hx hm => by simp at hm; exact (vb x hx).1 hm), own_kpx O2 k2 (fun x hx hm => by simp at hm; exact (n4 x hx).1 hm), own_kpx D2 k2 (fun x hx hm => by simp at hm; exact (n3 x hx).1 hm), fun x hx => (vb x hx).2.2.1⟩, ?_, ?_⟩
  · intro hm
    simp only [MB.all, List.mem_cons, List.mem_append, Option.mem_toList] at hm
    rcases hm with hm | hm | (hm | hm) | hm
    · exact R.z0 (by rw [hm]; exact hmem)
    · exact R.z0 (by rw [hm]; simp [MB.all])
    · exact (vb 0 hm).2.2.2.2 rfl
    · exact R.z0 (by simp [MB.all, hm])
    · exact R.z0 (by simp [MB.all, hm])
  · have := G2.set_ 17 v
    have e : (mcell b t cc).setIfInBounds 17 v = mcell ⟨b.g, b.sb, v, b.ov, b.wv⟩ { t with qu := q } cc := by
      unfold mcell
      rw [List.setIfInBounds_toArray, show 17 = 16 + 1 from rfl, List.set_cons_succ, List.set_append_right _ _ (by rw [zcells_length]; exact Nat.le_of_eq R.ok.gl), zcells_length, R.ok.gl]
      rfl
    rw [e] at this
    exact this
  · exact k.trans k2 (fun x hx => .inl (by simp at hx; simp [MB.all, hx])) (fun x hx => .inl (by simp at hx; subst hx; exact hmem))
  · intro x hx
    simp only [MB.all, List.mem_cons, List.mem_append, Option.mem_toList] at hx ⊢
    rcases hx with hx | hx | (hx | hx) | hx
    · exact .inl (.inl hx)
    · exact .inl (.inr (.inl hx))
    · rcases hn x hx with h | h
      · exact .inl (.inr (.inr (.inl (.inl h))))
      · exact .inr h
    · exact .inl (.inr (.inr (.inl (.inr hx))))
    · exact .inl (.inr (.inr (.inr hx)))
end
end Go.Proofs.YtbiompmklijgoaaDoor
/-
  The contracts of package model's SetRef, Push, Pop. Conditions: those that stand in each theorem.
-/
namespace Go.Proofs.YtbiompmklijgoaaDoor
set_option linter.unusedVariables false
set_option linter.unusedSimpArgs false
open Go.RowKit Go.Deep Go.Maps

shelf_lay_g SlLaysN.n45 Slgn 45 at Tryd 78 as Tryd.deleteL

def MT.okTo (t : MT) (y : Int) : Bool := decide (y = 0) || t.has y
def MT.srE (t : MT) (x i y : Int) : Int := if t.has x then (if t.isR x i && t.okTo y then 0 else 1) else 4
def MT.srM (t : MT) (x i y : Int) : MT := if t.srE x i y = 0 then t.setW ((t.obj x).f + i.toNat) y else t
def MT.pushE (t : MT) (x : Int) : Int := if t.has x then (if 64 ≤ t.qu.length then 6 else 0) else 4
def MT.pushM (t : MT) (x : Int) : MT := if t.pushE x = 0 then { t with qu := t.qu ++ [x] } else t
def MT.popV (t : MT) : Int := t.qu.getD 0 0
def MT.popE (t : MT) : Int := if t.qu = [] then 4 else 0
def MT.popM (t : MT) : MT := { t with qu := t.qu.drop 1 }
theorem MT.idn_okTo {t : MT} {y : Int} (h : t.okTo y = true) : t.idn y := by
  unfold MT.okTo at h
  rw [Bool.or_eq_true] at h
  rcases h with h | h
  · have := of_decide_eq_true h; subst this; exact ⟨by omega, by omega⟩
  · exact MT.idn_of_has h
theorem MT.Ok.setRef {t : MT} (ok : t.Ok) {x i y : Int} (hx : t.has x = true) (hi : t.isR x i = true) (hy : t.idn y) : (t.setW ((t.obj x).f + i.toNat) y).Ok := by
  exact ok.setW (ok.w64_idn hy) (fun _ _ _ _ _ => hy)
section
variable {w w' W V : World} {b : MB} {t : MT}
set_option maxRecDepth 100000 in
set_option maxHeartbeats 2000000 in
theorem m_setRef (R : MR w b t) (x i y : Int) (hy64 : W64 y) :
    Calls Tryd.prog 36 #[.pointer (some ⟨b.g, 0, none⟩), .int .i64 x, .int .i64 i, .int .i64 y] w fun e w' => e = .returned (.int .i64 (t.srE x i y)) ∧ ChgM w b (t.srM x i y) w' := by
  have HR := hid R
  rcases hh : t.has x
  · have HE : Hid (t.chk x = 4) := by show _ = _; simp [MT.chk, hh]
    have e4 : t.srE x i y = 4 := by simp [MT.srE, hh]
    rw [show t.srM x i y = t by simp [MT.srM, e4], e4]
    clear hh R e4
    go_enter Tryd.func36, Tryd.ntmps36
    go_wp2_with (go_at_call 67; refine (m_check HR.out x).mono ?_; rw [HE.out]; rintro e w' ⟨rfl, n1, rfl⟩)
    go_ret
    exact ⟨rfl, ChgM.same HR.out (Kp.draw _ _)⟩
  · have HE : Hid (t.chk x = 0) := by show _ = _; simp [MT.chk, hh]
    have HH := hid hh
    rcases hi : t.isR x i
    · have e1 : t.srE x i y = 1 := by simp [MT.srE, hh, hi]
      rw [show t.srM x i y = t by simp [MT.srM, e1], e1]
      have HI := hid (of_decide_eq_false hi)
      clear hh hi R e1
      go_enter Tryd.func36, Tryd.ntmps36
      go_wp2_with (go_at_call 67; refine (m_check HR.out x).mono ?_; rw [HE.out]; rintro e w' ⟨rfl, n1, rfl⟩)
      refine (m_refs (HR.out.drewN n1) HH.out).mono ?_
      rintro e w2 ⟨v, rfl, hv, K2⟩
      obtain ⟨A, c, rfl, hm⟩ := hv.cut
      have HM := hid hm
      have HK2 := hid (Kp.from_drewN K2)
      clear hv hm K2
      go_wp2_with (fail)
      refine (m_at_no w2 HI.out HM.out).mono ?_
      rintro e w3 ⟨rfl, rfl⟩
      go_wp2
      go_ret
      exact ⟨rfl, ChgM.same HR.out HK2.out⟩
    · have h1 := of_decide_eq_true hi
      obtain ⟨k, hk, hko, hob⟩ := MT.has_nat hh
      have hfit := R.ok.fit k hko
      rw [← hob] at hfit
      have H1 := hid h1
      have HPP : Hid ((t.obj x).f + i.toNat < t.ws.length) := by show _ < _; omega
      obtain ⟨g0, cw, hwv, hcell⟩ := R.dat (i := (t.obj x).f + i.toNat) (by omega)
      have HC := hid hcell
      have HW := hid hwv
      have hpos : 0 < (t.obj x).r := by omega
      have HP := hid hpos
      rcases hok : t.okTo y
      · have e1 : t.srE x i y = 1 := by simp [MT.srE, hh, hi, hok]
        rw [show t.srM x i y = t by simp [MT.srM, e1], e1]
        unfold MT.okTo at hok
        rw [Bool.or_eq_false_iff] at hok
        have hy0 : (y == 0) = false := by have := of_decide_eq_false hok.1; simpa using this
        have hyn : (y != 0) = true := by simp [bne, hy0]
        have HHY := hid hok.2
        clear hh hi R h1 hk hko hob hfit hwv hcell hpos hok e1
        go_enter Tryd.func36, Tryd.ntmps36
        go_wp2_with (go_at_call 67; refine (m_check HR.out x).mono ?_; rw [HE.out]; rintro e w' ⟨rfl, n1, rfl⟩)
        refine (m_refs (HR.out.drewN n1) HH.out).mono ?_
        rintro e w2 ⟨v, rfl, ⟨A, c, hv, hm1, hm2, hA⟩, K2⟩
        obtain ⟨g1, n2, c2, hw2, hA2⟩ := hA HP.out
        subst hv hA2
        have HM := hid (Nat.le_trans hm1 hm2)
        have HK2 := hid (Kp.from_drewN K2)
        clear hw2 hm1 hm2 K2 hA
        go_wp2_with (fail)
        refine (m_at_yes w2 H1.out.1 H1.out.2 HM.out).mono ?_
        rintro e w3 ⟨rfl, rfl⟩
        go_wp2_with (fail)
        refine (m_has (HR.out.kp0 HK2.out) y).mono ?_
        rw [HHY.out]
        rintro e w4 ⟨rfl, rfl⟩
        go_wp2
        go_ret
        exact ⟨rfl, ChgM.same HR.out HK2.out⟩
      · have e0 : t.srE x i y = 0 := by simp [MT.srE, hh, hi, hok]
        rw [show t.srM x i y = t.setW ((t.obj x).f + i.toNat) y by simp [MT.srM, e0], e0]
        have HOK := hid (R.ok.setRef hh hi (MT.idn_okTo hok))
        have hcy : y = 0 ∨ (y ≠ 0 ∧ t.has y = true) := by
          by_cases h : y = 0
          · exact .inl h
          · simp [MT.okTo, h] at hok; exact .inr ⟨h, hok⟩
        have HCY := hid hcy
        clear hh hi R h1 hk hko hob hfit hwv hcell hpos hok e0 hcy
        go_enter Tryd.func36, Tryd.ntmps36
        go_wp2_with (go_at_call 67; refine (m_check HR.out x).mono ?_; rw [HE.out]; rintro e w' ⟨rfl, n1, rfl⟩)
        refine (m_refs (HR.out.drewN n1) HH.out).mono ?_
        rintro e w2 ⟨v, rfl, ⟨A, c, hv, hm1, hm2, hA⟩, K2⟩
        obtain ⟨g1, n2, c2, hw2, hA2⟩ := hA HP.out
        subst hv hA2
        have hg : g1 = g0 := by
          have := HW.out
          rw [hw2] at this
          injection this with this
          injection this with this
          injection this
        subst hg
        have HM := hid (Nat.le_trans hm1 hm2)
        have HK2 := hid (Kp.from_drewN K2)
        have hc2 := cell_kp HK2.out HC.out
        have hf2 : w2.frozen? ⟨g1, (t.obj x).f + i.toNat, none⟩ = false := by
          have D := (HR.out.kp0 HK2.out).D
          rcases D.2 with ⟨h, _⟩ | ⟨g', cap, cur, h, _, hb, _⟩
          · rw [HW.out] at h; cases h
          · rw [HW.out] at h; injection h with h; injection h with h; injection h with h; subst h
            exact Blk.frozen (cs := cur) (t := 3) hb _
        have HFIN := hid ((HR.out.kp0 HK2.out).setW HPP.out HOK.out HW.out)
        clear hw2 hm1 hm2 K2 hA
        go_wp2_with (fail)
        refine (m_at_yes w2 H1.out.1 H1.out.2 HM.out).mono ?_
        rintro e w3 ⟨rfl, rfl⟩
        rcases HCY.out with hy | ⟨hy, hhy⟩
        · subst hy
          go_wp2
          go_ret
          exact ⟨rfl, b, rfl, rfl, HFIN.out.1, HK2.out.chain0 HFIN.out.2, fun x hx => .inl hx⟩
        · have hy0 : (y == 0) = false := by simpa using hy
          have hyn : (y != 0) = true := by simp [bne, hy0]
          have HHY := hid hhy
          clear hy hhy
          go_wp2_with (fail)
          refine (m_has (HR.out.kp0 HK2.out) y).mono ?_
          rw [HHY.out]
          rintro e w4 ⟨rfl, rfl⟩
          go_wp2
          go_ret
          exact ⟨rfl, b, rfl, rfl, HFIN.out.1, HK2.out.chain0 HFIN.out.2, fun x hx => .inl hx⟩
end
end Go.Proofs.YtbiompmklijgoaaDoor
/-
  The contracts of package model's Push, Pop. Conditions: those that stand in each theorem.
-/
namespace Go.Proofs.YtbiompmklijgoaaDoor
set_option linter.unusedVariables false
set_option linter.unusedSimpArgs false
open Go.RowKit Go.Deep Go.Maps

section
variable {w w' W V : World} {b : MB} {t : MT}
theorem MR.g17 (R : MR w b t) {S : List Nat} {V : World} (k : Kp S w V) (hS : b.g ∉ S) : ∃ u, V.cell? ⟨b.g, 17, none⟩ = some u ∧ V.frozen? ⟨b.g, 17, none⟩ = false := by
  obtain ⟨c, sp, _, _, _, G, _⟩ := R.mem
  have G2 := G.kp k hS
  exact ⟨_, (G2.cell 17).trans (mcell_v R.ok.gl 0), G2.frozen 17⟩
set_option maxRecDepth 100000 in
set_option maxHeartbeats 2000000 in
theorem m_push (R : MR w b t) (x : Int) :
    Calls Tryd.prog 37 #[.pointer (some ⟨b.g, 0, none⟩), .int .i64 x] w fun e w' => e = .returned (.int .i64 (t.pushE x)) ∧ ChgM w b (t.pushM x) w' := by
  have HR := hid R
  rcases hh : t.has x
  · have HE : Hid (t.chk x = 4) := by show _ = _; simp [MT.chk, hh]
    have e4 : t.pushE x = 4 := by simp [MT.pushE, hh]
    rw [show t.pushM x = t by simp [MT.pushM, e4], e4]
    clear hh R e4
    go_enter Tryd.func37, Tryd.ntmps37
    go_wp2_with (go_at_call 67; refine (m_check HR.out x).mono ?_; rw [HE.out]; rintro e w' ⟨rfl, n1, rfl⟩)
    go_ret
    exact ⟨rfl, ChgM.same HR.out (Kp.draw _ _)⟩
  · have HE : Hid (t.chk x = 0) := by show _ = _; simp [MT.chk, hh]
    obtain ⟨A, cap, hqs, hqc, hqm, _⟩ := own_cut R.Q
    have hcq := R.c17
    rw [hqs] at hcq
    have hql := R.ok.qu
    by_cases h2 : 64 ≤ t.qu.length
    · have e2 : t.pushE x = 6 := by simp [MT.pushE, hh, h2]
      rw [show t.pushM x = t by simp [MT.pushM, e2], e2]
      have h3 : (64 : Int) ≤ (t.qu.length : Int) := by omega
      clear hh R hqs e2
      go_enter Tryd.func37, Tryd.ntmps37
      go_wp2_with (go_at_call 67; refine (m_check HR.out x).mono ?_; rw [HE.out]; rintro e w' ⟨rfl, n1, rfl⟩)
      go_ret
      exact ⟨rfl, ChgM.same HR.out (Kp.draw _ _)⟩
    · have e2 : t.pushE x = 0 := by simp [MT.pushE, hh, h2]
      rw [show t.pushM x = { t with qu := t.qu ++ [x] } by simp [MT.pushM, e2], e2]
      obtain ⟨i0, hi0, hz0, hz1, hz2⟩ := info_parts infoInt
      have h3 : (t.qu.length : Int) < 64 := by omega
      have HQS := hid hqs
      have HN := hid (one_new w x)
      have NONE := one_cell x
      have HOWN : Hid (∀ n, (w.drewN n).ownsRow 0 3 1 (.slice A t.qu.length cap) t.qu.length (zcells t.qu)) := fun n => by rw [← HQS.out]; exact (HR.out.drewN n).Q
      have HOK : Hid (MT.Ok { t with qu := t.qu ++ [x] }) := R.ok.setQ (by simp; omega) (fun y hy => by
        rcases List.mem_append.1 hy with h | h
        · exact R.ok.iqu y h
        · obtain rfl := List.mem_singleton.1 h
          exact of_decide_eq_true hh)
      have HGC : Hid (∀ V : World, Kp (Value.slice A t.qu.length cap).ownBlock.toList w V → ∃ u, V.cell? ⟨b.g, 17, none⟩ = some u ∧ V.frozen? ⟨b.g, 17, none⟩ = false) := fun V k => HR.out.g17 k (fun hm => by
        rw [← HQS.out] at hm
        exact (HR.out.blocks.2.1 b.g (by simpa using hm)).1 rfl)
      clear hh R hqs e2
      go_enter Tryd.func37, Tryd.ntmps37
      go_wp2_with (first
        | (go_at_call 67; refine (m_check HR.out x).mono ?_; rw [HE.out]; rintro e w' ⟨rfl, n1, rfl⟩)
        | (at_builtin; go_loud (refine wpList_append_own_at _ rfl (.tmp 22) (.tmp 24) 45 rfl 0 3 i0 (.int .i64 0) 1 8 Tryd.underlying45 hi0 hz0 hz1 hz2 rfl (by decide) _ _ _ rfl ((HOWN.out n1).alloc _) ⟨w.heap.size, 0, none⟩ 1 1 [.int .i64 x] rfl rfl (HN.out n1) NONE (by unfold maxLen; omega) (by omega) (Nat.zero_le _) ?_; intro v' w9 hown' hgr _ hat; have hk9 : Kp (Value.slice A t.qu.length cap).ownBlock.toList w w9 := ((Kp.draw w n1).chain (Kp.new _ _)).trans (Kp.of_grown hgr) (by simp) (fun x hx => .inl hx); obtain ⟨u9, hu9, hf9⟩ := HGC.out w9 hk9; obtain ⟨g9, c9, _, hv9, _⟩ := own_form hown' (by omega); have HV9 := hid hv9; have HO' := hid hown'; have HK9 := hid hk9; have HAT : Hid (v'.ownBlock = (Value.slice A t.qu.length cap).ownBlock ∨ v'.ownBlock = some (w.heap.size + 1)) := (by first | exact hat | (simp [World.drewN] at hat; exact hat)); subst hv9; clear hown' hgr hat hk9)))
      go_ret
      have own2 : w9.ownsRow 0 3 1 (.slice (some ⟨g9, 0, none⟩) (t.qu.length + 1) c9) (t.qu ++ [x]).length (zcells (t.qu ++ [x])) := by
        have := HO'.out
        rw [List.length_append]
        simpa [zcells] using this
      have hk9 := HK9.out
      rw [← HQS.out] at hk9
      refine ⟨rfl, HR.out.setQ HOK.out hk9 own2 (fun y hy => ?_)⟩
      rcases HAT.out with e | e
      · exact .inl (by rw [HQS.out, ← e]; simpa [Value.ownBlock] using hy)
      · refine .inr ?_
        simp [Value.ownBlock] at e hy
        omega
/-- A queue without its first element: what Delete leaves. -/
theorem del_first {g cap : Nat} {q : List Int} (h : W.ownsRow 0 3 1 (.slice (some ⟨g, 0, none⟩) q.length cap) q.length (zcells q)) (hq : q ≠ []) (k : Nat) :
    (Go.Sort.putRow (Value.int .i64) (Go.Sort.ahead W k) g 0 (q.take 0 ++ q.drop 1 ++ List.replicate (1 - 0) 0).toArray).ownsRow 0 3 1 (.slice (some ⟨g, 0, none⟩) (q.length - (1 - 0)) cap) (q.drop 1).length (zcells (q.drop 1)) ∧
      Kp [g] W (Go.Sort.putRow (Value.int .i64) (Go.Sort.ahead W k) g 0 (q.take 0 ++ q.drop 1 ++ List.replicate (1 - 0) 0).toArray) := by
  have hpos : 0 < q.length := List.length_pos_iff.2 hq
  obtain ⟨hl, h2 | ⟨g', cap', cur, hv, hg, hb, h3, h4, h5, h6⟩⟩ := h
  · cases h2.1
  · cases hv
    generalize hd : (q.take 0 ++ q.drop 1 ++ List.replicate (1 - 0) 0).toArray = d
    have hds : d.size = q.length := by rw [← hd]; simp; omega
    have hlt : g < W.heap.size := by
      rcases Nat.lt_or_ge g W.heap.size with h1 | h1
      · exact h1
      · rw [Array.getElem?_eq_none h1] at hb; cases hb
    have hheap : ∀ j, (Go.Sort.putRow (Value.int .i64) (Go.Sort.ahead W k) g 0 d).heap[j]? = if g = j then some (.cells (Go.Sort.putCells (Value.int .i64) 0 d cur) 3 (0, 0)) else W.heap[j]? := fun j => by
      show (W.heap.modify g (Go.Sort.onCells (Go.Sort.putCells (Value.int .i64) 0 d)))[j]? = _
      rw [Array.getElem?_modify]
      by_cases hj : g = j
      · rw [if_pos hj, if_pos hj, ← hj, hb]; rfl
      · rw [if_neg hj, if_neg hj]
    refine ⟨⟨by simp [zcells], .inr ⟨g, cap, Go.Sort.putCells (Value.int .i64) 0 d cur, by simp, hg, ?_, by simp; omega, h4, ?_, ?_⟩⟩, ⟨rfl, rfl, rfl, by simp [Go.Sort.ahead], fun j hj hn => ?_⟩⟩
    · rw [hheap, if_pos rfl]
    · simp [Go.Sort.putCells, h5]
    · apply List.ext_getElem
      · simp [zcells, Go.Sort.putCells]; omega
      · intro i h7 h8
        have hi : i < q.length - 1 := by simpa [zcells] using h8
        rw [List.getElem_take]
        simp only [Go.Sort.putCells, Array.getElem_toList, Array.getElem_mapIdx]
        rw [if_pos ⟨Nat.zero_le _, by omega⟩]
        simp only [zcells, List.getElem_map, List.getElem_drop]
        congr 1
        rw [Nat.sub_zero, getElem!_pos d i (by omega)]
        subst hd
        simp [List.getElem_append, hi, Nat.add_comm]
    · rw [hheap, if_neg (by simpa using fun h => hn (by simp [h]))]
set_option maxRecDepth 100000 in
set_option maxHeartbeats 2000000 in
theorem m_pop (R : MR w b t) :
    Calls Tryd.prog 50 #[.pointer (some ⟨b.g, 0, none⟩)] w fun e w' => e = .returned (.tuple #[.int .i64 t.popV, .int .i64 t.popE]) ∧ ChgM w b t.popM w' := by
  have HR := hid R
  by_cases h0 : t.qu = []
  · have e2 : t.popE = 4 := by simp [MT.popE, h0]
    have e1 : t.popV = 0 := by simp [MT.popV, h0]
    have e3 : t.popM = t := by simp [MT.popM, h0]; cases t; simp at h0 ⊢; exact h0
    have hl0 : ((t.qu.length : Nat) : Int) = 0 := by rw [h0]; rfl
    obtain ⟨A, cap, hqs, hqc, hqm, _⟩ := own_cut R.Q
    have hcq := R.c17
    rw [hqs] at hcq
    rw [e1, e2, e3]; clear e1 e2 e3 R h0 hqs
    go_enter Tryd.func50, Tryd.ntmps50
    go_wp2_with (go_at_call 41; refine (m_made HR.out).mono ?_; rintro e w' ⟨rfl, n1, rfl⟩)
    go_ret2
    exact ⟨rfl, ChgM.same HR.out (Kp.draw _ _)⟩
  · rcases R.q_form with ⟨hv, h9⟩ | ⟨g, cap, hv, hc1, hc2, hcl⟩
    · exact absurd h9 h0
    · have hql := R.ok.qu
      have hcq := R.c17
      rw [hv] at hcq
      have e2 : t.popE = 0 := by simp [MT.popE, h0]
      rw [e2]
      have hpos : 0 < t.qu.length := List.length_pos_iff.2 h0
      have hz : ((t.qu.length : Nat) : Int) ≠ 0 := by omega
      have hz1 : (((t.qu.length : Nat) : Int) == 0) = false := beq_eq_false_iff_ne.2 hz
      have hz2 : (t.qu.length == 0) = false := beq_eq_false_iff_ne.2 (by omega)
      have hc0 : w.cell? ⟨g, 0, none⟩ = some (.int .i64 t.popV) := hcl 0 hpos
      have Q := R.Q
      rw [hv] at Q
      have HQ := hid Q
      have HV := hid hv
      have HH0 := hid h0
      unfold maxLen at hc2
      have HHOLD : Hid (∀ n, Go.Sort.Holds (Value.int .i64) (w.drewN n) g 0 t.qu.toArray) := fun n j hj => by
        have hj' : j < t.qu.length := by simpa using hj
        refine ⟨?_, ?_⟩
        · rw [Nat.zero_add]
          refine (hcl j hj').trans ?_
          rw [getElem!_pos t.qu.toArray j hj, List.getD_eq_getElem?_getD, List.getElem?_eq_getElem hj']
          rfl
        · rcases Q.2 with ⟨hv', _⟩ | ⟨g', cap', cur, hv', _, hb, _⟩
          · cases hv'
          · cases hv'
            exact Blk.frozen (cs := cur) (t := 3) hb _
      have HCAP : Hid (t.qu.length ≤ cap ∧ cap ≤ 9223372036854775807) := ⟨hc1, hc2⟩
      have HGC : Hid (∀ V : World, Kp [g] w V → ∃ u, V.cell? ⟨b.g, 17, none⟩ = some u ∧ V.frozen? ⟨b.g, 17, none⟩ = false) := fun V k => HR.out.g17 k (fun hm => by
        simp at hm
        exact (HR.out.blocks.2.1 b.g (by rw [HV.out, hm]; rfl)).1 rfl)
      have HOK : Hid (MT.Ok t.popM) := R.ok.setQ (by simp; omega) (fun y hy => R.ok.iqu y (List.mem_of_mem_drop hy))
      generalize t.popV = pv at hc0 ⊢
      clear e2 R h0 hv hcl hz Q
      go_enter Tryd.func50, Tryd.ntmps50
      go_wp2_with (go_at_call 41; refine (m_made HR.out).mono ?_; rintro e w' ⟨rfl, n1, rfl⟩)
      refine (AnyG.slices_Delete_int Tryd.deleteL g 0 cap 0 1 t.qu _ (HHOLD.out _) HCAP.out.1 HCAP.out.2 (by omega) (by omega)).mono ?_
      rintro e w2 ⟨rfl, k, hw2⟩
      obtain ⟨O2, K2⟩ := del_first (W := w.drewN n1) (show (w.drewN n1).ownsRow _ _ _ _ _ _ from HQ.out) HH0.out k
      rw [← hw2] at O2 K2
      have hk9 : Kp [g] w w2 := K2.from_drewN
      obtain ⟨u9, hu9, hf9⟩ := HGC.out w2 hk9
      have HO2 := hid O2
      have HK9 := hid hk9
      clear hw2 O2 K2 hk9
      go_wp2
      go_ret2
      have hb9 : b.qv.ownBlock = some g := by rw [HV.out]; rfl
      have hk9 := HK9.out
      exact ⟨rfl, HR.out.setQ (q := t.qu.drop 1) HOK.out (by rw [hb9]; exact hk9) HO2.out (fun y hy => .inl (by rw [hb9]; simpa [Value.ownBlock] using hy))⟩
end
end Go.Proofs.YtbiompmklijgoaaDoor
/-
  A slice of numbers that grows by zeros; the contracts of package model's New, isValid. Conditions: those that stand in each theorem.
-/
namespace Go.Proofs.YtbiompmklijgoaaDoor
set_option linter.unusedVariables false
set_option linter.unusedSimpArgs false
open Go.RowKit Go.Deep Go.Maps

def zer (k : Nat) : List Int := List.replicate k 0
theorem zer_cells (k : Nat) : Builtin.zeroCells (Value.int .i64 0).cells k = (zcells (zer k)).toArray := by
  apply Array.toList_inj.1
  apply List.ext_getElem
  · simp [Builtin.zeroCells, zcells, zer, Value.cells]
  · intro i h3 h4
    have hi : i % 1 = 0 := Nat.mod_one i
    simp [Builtin.zeroCells, zcells, zer, Value.cells, hi]
section
variable {w w' W : World}
/-- append of so many zeros to a slice of one's own. -/
theorem run_append_zeros (W : World) {v : Value} {L : List Int} {k : Nat} (hown : W.ownsRow 0 3 1 v L.length (zcells L)) (hs : L.length + k ≤ 200000000) (ty : TypeId) :
    ∃ v' W', (Builtin.append_ #[45, 3] ty #[v, .int .i64 (k : Int)]).run Tryd.prog W = .ok v' W' ∧ W'.ownsRow 0 3 1 v' (L ++ zer k).length (zcells (L ++ zer k)) ∧ W.grownBy W' v.ownBlock ∧ (v'.ownBlock = v.ownBlock ∨ v'.ownBlock = some W.heap.size) := by
  obtain ⟨i0, hi0, hz0, hz1, hz2⟩ := info_parts infoInt
  have ht := Tryd.underlying45
  have htn := Tryd.underlying3
  have hlen : (zcells (L ++ zer k)).length = (L.length + k) * 1 := by rw [zcells_length]; simp [zer]
  have hL : (L ++ zer k).length = L.length + k := by simp [zer]
  have hze : zcells (L ++ zer k) = zcells L ++ zcells (zer k) := by simp [zcells]
  have hw : IntKind.i64.wrap (k : Int) = k := by rw [IntKind.wrap_i64]; omega
  have hneg : ¬ ((k : Int) < 0) := by omega
  have h48i : ¬ (281474976710656 < (k : Int) * 8) := by omega
  rw [hL]
  have grown : ∀ (old : Nat), old < L.length + k → ∀ (row : Option Nat),
      (W.drew.alloc (.cells ((zcells L).toArray ++ Builtin.zeroCells (Value.int .i64 0).cells k ++ Builtin.zeroCells (Value.int .i64 0).cells (grownCap W (L.length + k) old 3 - (L.length + k))) 3)).ownsRow 0 3 1
        (.slice (some ⟨W.heap.size, 0, none⟩) (L.length + k) (grownCap W (L.length + k) old 3)) (L.length + k) (zcells (L ++ zer k)) ∧
      W.grownBy (W.drew.alloc (.cells ((zcells L).toArray ++ Builtin.zeroCells (Value.int .i64 0).cells k ++ Builtin.zeroCells (Value.int .i64 0).cells (grownCap W (L.length + k) old 3 - (L.length + k))) 3)) row := by
    intro old ho row
    have hge := grownCap_ge W (L.length + k) old 3
    have hcm : grownCap W (L.length + k) old 3 ≤ maxLen := grownCap_le_maxLen W (L.length + k) old 3 (by unfold maxLen; omega)
    refine ⟨⟨hlen, .inr ⟨W.heap.size, _, _, rfl, Nat.zero_le _, heap_alloc_new W.drew _, hge, hcm, ?_, ?_⟩⟩, ⟨rfl, rfl, rfl, by simp, fun j hj _ => heap_alloc_old W.drew _ hj⟩⟩
    · simp only [Array.size_append, List.size_toArray, size_zeroCells, zcells_length, Value.cells]
      simp
      omega
    · rw [zer_cells, hze]
      simp only [Array.toList_append, List.append_assoc]
      rw [← List.append_assoc, ← hlen, hze]
      exact List.take_left
  rcases hown.2 with ⟨rfl, h0⟩ | ⟨g, cap, cur, rfl, hbg, hg, hnc, hcm, hcs, htake⟩
  · have hx : L = [] := List.length_eq_zero_iff.1 h0
    subst hx
    rcases Nat.eq_zero_or_pos k with hk | hk
    · subst hk
      refine ⟨.slice none 0 0, W, ?_, ⟨rfl, .inl ⟨rfl, rfl⟩⟩, ⟨rfl, rfl, rfl, Nat.le_refl _, fun _ _ _ => rfl⟩, .inl rfl⟩
      simp [Builtin.append_, run_underlying ht, run_underlying htn, sizeOf, typeInfo, zeroValue, hi0, hz0, hz1, asInt, asIntOf, IntKind.wrap_i64]
    · have hr := Lib.run_append_nil_zeros (P := Tryd.prog) W 45 3 ty 3 i0 (.int .i64 0) .i64 .i64 ht htn hi0 hz0 k hk (by omega) (by omega) (by rw [hz2]; omega)
      have hgr := grown 0 (by simp; omega) (Value.ownBlock (.slice none 0 0))
      simp only [List.length_nil, Nat.zero_add] at hgr ⊢
      have e : (zcells []).toArray ++ Builtin.zeroCells (Value.int .i64 0).cells k ++ Builtin.zeroCells (Value.int .i64 0).cells (grownCap W k 0 3 - k) = Builtin.zeroCells (Value.int .i64 0).cells k ++ Builtin.zeroCells (Value.int .i64 0).cells (grownCap W k 0 3 - k) := by simp [zcells]
      rw [e] at hgr
      exact ⟨_, _, hr, hgr.1, hgr.2, .inr rfl⟩
  · by_cases hroom : L.length + k ≤ cap
    · have hfit : L.length + (zcells (zer k)).length ≤ cur.size := by rw [zcells_length, hcs]; simp [zer]; omega
      have hst := run_storeCells_at Tryd.prog g L.length 3 (zcells (zer k)) 0 cur W hg (by simpa using hfit) (fun u hu => by
        unfold zcells at hu
        obtain ⟨x, _, rfl⟩ := List.mem_map.1 hu
        rfl)
      simp only [Nat.add_zero] at hst
      have hr : (Builtin.append_ #[45, 3] ty #[.slice (some ⟨g, 0, none⟩) L.length cap, .int .i64 (k : Int)]).run Tryd.prog W = .ok (.slice (some ⟨g, 0, none⟩) (L.length + k) cap) (W.setRow g (cur.toList.take L.length ++ zcells (zer k) ++ cur.toList.drop (L.length + (zcells (zer k)).length)).toArray) := by
        rcases Nat.eq_zero_or_pos k with hk | hk
        · subst hk
          have e : (W.setRow g (cur.toList.take L.length ++ zcells (zer 0) ++ cur.toList.drop (L.length + (zcells (zer 0)).length)).toArray) = W := by
            simp only [zer, zcells, List.replicate_zero, List.map_nil, List.append_nil, List.length_nil, Nat.add_zero, List.take_append_drop, Array.toArray_toList]
            rw [setRow_self W g cur 3 (0, 0) hg]
          rw [e]
          simp [Builtin.append_, run_underlying ht, run_underlying htn, sizeOf, typeInfo, zeroValue, hi0, hz0, hz1, hz2, asInt, asIntOf, IntKind.wrap_i64, hnc, storeCells]
        · have hk0 : k ≠ 0 := by omega
          simp [Builtin.append_, run_underlying ht, run_underlying htn, sizeOf, typeInfo, zeroValue, hi0, hz0, hz1, hz2, asInt, asIntOf, hw, hneg, h48i, hroom, hk0, zer_cells, Addr.add_lit, hst]
      refine ⟨_, _, hr, ⟨hlen, .inr ⟨g, cap, _, rfl, hbg, setRow_heap W g cur _ 3 _ hg, hroom, hcm, ?_, ?_⟩⟩, ⟨rfl, rfl, rfl, by simp, fun j _ hj => setRow_other W g j _ (fun e => hj (by simp [Value.ownBlock, e]))⟩, .inl rfl⟩
      · simp only [List.size_toArray, List.length_append, List.length_take, List.length_drop, Array.length_toList]
        rw [zcells_length] at hfit ⊢
        omega
      · rw [Nat.mul_one] at htake
        rw [htake, ← hlen, hze]
        exact List.take_left
    · have holds : ∀ j u, (zcells L)[j]? = some u → W.cell? ((⟨g, 0, none⟩ : Addr).add j) = some u := hown.cells (g := g) rfl
      have hk : 0 < k := by omega
      have hr := Lib.run_append_grow_zeros (P := Tryd.prog) W 45 3 ty 3 i0 (.int .i64 0) .i64 .i64 ht htn hi0 hz0 (some ⟨g, 0, none⟩) L.length cap (zcells L) (run_firstCells_some (P := Tryd.prog) W.drew i0.size L.length ⟨g, 0, none⟩ L.length cap (zcells L) (by rw [zcells_length, hz1, Nat.mul_one]) holds) k hk (by omega) (by omega) (by omega) (by rw [hz2]; omega) (growslice_fits (by omega) (by rw [hz2]; omega))
      have hgr := grown cap (by omega) (Value.ownBlock (.slice (some ⟨g, 0, none⟩) L.length cap))
      exact ⟨_, _, hr, hgr.1, hgr.2, .inr rfl⟩
theorem step_append_zeros {ops : Array Oper} {o : Oper} {a : Act} {K : Act → World → Prop} {Q : Exit → Act → World → Prop} {E : Prop} (hgd : o.guard = none) (s x : Operand)
    (ho : o.op = .call { callee := .builtin .append, args := #[s, x], argTypes := #[45, 3] })
    {v : Value} {L : List Int} {k : Nat} (hs : a.eval s = v) (hx : a.eval x = .int .i64 (k : Int)) (hown : W.ownsRow 0 3 1 v L.length (zcells L)) (hl : L.length + k ≤ 200000000)
    (h : ∀ v' W', W'.ownsRow 0 3 1 v' (L ++ zer k).length (zcells (L ++ zer k)) → W.grownBy W' v.ownBlock → (v'.ownBlock = v.ownBlock ∨ v'.ownBlock = some W.heap.size) → K (a.put o.dst v') W') :
    if Region.wanted o (yielded ops a.tmps) = true then Oper.wp Tryd.prog o a W K Q else E := by
  have hw : Region.wanted o (yielded ops a.tmps) = true := by simp [Region.wanted, hgd]
  rw [if_pos hw]
  obtain ⟨v', W', hr, o2, g2, hat⟩ := run_append_zeros W hown hl o.type
  unfold Oper.wp execOp
  simp only [ho, resolve, invoke, builtin, Sem.run_bind, Sem.run_pure, Result.andThen_ok, List.map_toArray, List.map_cons, List.map_nil, hs, hx, hr]
  exact h v' W' o2 g2 hat
end
end Go.Proofs.YtbiompmklijgoaaDoor
/-
  The contracts of package model's New, isValid. Conditions: those that stand in each theorem.
-/
namespace Go.Proofs.YtbiompmklijgoaaDoor
set_option linter.unusedVariables false
set_option linter.unusedSimpArgs false
open Go.RowKit Go.Deep Go.Maps

section
variable {w w' W : World}
set_option maxRecDepth 100000 in
set_option maxHeartbeats 2000000 in
theorem m_isValid0 (hz : LZ w) (r d : Int) :
    Calls Tryd.prog 96 #[.agg #[.int .i64 r, .int .i64 d, .int .i64 0]] w fun e w' => e = .returned (.bool (shB r d 0)) ∧ Kp [] w w' := by
  have K0 := Kp.new w (.cells #[.int .i64 r, .int .i64 d, .int .i64 0] 33)
  have hb := Blk.new w 33 #[.int .i64 r, .int .i64 d, .int .i64 0]
  have b0 := hb.cell 0
  have b1 := hb.cell 1
  have b2 := hb.cell 2
  obtain ⟨z0, z1, z2, z3⟩ := hz.kp0 K0
  have HK := hid K0
  clear K0 hb hz
  by_cases a1 : (0 : Int) ≤ r
  · have d3 : decide ((0 : Int) ≤ r) = true := decide_eq_true a1
    by_cases a2 : r ≤ 15
    · have d4 : decide (r ≤ (15 : Int)) = true := decide_eq_true a2
      by_cases a3 : 0 ≤ d
      · have d5 : decide ((0 : Int) ≤ d) = true := decide_eq_true a3
        by_cases a4 : d ≤ 200
        · have d6 : decide (d ≤ (200 : Int)) = true := decide_eq_true a4
          rw [show shB r d 0 = true from decide_eq_true (by omega)]
          go_enter Tryd.func96, Tryd.ntmps96
          go_wp2
          go_quiet (fail)
          go_wp2
          go_ret
          exact ⟨rfl, HK.out.drewN _⟩
        · have d6 : decide (d ≤ (200 : Int)) = false := decide_eq_false a4
          rw [show shB r d 0 = false from decide_eq_false (by omega)]
          go_enter Tryd.func96, Tryd.ntmps96
          go_wp2
          go_quiet (fail)
          go_wp2
          go_ret
          exact ⟨rfl, HK.out.drewN _⟩
      · have d5 : decide ((0 : Int) ≤ d) = false := decide_eq_false a3
        rw [show shB r d 0 = false from decide_eq_false (by omega)]
        go_enter Tryd.func96, Tryd.ntmps96
        go_wp2
        go_quiet (fail)
        go_wp2
        go_ret
        exact ⟨rfl, HK.out.drewN _⟩
    · have d4 : decide (r ≤ (15 : Int)) = false := decide_eq_false a2
      rw [show shB r d 0 = false from decide_eq_false (by omega)]
      go_enter Tryd.func96, Tryd.ntmps96
      go_wp2
      go_quiet (fail)
      go_wp2
      go_ret
      exact ⟨rfl, HK.out.drewN _⟩
  · have d3 : decide ((0 : Int) ≤ r) = false := decide_eq_false a1
    rw [show shB r d 0 = false from decide_eq_false (by omega)]
    go_enter Tryd.func96, Tryd.ntmps96
    go_wp2
    go_quiet (fail)
    go_wp2
    go_ret
    exact ⟨rfl, HK.out.drewN _⟩
set_option maxRecDepth 100000 in
set_option maxHeartbeats 2000000 in
theorem m_isValid1 (hz : LZ w) (r d : Int) :
    Calls Tryd.prog 96 #[.agg #[.int .i64 r, .int .i64 d, .int .i64 1]] w fun e w' => e = .returned (.bool (shB r d 1)) ∧ Kp [] w w' := by
  have K0 := Kp.new w (.cells #[.int .i64 r, .int .i64 d, .int .i64 1] 33)
  have hb := Blk.new w 33 #[.int .i64 r, .int .i64 d, .int .i64 1]
  have b0 := hb.cell 0
  have b1 := hb.cell 1
  have b2 := hb.cell 2
  obtain ⟨z0, z1, z2, z3⟩ := hz.kp0 K0
  have HK := hid K0
  clear K0 hb hz
  by_cases a1 : (1 : Int) ≤ r
  · have d3 : decide ((1 : Int) ≤ r) = true := decide_eq_true a1
    by_cases a2 : r ≤ 15
    · have d4 : decide (r ≤ (15 : Int)) = true := decide_eq_true a2
      by_cases a3 : 0 ≤ d
      · have d5 : decide ((0 : Int) ≤ d) = true := decide_eq_true a3
        by_cases a4 : d ≤ 200
        · have d6 : decide (d ≤ (200 : Int)) = true := decide_eq_true a4
          rw [show shB r d 1 = true from decide_eq_true (by omega)]
          go_enter Tryd.func96, Tryd.ntmps96
          go_wp2
          go_quiet (fail)
          go_wp2
          go_ret
          exact ⟨rfl, HK.out.drewN _⟩
        · have d6 : decide (d ≤ (200 : Int)) = false := decide_eq_false a4
          rw [show shB r d 1 = false from decide_eq_false (by omega)]
          go_enter Tryd.func96, Tryd.ntmps96
          go_wp2
          go_quiet (fail)
          go_wp2
          go_ret
          exact ⟨rfl, HK.out.drewN _⟩
      · have d5 : decide ((0 : Int) ≤ d) = false := decide_eq_false a3
        rw [show shB r d 1 = false from decide_eq_false (by omega)]
        go_enter Tryd.func96, Tryd.ntmps96
        go_wp2
        go_quiet (fail)
        go_wp2
        go_ret
        exact ⟨rfl, HK.out.drewN _⟩
    · have d4 : decide (r ≤ (15 : Int)) = false := decide_eq_false a2
      rw [show shB r d 1 = false from decide_eq_false (by omega)]
      go_enter Tryd.func96, Tryd.ntmps96
      go_wp2
      go_quiet (fail)
      go_wp2
      go_ret
      exact ⟨rfl, HK.out.drewN _⟩
  · have d3 : decide ((1 : Int) ≤ r) = false := decide_eq_false a1
    rw [show shB r d 1 = false from decide_eq_false (by omega)]
    go_enter Tryd.func96, Tryd.ntmps96
    go_wp2
    go_quiet (fail)
    go_wp2
    go_ret
    exact ⟨rfl, HK.out.drewN _⟩
set_option maxRecDepth 100000 in
set_option maxHeartbeats 2000000 in
theorem m_isValid2 (hz : LZ w) (r d : Int) :
    Calls Tryd.prog 96 #[.agg #[.int .i64 r, .int .i64 d, .int .i64 2]] w fun e w' => e = .returned (.bool (shB r d 2)) ∧ Kp [] w w' := by
  have K0 := Kp.new w (.cells #[.int .i64 r, .int .i64 d, .int .i64 2] 33)
  have hb := Blk.new w 33 #[.int .i64 r, .int .i64 d, .int .i64 2]
  have b0 := hb.cell 0
  have b1 := hb.cell 1
  have b2 := hb.cell 2
  obtain ⟨z0, z1, z2, z3⟩ := hz.kp0 K0
  have HK := hid K0
  clear K0 hb hz
  by_cases a1 : (2 : Int) ≤ r
  · have d3 : decide ((2 : Int) ≤ r) = true := decide_eq_true a1
    by_cases a2 : r ≤ 15
    · have d4 : decide (r ≤ (15 : Int)) = true := decide_eq_true a2
      by_cases a3 : 0 ≤ d
      · have d5 : decide ((0 : Int) ≤ d) = true := decide_eq_true a3
        by_cases a4 : d ≤ 200
        · have d6 : decide (d ≤ (200 : Int)) = true := decide_eq_true a4
          rw [show shB r d 2 = true from decide_eq_true (by omega)]
          go_enter Tryd.func96, Tryd.ntmps96
          go_wp2
          go_quiet (fail)
          go_wp2
          go_ret
          exact ⟨rfl, HK.out.drewN _⟩
        · have d6 : decide (d ≤ (200 : Int)) = false := decide_eq_false a4
          rw [show shB r d 2 = false from decide_eq_false (by omega)]
          go_enter Tryd.func96, Tryd.ntmps96
          go_wp2
          go_quiet (fail)
          go_wp2
          go_ret
          exact ⟨rfl, HK.out.drewN _⟩
      · have d5 : decide ((0 : Int) ≤ d) = false := decide_eq_false a3
        rw [show shB r d 2 = false from decide_eq_false (by omega)]
        go_enter Tryd.func96, Tryd.ntmps96
        go_wp2
        go_quiet (fail)
        go_wp2
        go_ret
        exact ⟨rfl, HK.out.drewN _⟩
    · have d4 : decide (r ≤ (15 : Int)) = false := decide_eq_false a2
      rw [show shB r d 2 = false from decide_eq_false (by omega)]
      go_enter Tryd.func96, Tryd.ntmps96
      go_wp2
      go_quiet (fail)
      go_wp2
      go_ret
      exact ⟨rfl, HK.out.drewN _⟩
  · have d3 : decide ((2 : Int) ≤ r) = false := decide_eq_false a1
    rw [show shB r d 2 = false from decide_eq_false (by omega)]
    go_enter Tryd.func96, Tryd.ntmps96
    go_wp2
    go_quiet (fail)
    go_wp2
    go_ret
    exact ⟨rfl, HK.out.drewN _⟩
set_option maxRecDepth 100000 in
set_option maxHeartbeats 2000000 in
theorem m_isValid3 (hz : LZ w) (r d : Int) :
    Calls Tryd.prog 96 #[.agg #[.int .i64 r, .int .i64 d, .int .i64 3]] w fun e w' => e = .returned (.bool (shB r d 3)) ∧ Kp [] w w' := by
  have K0 := Kp.new w (.cells #[.int .i64 r, .int .i64 d, .int .i64 3] 33)
  have hb := Blk.new w 33 #[.int .i64 r, .int .i64 d, .int .i64 3]
  have b0 := hb.cell 0
  have b1 := hb.cell 1
  have b2 := hb.cell 2
  obtain ⟨z0, z1, z2, z3⟩ := hz.kp0 K0
  have HK := hid K0
  clear K0 hb hz
  by_cases a1 : (0 : Int) ≤ r
  · have d3 : decide ((0 : Int) ≤ r) = true := decide_eq_true a1
    by_cases a2 : r ≤ 15
    · have d4 : decide (r ≤ (15 : Int)) = true := decide_eq_true a2
      by_cases a3 : 0 ≤ d
      · have d5 : decide ((0 : Int) ≤ d) = true := decide_eq_true a3
        by_cases a4 : d ≤ 200
        · have d6 : decide (d ≤ (200 : Int)) = true := decide_eq_true a4
          rw [show shB r d 3 = true from decide_eq_true (by omega)]
          go_enter Tryd.func96, Tryd.ntmps96
          go_wp2
          go_quiet (fail)
          go_wp2
          go_ret
          exact ⟨rfl, HK.out.drewN _⟩
        · have d6 : decide (d ≤ (200 : Int)) = false := decide_eq_false a4
          rw [show shB r d 3 = false from decide_eq_false (by omega)]
          go_enter Tryd.func96, Tryd.ntmps96
          go_wp2
          go_quiet (fail)
          go_wp2
          go_ret
          exact ⟨rfl, HK.out.drewN _⟩
      · have d5 : decide ((0 : Int) ≤ d) = false := decide_eq_false a3
        rw [show shB r d 3 = false from decide_eq_false (by omega)]
        go_enter Tryd.func96, Tryd.ntmps96
        go_wp2
        go_quiet (fail)
        go_wp2
        go_ret
        exact ⟨rfl, HK.out.drewN _⟩
    · have d4 : decide (r ≤ (15 : Int)) = false := decide_eq_false a2
      rw [show shB r d 3 = false from decide_eq_false (by omega)]
      go_enter Tryd.func96, Tryd.ntmps96
      go_wp2
      go_quiet (fail)
      go_wp2
      go_ret
      exact ⟨rfl, HK.out.drewN _⟩
  · have d3 : decide ((0 : Int) ≤ r) = false := decide_eq_false a1
    rw [show shB r d 3 = false from decide_eq_false (by omega)]
    go_enter Tryd.func96, Tryd.ntmps96
    go_wp2
    go_quiet (fail)
    go_wp2
    go_ret
    exact ⟨rfl, HK.out.drewN _⟩
set_option maxRecDepth 100000 in
set_option maxHeartbeats 2000000 in
theorem m_isValid (hz : LZ w) (r d k : Int) :
    Calls Tryd.prog 96 #[.agg #[.int .i64 r, .int .i64 d, .int .i64 k]] w fun e w' => e = .returned (.bool (shB r d k)) ∧ Kp [] w w' := by
  by_cases h0 : k < 0
  · have d0 : decide ((0 : Int) ≤ k) = false := decide_eq_false (by omega)
    rw [show shB r d k = false from decide_eq_false (by omega)]
    have hb := Blk.new w 33 #[.int .i64 r, .int .i64 d, .int .i64 k]
    have b2 := hb.cell 2
    have HK := hid (Kp.new w (.cells #[.int .i64 r, .int .i64 d, .int .i64 k] 33))
    clear hb hz
    go_enter Tryd.func96, Tryd.ntmps96
    go_wp2
    go_quiet (fail)
    go_wp2
    go_ret
    exact ⟨rfl, HK.out.drewN _⟩
  · have d0 : decide ((0 : Int) ≤ k) = true := decide_eq_true (by omega)
    by_cases h1 : k < 4
    · have hk : k = 0 ∨ k = 1 ∨ k = 2 ∨ k = 3 := by omega
      rcases hk with rfl | rfl | rfl | rfl
      · exact m_isValid0 hz r d
      · exact m_isValid1 hz r d
      · exact m_isValid2 hz r d
      · exact m_isValid3 hz r d
    · have d1 : decide (k < (4 : Int)) = false := decide_eq_false (by omega)
      rw [show shB r d k = false from decide_eq_false (by omega)]
      have hb := Blk.new w 33 #[.int .i64 r, .int .i64 d, .int .i64 k]
      have b2 := hb.cell 2
      have HK := hid (Kp.new w (.cells #[.int .i64 r, .int .i64 d, .int .i64 k] 33))
      clear hb hz
      go_enter Tryd.func96, Tryd.ntmps96
      go_wp2
      go_quiet (fail)
      go_wp2
      go_ret
      exact ⟨rfl, HK.out.drewN _⟩
end
def MT.new (n : Nat) : MT := ⟨n, List.replicate (16 * n) 0, List.replicate 16 0, [], [], []⟩
theorem infoSlots : (Tryd.prog.info? 80).map (fun i => (i.zero, i.size, i.bytes)) = some (some (.agg (Array.replicate 16 (.int .i64 0))), 16, 128) := by kernel_rfl
theorem zeroModel (w : World) : (zeroValue 48).run Tryd.prog w = .ok (.agg #[.slice none 0 0, .int .i64 0, .int .i64 0, .int .i64 0, .int .i64 0, .int .i64 0, .int .i64 0, .int .i64 0, .int .i64 0, .int .i64 0, .int .i64 0, .int .i64 0, .int .i64 0, .int .i64 0, .int .i64 0, .int .i64 0, .int .i64 0, .slice none 0 0, .slice none 0 0, .slice none 0 0]) w := by kernel_rfl
theorem made_slots {n : Nat} (h1 : 1 ≤ n) (h2 : n ≤ 4) : madeCells (Array.replicate 16 (.int .i64 0)) (n * 16) = (zcells (MT.new n).sl ++ []).toArray := by
  apply Array.toList_inj.1
  apply List.ext_getElem
  · simp [madeCells, zcells, MT.new]; omega
  · intro i h3 h4
    have hi : i % 16 < 16 := Nat.mod_lt _ (by decide)
    simp [madeCells, zcells, MT.new, hi]
theorem MT.Ok.new {n : Nat} (h1 : 1 ≤ n) (h2 : n ≤ 4) : (MT.new n).Ok :=
  ⟨h1, h2, by simp [MT.new], by simp [MT.new], by simp [MT.new], (fun i hi => by simp [MT.new] at hi), (fun i hi => by simp [MT.new] at hi), (fun i j hij hj => by simp [MT.new] at hj), (fun x hx => by
    have := (List.mem_replicate.1 hx).2; subst this; exact ⟨by omega, by simp [MT.new]⟩), (fun x hx => by
    have := (List.mem_replicate.1 hx).2; subst this; exact ⟨by omega, by simp [MT.new]⟩), (fun x hx => by simp [MT.new] at hx), (fun i j hi => by simp [MT.new] at hi), (fun x hx => by simp [MT.new] at hx), ⟨by simp [MT.new], by simp [MT.new]⟩, by simp [MT.new]⟩
section
variable {w w' W : World}
theorem m_new_bad (n : Int) (h : ¬ (1 ≤ n ∧ n ≤ 4)) :
    Calls Tryd.prog 14 #[.int .i64 n] w fun e w' => e = .returned (.tuple #[.pointer none, .int .i64 1]) ∧ ∃ m, w' = w.drewN m := by
  by_cases h1 : n < 1
  · clear h
    go_enter Tryd.func14, Tryd.ntmps14
    go_wp2
    go_ret2
    exact ⟨rfl, 0, rfl⟩
  · have h2 : 4 < n := by omega
    clear h
    go_enter Tryd.func14, Tryd.ntmps14
    go_wp2
    go_ret2
    exact ⟨rfl, 0, rfl⟩
set_option maxRecDepth 100000 in
set_option maxHeartbeats 1000000 in
theorem m_new_ok (hlz : LZ w) (n : Nat) (h1 : 1 ≤ n) (h2 : n ≤ 4) :
    Calls Tryd.prog 14 #[.int .i64 (n : Int)] w fun e w' => ∃ b : MB, e = .returned (.tuple #[.pointer (some ⟨b.g, 0, none⟩), .int .i64 0]) ∧ MR w' b (MT.new n) ∧ Kp [] w w' ∧ ∀ x ∈ b.all, w.heap.size ≤ x := by
  have hz00 : 0 < w.heap.size := cell_lt hlz.1
  have HLZ := hid hlz
  have HZ00 := hid hz00
  clear hlz hz00
  obtain ⟨i0, hi0, hz0, hz1, hz2⟩ := info_parts infoSlots
  have hmk : ∀ W : World, (Instr.makeSlice 43 (.int .i64 (n : Int)) (.int .i64 (n : Int))).run Tryd.prog W = .ok (.slice (some ⟨W.heap.size, 0, none⟩) n n) (W.alloc (.cells (madeCells (Array.replicate 16 (.int .i64 0)) (n * 16)) 80)) := fun W => by
    have := run_make_rowN (P := Tryd.prog) 43 80 i0 _ Tryd.underlying43 hi0 hz0 .i64 .i64 n n (Nat.le_refl _) (by rw [hz2]; omega) (by omega) W
    rw [hz1] at this
    exact this
  have hz := zeroModel
  clear hi0 hz0 hz1 hz2
  go_enter Tryd.func14, Tryd.ntmps14
  go_wp2
  go_ret2
  rw [made_slots h1 h2]
  have hb := Blk.new w 80 (zcells (MT.new n).sl ++ []).toArray
  have hg := Blk.new (w.alloc (.cells (zcells (MT.new n).sl ++ []).toArray 80)) 48 #[.slice (some ⟨w.heap.size, 0, none⟩) n n, .int .i64 0, .int .i64 0, .int .i64 0, .int .i64 0, .int .i64 0, .int .i64 0, .int .i64 0, .int .i64 0, .int .i64 0, .int .i64 0, .int .i64 0, .int .i64 0, .int .i64 0, .int .i64 0, .int .i64 0, .int .i64 0, .slice none 0 0, .slice none 0 0, .slice none 0 0]
  rw [World.size_alloc] at hg
  have hz := HZ00.out
  have kk : Kp [] w ((w.alloc (.cells (zcells (MT.new n).sl ++ []).toArray 80)).alloc (.cells #[.slice (some ⟨w.heap.size, 0, none⟩) n n, .int .i64 0, .int .i64 0, .int .i64 0, .int .i64 0, .int .i64 0, .int .i64 0, .int .i64 0, .int .i64 0, .int .i64 0, .int .i64 0, .int .i64 0, .int .i64 0, .int .i64 0, .int .i64 0, .int .i64 0, .int .i64 0, .slice none 0 0, .slice none 0 0, .slice none 0 0] 48)) := (Kp.new _ _).chain (Kp.new _ _)
  refine ⟨⟨w.heap.size + 1, w.heap.size, .slice none 0 0, .slice none 0 0, .slice none 0 0⟩, rfl, ⟨MT.Ok.new h1 h2, HLZ.out.kp0 kk, ?_, ⟨n, [], Nat.le_refl _, by unfold maxLen; omega, by simp [MT.new, zcells], hg, hb.kp (Kp.new _ _) (by simp)⟩, ⟨rfl, .inl ⟨rfl, rfl⟩⟩, ⟨rfl, .inl ⟨rfl, rfl⟩⟩, ⟨rfl, .inl ⟨rfl, rfl⟩⟩, fun x hx => by simp [Value.ownBlock] at hx⟩, kk, ?_⟩
  · intro hm
    simp [MB.all, Value.ownBlock] at hm
    omega
  · intro x hx
    simp [MB.all, Value.ownBlock] at hx
    omega
end
end Go.Proofs.YtbiompmklijgoaaDoor
