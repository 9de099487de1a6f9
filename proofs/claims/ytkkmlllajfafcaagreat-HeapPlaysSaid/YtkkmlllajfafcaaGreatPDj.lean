/-
  The contract of the document's heap's Poke. Conditions: those that stand in each theorem.
-/
import Derived.BigQuiet
import Derived.Deep.RegionHeld3
import Derived.Test.YtkkmlllajfafcaaGreatPDh
namespace Go.Proofs.YtkkmlllajfafcaaGreat
set_option linter.unusedVariables false
set_option linter.unusedSimpArgs false
open Go.RowKit Go.Deep Go.Maps

section
variable {w w' W : World} {d : DB} {q : Nat} {m : HM}
set_option maxRecDepth 100000 in
set_option maxHeartbeats 2000000 in
theorem d_poke (T : DR w d q m) (a v : Int) :
    Calls Tryz.prog 74 #[.pointer (some ⟨d.g, 0, none⟩), .int .i64 a, .int .i64 v] w fun e w' => e = .returned (.int .i64 (m.pokeE a)) ∧ DChg w d q (m.pokeM a v) w' := by
  have HT := hid T
  have hnb := T.inv.n_bd
  rcases hb : inB m.n a
  · have e1 : m.pokeE a = 1 := by simp [HM.pokeE, hb]
    have e2 : m.pokeM a v = m := by simp [HM.pokeM, e1]
    rw [e1, e2]
    have HB := hid hb
    clear T hb e1 e2
    go_enter Tryz.func74, Tryz.ntmps74
    go_wp2_with (first
      | (go_at_call 60; refine (d_made HT.out).mono ?_; rintro e w' ⟨rfl, n1, rfl⟩)
      | (go_at_call 147; refine (d_word (HT.out.drewN n1) a).mono ?_; rintro e w' ⟨rfl, n2, rfl⟩; rw [HB.out]))
    go_ret
    exact ⟨rfl, DChg.same HT.out (by first | exact Kp.draw _ _ | exact (Kp.draw _ _).drewN _ | exact ((Kp.draw _ _).drewN _).drewN _ | exact (((Kp.draw _ _).drewN _).drewN _).drewN _)⟩
  · have HB := hid hb
    have hbd := of_decide_eq_true hb
    obtain ⟨k, rfl⟩ : ∃ k : Nat, a = (k : Int) := ⟨a.toNat, by omega⟩
    have HW64 : Hid (W64 (k : Int)) := ⟨by omega, by omega⟩
    have hko : m.ownI (k : Int) = m.own k := by unfold HM.ownI; rw [if_pos (by omega), Int.toNat_natCast]
    by_cases h0 : m.own k = 0
    · have hfB : m.fieldB (k : Int) = false := by
        unfold HM.fieldB
        rw [hko, h0]
        rcases ho : m.ob 0 with _ | o
        · rfl
        · have := T.inv.lo ho; omega
      have e1 : m.pokeE (k : Int) = 4 := by simp [HM.pokeE, hb, hfB]
      have e2 : m.pokeM (k : Int) v = m := by simp [HM.pokeM, e1]
      have HF : Hid (m.ownI (k : Int) = 0 ∧ m.findE (k : Int) = 4) := ⟨by rw [hko, h0], by unfold HM.findE; rw [hko, if_pos h0]⟩
      rw [e1, e2]
      clear T hb e1 e2 h0 hko hfB
      go_enter Tryz.func74, Tryz.ntmps74
      go_wp2_with (first
        | (go_at_call 60; refine (d_made HT.out).mono ?_; rintro e w' ⟨rfl, n1, rfl⟩)
        | (go_at_call 147; refine (d_word (HT.out.drewN n1) _).mono ?_; rintro e w' ⟨rfl, n2, rfl⟩; rw [HB.out])
        | (go_at_call 148; refine (d_find (by first | exact HT.out.drewN _ | exact (HT.out.drewN _).drewN _) _ HW64.out).mono ?_; rintro e w3 ⟨rfl, K3⟩; rw [HF.out.1, HF.out.2]; have HK3 := hid ((Kp.draw w _).chain K3); clear K3))
      go_ret
      exact ⟨rfl, DChg.same HT.out HK3.out⟩
    · obtain ⟨o, ho, h1, h2⟩ := own_at_ob T.inv h0
      obtain ⟨i, x, hi, hx, hxo⟩ := T.lst.get ho
      subst hxo
      have HF : Hid (m.ownI (k : Int) = x.a ∧ m.findE (k : Int) = 0) := ⟨by rw [hko, hx], by unfold HM.findE; rw [hko, if_neg h0]⟩
      obtain ⟨j, hkj⟩ : ∃ j, k = x.a + j := ⟨k - x.a, by omega⟩
      have hfB : m.fieldB (k : Int) = decide (2 ≤ j ∧ j < 2 + (x.o.refs + x.o.data)) := by
        unfold HM.fieldB
        rw [HF.out.1, hx, ho]
        simp only
        rw [← hx]
        refine decide_eq_decide.2 ?_
        omega
      have hok := T.ok hi
      have hbd2 := hok.bd
      have hlen := T.len
      have hil := (List.getElem?_eq_some_iff.1 hi).1
      have hhi := T.inv.hi (T.lst.ob hi)
      have hwd := hok.wd_bd
      have hjw : j < x.o.wd := by omega
      have HOK := hid hok
      have HE := hid (T.lst.ix_at hi)
      have HI := hid hi
      have hsj0 : (k : Int) - (x.a : Int) = (j : Int) := by omega
      have HKJ := hid hkj
      by_cases j2 : 2 ≤ j ∧ j < 2 + (x.o.refs + x.o.data)
      · have e1 : m.pokeE (k : Int) = 0 := by simp [HM.pokeE, hb, hfB, j2]
        obtain ⟨i2, hi2⟩ : ∃ i2, j = i2 + 2 := ⟨j - 2, by omega⟩
        have hsub : (j : Int) - 2 = (i2 : Int) := by omega
        have HZ : Hid (m.pokeM (k : Int) v = m.setF x.a i2 v) := by
          show _ = _
          unfold HM.pokeM
          rw [if_pos e1, HF.out.1, Int.toNat_natCast, show k - x.a - 2 = i2 by omega]
        rw [e1]
        by_cases c2 : i2 < x.o.refs
        · have HC2 := hid c2
          have d1 : decide ((i2 : Int) < 0) = false := decide_eq_false (by omega)
          have d2 : decide ((x.o.refs : Int) + (x.o.data : Int) ≤ (i2 : Int)) = false := decide_eq_false (by omega)
          have d3 : decide ((i2 : Int) < (x.o.refs : Int)) = true := decide_eq_true (by omega)
          clear T hb h0 hko ho h1 h2 hi hx hok hkj e1 hfB j2 hi2
          go_enter Tryz.func74, Tryz.ntmps74
          go_wp2_with (first
            | (go_at_call 60; refine (d_made HT.out).mono ?_; rintro e w' ⟨rfl, n1, rfl⟩)
            | (go_at_call 147; refine (d_word (HT.out.drewN n1) _).mono ?_; rintro e w' ⟨rfl, n2, rfl⟩; rw [HB.out])
            | (go_at_call 148; refine (d_find (by first | exact HT.out.drewN _ | exact (HT.out.drewN _).drewN _) _ HW64.out).mono ?_; rintro e w1 ⟨rfl, K3⟩; rw [HF.out.1, HF.out.2]; have HK1 := hid ((Kp.draw w _).chain K3); clear K3; have HT1 := hid (HT.out.kp0 HK1.out); obtain ⟨g, cap, hov, _, _, hgm, hO, _⟩ := HT1.out.ocell HI.out; have hc1 := HT1.out.c1; rw [hov] at hc1; have k5 := hO.c5; have k6 := hO.c6; clear hO hov hgm))
          have hrc := HT1.out.rcell HI.out HC2.out
          have hfr : w1.frozen? ⟨x.rb, i2, none⟩ = false := by
            obtain ⟨⟨sp, B1⟩, sp2, B2⟩ := HT1.out.R x (List.mem_of_getElem? HI.out)
            exact B1.frozen i2
          generalize x.o.fs.getD i2 0 = y at hrc
          go_wp2_with (go_at_call 141; refine (d_index HT1.out _).mono ?_; rintro e w' ⟨rfl, n4, rfl⟩; rw [HE.out])
          go_ret
          refine ⟨rfl, ?_⟩
          rw [HZ.out]
          exact DR.setRef_end HT.out HI.out HC2.out v (HK1.out.chain (by first | exact Kp.draw _ _ | exact (Kp.draw _ _).drewN _ | exact ((Kp.draw _ _).drewN _).drewN _ | exact (((Kp.draw _ _).drewN _).drewN _).drewN _))
        · obtain ⟨i3, hi3⟩ : ∃ i3, i2 = x.o.refs + i3 := ⟨i2 - x.o.refs, by omega⟩
          have hsub2 : (i2 : Int) - (x.o.refs : Int) = (i3 : Int) := by omega
          have h3 : i3 < x.o.data := by omega
          have HC2 := hid h3
          have HI3 := hid hi3
          have d1 : decide ((i2 : Int) < 0) = false := decide_eq_false (by omega)
          have d2 : decide ((x.o.refs : Int) + (x.o.data : Int) ≤ (i2 : Int)) = false := decide_eq_false (by omega)
          have d3 : decide ((i2 : Int) < (x.o.refs : Int)) = false := decide_eq_false (by omega)
          clear T hb h0 hko ho h1 h2 hi hx hok hkj e1 hfB j2 hi2 c2 hi3
          go_enter Tryz.func74, Tryz.ntmps74
          go_wp2_with (first
            | (go_at_call 60; refine (d_made HT.out).mono ?_; rintro e w' ⟨rfl, n1, rfl⟩)
            | (go_at_call 147; refine (d_word (HT.out.drewN n1) _).mono ?_; rintro e w' ⟨rfl, n2, rfl⟩; rw [HB.out])
            | (go_at_call 148; refine (d_find (by first | exact HT.out.drewN _ | exact (HT.out.drewN _).drewN _) _ HW64.out).mono ?_; rintro e w1 ⟨rfl, K3⟩; rw [HF.out.1, HF.out.2]; have HK1 := hid ((Kp.draw w _).chain K3); clear K3; have HT1 := hid (HT.out.kp0 HK1.out); obtain ⟨g, cap, hov, _, _, hgm, hO, _⟩ := HT1.out.ocell HI.out; have hc1 := HT1.out.c1; rw [hov] at hc1; have k5 := hO.c5; have k6 := hO.c6; clear hO hov hgm))
          have hrc := HT1.out.dcell HI.out HC2.out
          have hfr : w1.frozen? ⟨x.db, i3, none⟩ = false := by
            obtain ⟨⟨sp, B1⟩, sp2, B2⟩ := HT1.out.R x (List.mem_of_getElem? HI.out)
            exact B2.frozen i3
          generalize x.o.fs.getD (x.o.refs + i3) 0 = y at hrc
          go_wp2_with (go_at_call 141; refine (d_index HT1.out _).mono ?_; rintro e w' ⟨rfl, n4, rfl⟩; rw [HE.out])
          go_ret
          refine ⟨rfl, ?_⟩
          rw [HZ.out, HI3.out]
          exact DR.setData_end HT.out HI.out HC2.out v (HK1.out.chain (by first | exact Kp.draw _ _ | exact (Kp.draw _ _).drewN _ | exact ((Kp.draw _ _).drewN _).drewN _ | exact (((Kp.draw _ _).drewN _).drewN _).drewN _))
      · have e1 : m.pokeE (k : Int) = 4 := by simp [HM.pokeE, hb, hfB, j2]
        have e2 : m.pokeM (k : Int) v = m := by simp [HM.pokeM, e1]
        rw [e1, e2]
        by_cases j0 : 2 ≤ j
        · have hsub : (j : Int) - 2 = ((j - 2 : Nat) : Int) := by omega
          generalize hj9 : j - 2 = j9 at hsub
          have d1 : decide ((j9 : Int) < 0) = false := decide_eq_false (by omega)
          have d2 : decide ((x.o.refs : Int) + (x.o.data : Int) ≤ (j9 : Int)) = true := decide_eq_true (by omega)
          clear T hb h0 hko ho h1 h2 hi hx hok hkj e1 e2 hfB j2 j0 hj9
          go_enter Tryz.func74, Tryz.ntmps74
          go_wp2_with (first
            | (go_at_call 60; refine (d_made HT.out).mono ?_; rintro e w' ⟨rfl, n1, rfl⟩)
            | (go_at_call 147; refine (d_word (HT.out.drewN n1) _).mono ?_; rintro e w' ⟨rfl, n2, rfl⟩; rw [HB.out])
            | (go_at_call 148; refine (d_find (by first | exact HT.out.drewN _ | exact (HT.out.drewN _).drewN _) _ HW64.out).mono ?_; rintro e w1 ⟨rfl, K3⟩; rw [HF.out.1, HF.out.2]; have HK1 := hid ((Kp.draw w _).chain K3); clear K3; have HT1 := hid (HT.out.kp0 HK1.out); obtain ⟨g, cap, hov, _, _, hgm, hO, _⟩ := HT1.out.ocell HI.out; have hc1 := HT1.out.c1; rw [hov] at hc1; have k5 := hO.c5; have k6 := hO.c6; clear hO hov hgm))
          go_wp2_with (go_at_call 141; refine (d_index HT1.out _).mono ?_; rintro e w' ⟨rfl, n4, rfl⟩; rw [HE.out])
          go_ret
          exact ⟨rfl, DChg.same HT.out (HK1.out.chain (by first | exact Kp.draw _ _ | exact (Kp.draw _ _).drewN _ | exact ((Kp.draw _ _).drewN _).drewN _ | exact (((Kp.draw _ _).drewN _).drewN _).drewN _))⟩
        · have d1 : decide ((j : Int) - 2 < 0) = true := decide_eq_true (by omega)
          clear T hb h0 hko ho h1 h2 hi hx hok hkj e1 e2 hfB j2 j0
          go_enter Tryz.func74, Tryz.ntmps74
          go_wp2_with (first
            | (go_at_call 60; refine (d_made HT.out).mono ?_; rintro e w' ⟨rfl, n1, rfl⟩)
            | (go_at_call 147; refine (d_word (HT.out.drewN n1) _).mono ?_; rintro e w' ⟨rfl, n2, rfl⟩; rw [HB.out])
            | (go_at_call 148; refine (d_find (by first | exact HT.out.drewN _ | exact (HT.out.drewN _).drewN _) _ HW64.out).mono ?_; rintro e w1 ⟨rfl, K3⟩; rw [HF.out.1, HF.out.2]; have HK1 := hid ((Kp.draw w _).chain K3); clear K3; have HT1 := hid (HT.out.kp0 HK1.out); obtain ⟨g, cap, hov, _, _, hgm, hO, _⟩ := HT1.out.ocell HI.out; have hc1 := HT1.out.c1; rw [hov] at hc1; have k5 := hO.c5; have k6 := hO.c6; clear hO hov hgm))
          go_wp2_with (go_at_call 141; refine (d_index HT1.out _).mono ?_; rintro e w' ⟨rfl, n4, rfl⟩; rw [HE.out])
          go_ret
          exact ⟨rfl, DChg.same HT.out (HK1.out.chain (by first | exact Kp.draw _ _ | exact (Kp.draw _ _).drewN _ | exact ((Kp.draw _ _).drewN _).drewN _ | exact (((Kp.draw _ _).drewN _).drewN _).drewN _))⟩
end
end Go.Proofs.YtkkmlllajfafcaaGreat
