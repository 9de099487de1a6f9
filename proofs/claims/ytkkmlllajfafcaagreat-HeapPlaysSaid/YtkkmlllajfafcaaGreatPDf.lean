/-
  The contracts of the document's heap's pin, Pin, Unpin, SetRef, SetData, Shape, Find. Conditions: those that stand in each theorem.
-/
import Derived.BigQuiet
import Derived.Deep.RegionHeld3
import Derived.Test.YtkkmlllajfafcaaGreatPG13
namespace Go.Proofs.YtkkmlllajfafcaaGreat
set_option linter.unusedVariables false
set_option linter.unusedSimpArgs false
open Go.RowKit Go.Deep Go.Maps

section
variable {w w' W : World} {d : DB} {q : Nat} {m : HM}
theorem DR.setRef_end (T : DR w d q m) {i : Nat} {x : DO} (hi : d.os[i]? = some x) {j : Nat} (hj : j < x.o.refs) (v : Int) (k : Kp [] w W) : DChg w d q (m.setF x.a j v) (W.setCell ⟨x.rb, j, none⟩ (.int .i64 v)) :=
  DChg.in_ ((T.kp0 k).setRef hi hj v) rfl (all_setD hi rfl) (k.chain0 (Kp.cell W ⟨x.rb, j, none⟩ _)) (fun y hy => by simp at hy; subst hy; exact .inl (DR.row_mem (List.mem_of_getElem? hi)).1)
theorem DR.setData_end (T : DR w d q m) {i : Nat} {x : DO} (hi : d.os[i]? = some x) {j : Nat} (hj : j < x.o.data) (v : Int) (k : Kp [] w W) : DChg w d q (m.setF x.a (x.o.refs + j) v) (W.setCell ⟨x.db, j, none⟩ (.int .i64 v)) :=
  DChg.in_ ((T.kp0 k).setData hi hj v) rfl (all_setD hi rfl) (k.chain0 (Kp.cell W ⟨x.db, j, none⟩ _)) (fun y hy => by simp at hy; subst hy; exact .inl (DR.row_mem (List.mem_of_getElem? hi)).2)
theorem DR.setPin_end (T : DR w d q m) {i : Nat} {x : DO} (hi : d.os[i]? = some x) {g n c : Nat} (hv : d.ov = .slice (some ⟨g, 0, none⟩) n c) (p : Bool) (k : Kp [] w W) : DChg w d q (m.add x.a (x.o.setPin p)) (W.setCell ⟨g, i * 8 + 7, none⟩ (.bool p)) :=
  DChg.in_ ((T.kp0 k).setPin hi hv p) rfl (all_setD hi rfl) (k.chain0 (Kp.cell W ⟨g, i * 8 + 7, none⟩ _)) (fun y hy => by simp at hy; subst hy; exact .inl (by simp [DB.all, hv, Value.ownBlock]))
set_option maxRecDepth 100000 in
set_option maxHeartbeats 1000000 in
theorem d_setref (T : DR w d q m) (a j v : Int) :
    Calls Tryz.prog 70 #[.pointer (some ⟨d.g, 0, none⟩), .int .i64 a, .int .i64 j, .int .i64 v] w fun e w' => e = .returned (.int .i64 (m.setRefE a j v)) ∧ DChg w d q (m.setRefM a j v) w' := by
  have HT := hid T
  rcases hh : m.has a
  · have e0 : m.refE a j = 4 := by simp [HM.refE, hh]
    have e1 : m.setRefE a j v = 4 := by simp [HM.setRefE, e0]
    have e2 : m.setRefM a j v = m := by simp [HM.setRefM, HM.setRefE, e0]
    have e3 : m.lackE a = 4 := by simp [HM.lackE, hh]
    rw [e1, e2]
    have HL := hid e3
    clear T hh e0 e1 e2 e3
    go_enter Tryz.func70, Tryz.ntmps70
    go_wp2_with (go_at_call 139; refine (d_lacks HT.out a).mono ?_; rintro e w' ⟨rfl, n1, rfl⟩; rw [HL.out])
    go_ret
    first | exact ⟨rfl, DChg.same HT.out (Kp.draw _ _)⟩ | (rw [HL.out]; exact ⟨rfl, DChg.same HT.out (Kp.draw _ _)⟩)
  · obtain ⟨i, x, hi, hx, hix, ho⟩ := T.lst.ix hh
    have e3 : m.lackE a = 0 := by simp [HM.lackE, hh]
    subst hx
    rw [Int.toNat_natCast] at ho
    have HL := hid e3
    have HH := hid hh
    have HO := hid ho
    have hok := T.ok hi
    have hbd := hok.bd
    have hlen := T.len
    have hil := (List.getElem?_eq_some_iff.1 hi).1
    have hnb := T.inv.n_bd
    have hhi := T.inv.hi ho
    have HE := hid hix
    have HI := hid hi
    obtain ⟨g, cap, hov, hcl, _, hgm, hO, hfz⟩ := T.ocell hi
    have hc1 := T.c1
    rw [hov] at hc1
    by_cases h0 : 0 ≤ j
    · by_cases h1 : j < (x.o.refs : Int)
      · obtain ⟨j, rfl⟩ : ∃ k : Nat, j = (k : Int) := ⟨j.toNat, by omega⟩
        have hj : j < x.o.refs := by omega
        have HJ := hid hj
        have HEJ : Hid (m.refE (x.a : Int) (j : Int) = 0) := by show _ = _; simp [HM.refE, hh, ho, show inB x.o.refs (j : Int) = true from decide_eq_true ⟨by omega, by omega⟩]
        have hfr : w.frozen? ⟨x.rb, j, none⟩ = false := by
          obtain ⟨⟨sp, B1⟩, sp2, B2⟩ := T.R x (List.mem_of_getElem? hi)
          first | exact B1.frozen j | exact B2.frozen j
        have hrc := T.rcell hi hj
        have hk := hO.c5
        generalize x.o.fs.getD _ 0 = y at hrc
        have e1 : decide ((j : Int) < 0) = false := decide_eq_false (by omega)
        by_cases hv0 : v = 0
        · subst hv0
          have HZ : Hid (m.setRefM (x.a : Int) (j : Int) 0 = m.setF x.a j 0) := by show _ = _; simp [HM.setRefM, HM.setRefE, HEJ.out]
          rw [show m.setRefE (x.a : Int) (j : Int) 0 = 0 by simp [HM.setRefE, HEJ.out]]
          have HV : Hid (m.has 0 = m.has 0) := rfl
          clear T hh hi hix ho e3 hok hov hO hfz hgm
          go_enter Tryz.func70, Tryz.ntmps70
          go_wp2_with (first
            | (go_at_call 139; refine (d_lacks (by first | exact HT.out | exact HT.out.drewN _) _).mono ?_; rintro e w' ⟨rfl, n1, rfl⟩; rw [HL.out])
            | (go_at_call 141; refine (d_index (by first | exact HT.out | exact HT.out.drewN _) _).mono ?_; rintro e w' ⟨rfl, n2, rfl⟩; rw [HE.out])
            | (go_at_call 144; refine (d_has (by first | exact HT.out | exact HT.out.drewN _ | exact (HT.out.drewN _).drewN _) _).mono ?_; rintro e w' ⟨rfl, n3, rfl⟩; rw [HV.out]))
          go_ret
          refine ⟨rfl, ?_⟩
          rw [HZ.out]
          exact DR.setRef_end HT.out HI.out HJ.out 0 (by first | exact Kp.draw _ _ | exact (Kp.draw _ _).drewN _ | exact ((Kp.draw _ _).drewN _).drewN _ | exact (((Kp.draw _ _).drewN _).drewN _).drewN _)
        · have ev : (v == 0) = false := beq_eq_false_iff_ne.2 hv0
          have ev2 : (v != 0) = true := bne_iff_ne.2 hv0
          rcases hhv : m.has v
          · have HV := hid hhv
            rw [show m.setRefE (x.a : Int) (j : Int) v = 1 by simp [HM.setRefE, HEJ.out, hv0, hhv], show m.setRefM (x.a : Int) (j : Int) v = m by simp [HM.setRefM, HM.setRefE, HEJ.out, hv0, hhv]]
            clear T hh hi hix ho e3 hok hov hO hfz hgm hhv
            go_enter Tryz.func70, Tryz.ntmps70
            go_wp2_with (first
              | (go_at_call 139; refine (d_lacks (by first | exact HT.out | exact HT.out.drewN _) _).mono ?_; rintro e w' ⟨rfl, n1, rfl⟩; rw [HL.out])
              | (go_at_call 141; refine (d_index (by first | exact HT.out | exact HT.out.drewN _) _).mono ?_; rintro e w' ⟨rfl, n2, rfl⟩; rw [HE.out])
              | (go_at_call 144; refine (d_has (by first | exact HT.out | exact HT.out.drewN _ | exact (HT.out.drewN _).drewN _) _).mono ?_; rintro e w' ⟨rfl, n3, rfl⟩; rw [HV.out]))
            go_ret
            exact ⟨rfl, DChg.same HT.out (by first | exact Kp.draw _ _ | exact (Kp.draw _ _).drewN _ | exact ((Kp.draw _ _).drewN _).drewN _ | exact (((Kp.draw _ _).drewN _).drewN _).drewN _)⟩
          · have HV := hid hhv
            have HZ : Hid (m.setRefM (x.a : Int) (j : Int) v = m.setF x.a j v) := by show _ = _; simp [HM.setRefM, HM.setRefE, HEJ.out, hhv]
            rw [show m.setRefE (x.a : Int) (j : Int) v = 0 by simp [HM.setRefE, HEJ.out, hhv]]
            clear hhv
            clear T hh hi hix ho e3 hok hov hO hfz hgm
            go_enter Tryz.func70, Tryz.ntmps70
            go_wp2_with (first
              | (go_at_call 139; refine (d_lacks (by first | exact HT.out | exact HT.out.drewN _) _).mono ?_; rintro e w' ⟨rfl, n1, rfl⟩; rw [HL.out])
              | (go_at_call 141; refine (d_index (by first | exact HT.out | exact HT.out.drewN _) _).mono ?_; rintro e w' ⟨rfl, n2, rfl⟩; rw [HE.out])
              | (go_at_call 144; refine (d_has (by first | exact HT.out | exact HT.out.drewN _ | exact (HT.out.drewN _).drewN _) _).mono ?_; rintro e w' ⟨rfl, n3, rfl⟩; rw [HV.out]))
            go_ret
            refine ⟨rfl, ?_⟩
            rw [HZ.out]
            exact DR.setRef_end HT.out HI.out HJ.out v (by first | exact Kp.draw _ _ | exact (Kp.draw _ _).drewN _ | exact ((Kp.draw _ _).drewN _).drewN _ | exact (((Kp.draw _ _).drewN _).drewN _).drewN _)
      · have e1 : decide (j < 0) = false := decide_eq_false (by omega)
        have HV : Hid (m.has 0 = m.has 0) := rfl
        have HZ : Hid (m.setRefE (x.a : Int) j v = 1 ∧ m.setRefM (x.a : Int) j v = m) := by
          have e : m.refE (x.a : Int) j = 1 := by simp [HM.refE, hh, ho, show inB x.o.refs j = false from decide_eq_false (by omega)]
          exact ⟨by simp [HM.setRefE, e], by simp [HM.setRefM, HM.setRefE, e]⟩
        rw [HZ.out.1, HZ.out.2]
        have hk := hO.c5
        clear T hh hi hix ho e3 hok hov hO hfz hgm
        go_enter Tryz.func70, Tryz.ntmps70
        go_wp2_with (first
          | (go_at_call 139; refine (d_lacks (by first | exact HT.out | exact HT.out.drewN _) _).mono ?_; rintro e w' ⟨rfl, n1, rfl⟩; rw [HL.out])
          | (go_at_call 141; refine (d_index (by first | exact HT.out | exact HT.out.drewN _) _).mono ?_; rintro e w' ⟨rfl, n2, rfl⟩; rw [HE.out])
          | (go_at_call 144; refine (d_has (by first | exact HT.out | exact HT.out.drewN _ | exact (HT.out.drewN _).drewN _) _).mono ?_; rintro e w' ⟨rfl, n3, rfl⟩; rw [HV.out]))
        go_ret
        exact ⟨rfl, DChg.same HT.out (by first | exact Kp.draw _ _ | exact (Kp.draw _ _).drewN _ | exact ((Kp.draw _ _).drewN _).drewN _ | exact (((Kp.draw _ _).drewN _).drewN _).drewN _)⟩
    · have e1 : decide (j < 0) = true := decide_eq_true (by omega)
      have HV : Hid (m.has 0 = m.has 0) := rfl
      have HZ : Hid (m.setRefE (x.a : Int) j v = 1 ∧ m.setRefM (x.a : Int) j v = m) := by
        have e : m.refE (x.a : Int) j = 1 := by simp [HM.refE, hh, ho, show inB x.o.refs j = false from decide_eq_false (by omega)]
        exact ⟨by simp [HM.setRefE, e], by simp [HM.setRefM, HM.setRefE, e]⟩
      rw [HZ.out.1, HZ.out.2]
      have hk := hO.c5
      clear T hh hi hix ho e3 hok hov hO hfz hgm
      go_enter Tryz.func70, Tryz.ntmps70
      go_wp2_with (first
        | (go_at_call 139; refine (d_lacks (by first | exact HT.out | exact HT.out.drewN _) _).mono ?_; rintro e w' ⟨rfl, n1, rfl⟩; rw [HL.out])
        | (go_at_call 141; refine (d_index (by first | exact HT.out | exact HT.out.drewN _) _).mono ?_; rintro e w' ⟨rfl, n2, rfl⟩; rw [HE.out])
        | (go_at_call 144; refine (d_has (by first | exact HT.out | exact HT.out.drewN _ | exact (HT.out.drewN _).drewN _) _).mono ?_; rintro e w' ⟨rfl, n3, rfl⟩; rw [HV.out]))
      go_ret
      exact ⟨rfl, DChg.same HT.out (by first | exact Kp.draw _ _ | exact (Kp.draw _ _).drewN _ | exact ((Kp.draw _ _).drewN _).drewN _ | exact (((Kp.draw _ _).drewN _).drewN _).drewN _)⟩
set_option maxRecDepth 100000 in
set_option maxHeartbeats 1000000 in
theorem d_setdata (T : DR w d q m) (a j v : Int) :
    Calls Tryz.prog 72 #[.pointer (some ⟨d.g, 0, none⟩), .int .i64 a, .int .i64 j, .int .i64 v] w fun e w' => e = .returned (.int .i64 (m.datE a j)) ∧ DChg w d q (m.setDatM a j v) w' := by
  have HT := hid T
  rcases hh : m.has a
  · have e0 : m.datE a j = 4 := by simp [HM.datE, hh]
    have e1 : m.datE a j = 4 := by simp [ e0]
    have e2 : m.setDatM a j v = m := by simp [HM.setDatM, e0]
    have e3 : m.lackE a = 4 := by simp [HM.lackE, hh]
    rw [e1, e2]
    have HL := hid e3
    clear T hh e0 e1 e2 e3
    go_enter Tryz.func72, Tryz.ntmps72
    go_wp2_with (go_at_call 139; refine (d_lacks HT.out a).mono ?_; rintro e w' ⟨rfl, n1, rfl⟩; rw [HL.out])
    go_ret
    first | exact ⟨rfl, DChg.same HT.out (Kp.draw _ _)⟩ | (rw [HL.out]; exact ⟨rfl, DChg.same HT.out (Kp.draw _ _)⟩)
  · obtain ⟨i, x, hi, hx, hix, ho⟩ := T.lst.ix hh
    have e3 : m.lackE a = 0 := by simp [HM.lackE, hh]
    subst hx
    rw [Int.toNat_natCast] at ho
    have HL := hid e3
    have HH := hid hh
    have HO := hid ho
    have hok := T.ok hi
    have hbd := hok.bd
    have hlen := T.len
    have hil := (List.getElem?_eq_some_iff.1 hi).1
    have hnb := T.inv.n_bd
    have hhi := T.inv.hi ho
    have HE := hid hix
    have HI := hid hi
    obtain ⟨g, cap, hov, hcl, _, hgm, hO, hfz⟩ := T.ocell hi
    have hc1 := T.c1
    rw [hov] at hc1
    by_cases h0 : 0 ≤ j
    · by_cases h1 : j < (x.o.data : Int)
      · obtain ⟨j, rfl⟩ : ∃ k : Nat, j = (k : Int) := ⟨j.toNat, by omega⟩
        have hj : j < x.o.data := by omega
        have HJ := hid hj
        have HEJ : Hid (m.datE (x.a : Int) (j : Int) = 0) := by show _ = _; simp [HM.datE, hh, ho, show inB x.o.data (j : Int) = true from decide_eq_true ⟨by omega, by omega⟩]
        have hfr : w.frozen? ⟨x.db, j, none⟩ = false := by
          obtain ⟨⟨sp, B1⟩, sp2, B2⟩ := T.R x (List.mem_of_getElem? hi)
          first | exact B1.frozen j | exact B2.frozen j
        have hrc := T.dcell hi hj
        have hk := hO.c6
        generalize x.o.fs.getD _ 0 = y at hrc
        have e1 : decide ((j : Int) < 0) = false := decide_eq_false (by omega)
        have HZ : Hid (m.setDatM (x.a : Int) (j : Int) v = m.setF x.a (x.o.refs + j) v) := by show _ = _; simp [HM.setDatM, HEJ.out, HM.datOff, ho]
        rw [HEJ.out]
        have HV : Hid (m.has 0 = m.has 0) := rfl
        clear T hh hi hix ho e3 hok hov hO hfz hgm
        go_enter Tryz.func72, Tryz.ntmps72
        go_wp2_with (first
          | (go_at_call 139; refine (d_lacks (by first | exact HT.out | exact HT.out.drewN _) _).mono ?_; rintro e w' ⟨rfl, n1, rfl⟩; rw [HL.out])
          | (go_at_call 141; refine (d_index (by first | exact HT.out | exact HT.out.drewN _) _).mono ?_; rintro e w' ⟨rfl, n2, rfl⟩; rw [HE.out])
          | (go_at_call 144; refine (d_has (by first | exact HT.out | exact HT.out.drewN _ | exact (HT.out.drewN _).drewN _) _).mono ?_; rintro e w' ⟨rfl, n3, rfl⟩; rw [HV.out]))
        go_ret
        refine ⟨rfl, ?_⟩
        rw [HZ.out]
        exact DR.setData_end HT.out HI.out HJ.out v (by first | exact Kp.draw _ _ | exact (Kp.draw _ _).drewN _ | exact ((Kp.draw _ _).drewN _).drewN _ | exact (((Kp.draw _ _).drewN _).drewN _).drewN _)
      · have e1 : decide (j < 0) = false := decide_eq_false (by omega)
        have HV : Hid (m.has 0 = m.has 0) := rfl
        have HZ : Hid (m.datE (x.a : Int) j = 1 ∧ m.setDatM (x.a : Int) j v = m) := by
          have e : m.datE (x.a : Int) j = 1 := by simp [HM.datE, hh, ho, show inB x.o.data j = false from decide_eq_false (by omega)]
          exact ⟨by simp [ e], by simp [HM.setDatM, e]⟩
        rw [HZ.out.1, HZ.out.2]
        have hk := hO.c6
        clear T hh hi hix ho e3 hok hov hO hfz hgm
        go_enter Tryz.func72, Tryz.ntmps72
        go_wp2_with (first
          | (go_at_call 139; refine (d_lacks (by first | exact HT.out | exact HT.out.drewN _) _).mono ?_; rintro e w' ⟨rfl, n1, rfl⟩; rw [HL.out])
          | (go_at_call 141; refine (d_index (by first | exact HT.out | exact HT.out.drewN _) _).mono ?_; rintro e w' ⟨rfl, n2, rfl⟩; rw [HE.out])
          | (go_at_call 144; refine (d_has (by first | exact HT.out | exact HT.out.drewN _ | exact (HT.out.drewN _).drewN _) _).mono ?_; rintro e w' ⟨rfl, n3, rfl⟩; rw [HV.out]))
        go_ret
        exact ⟨rfl, DChg.same HT.out (by first | exact Kp.draw _ _ | exact (Kp.draw _ _).drewN _ | exact ((Kp.draw _ _).drewN _).drewN _ | exact (((Kp.draw _ _).drewN _).drewN _).drewN _)⟩
    · have e1 : decide (j < 0) = true := decide_eq_true (by omega)
      have HV : Hid (m.has 0 = m.has 0) := rfl
      have HZ : Hid (m.datE (x.a : Int) j = 1 ∧ m.setDatM (x.a : Int) j v = m) := by
        have e : m.datE (x.a : Int) j = 1 := by simp [HM.datE, hh, ho, show inB x.o.data j = false from decide_eq_false (by omega)]
        exact ⟨by simp [ e], by simp [HM.setDatM, e]⟩
      rw [HZ.out.1, HZ.out.2]
      have hk := hO.c6
      clear T hh hi hix ho e3 hok hov hO hfz hgm
      go_enter Tryz.func72, Tryz.ntmps72
      go_wp2_with (first
        | (go_at_call 139; refine (d_lacks (by first | exact HT.out | exact HT.out.drewN _) _).mono ?_; rintro e w' ⟨rfl, n1, rfl⟩; rw [HL.out])
        | (go_at_call 141; refine (d_index (by first | exact HT.out | exact HT.out.drewN _) _).mono ?_; rintro e w' ⟨rfl, n2, rfl⟩; rw [HE.out])
        | (go_at_call 144; refine (d_has (by first | exact HT.out | exact HT.out.drewN _ | exact (HT.out.drewN _).drewN _) _).mono ?_; rintro e w' ⟨rfl, n3, rfl⟩; rw [HV.out]))
      go_ret
      exact ⟨rfl, DChg.same HT.out (by first | exact Kp.draw _ _ | exact (Kp.draw _ _).drewN _ | exact ((Kp.draw _ _).drewN _).drewN _ | exact (((Kp.draw _ _).drewN _).drewN _).drewN _)⟩
set_option maxRecDepth 100000 in
set_option maxHeartbeats 1000000 in
theorem d_pinb (T : DR w d q m) (a : Int) (p : Bool) :
    Calls Tryz.prog 150 #[.pointer (some ⟨d.g, 0, none⟩), .int .i64 a, .bool p] w fun e w' => e = .returned (.int .i64 (m.lackE a)) ∧ DChg w d q (m.pinM a p) w' := by
  have HT := hid T
  rcases hh : m.has a
  · have e2 : m.pinM a p = m := by simp [HM.pinM, hh]
    have e3 : m.lackE a = 4 := by simp [HM.lackE, hh]
    rw [e2]
    have HL := hid e3
    clear T hh e2 e3
    go_enter Tryz.func150, Tryz.ntmps150
    go_wp2_with (go_at_call 139; refine (d_lacks HT.out a).mono ?_; rintro e w' ⟨rfl, n1, rfl⟩; rw [HL.out])
    go_ret
    first | exact ⟨rfl, DChg.same HT.out (Kp.draw _ _)⟩ | (rw [HL.out]; exact ⟨rfl, DChg.same HT.out (Kp.draw _ _)⟩)
  · obtain ⟨i, x, hi, hx, hix, ho⟩ := T.lst.ix hh
    have e3 : m.lackE a = 0 := by simp [HM.lackE, hh]
    subst hx
    rw [Int.toNat_natCast] at ho
    have HL := hid e3
    have HH := hid hh
    have HO := hid ho
    have hok := T.ok hi
    have hbd := hok.bd
    have hlen := T.len
    have hil := (List.getElem?_eq_some_iff.1 hi).1
    have hnb := T.inv.n_bd
    have hhi := T.inv.hi ho
    have HE := hid hix
    have HI := hid hi
    obtain ⟨g, cap, hov, hcl, _, hgm, hO, hfz⟩ := T.ocell hi
    have hc1 := T.c1
    rw [hov] at hc1

    have HZ : Hid (m.pinM (x.a : Int) p = m.add x.a (x.o.setPin p)) := by show _ = _; simp [HM.pinM, hh, ho]
    have HOV := hid hov
    have HNE : Hid (d.g ≠ g) := fun e => (T.nd'.2.1 g (by rw [hov]; rfl)).1 e.symm
    rw [e3]
    clear T hh hi hix ho e3 hok hov hO hfz hgm hc1
    go_enter Tryz.func150, Tryz.ntmps150
    go_wp2_with (go_at_call 139; refine (d_lacks HT.out _).mono ?_; rintro e w1 ⟨rfl, h1⟩; rw [HL.out]; have HK1 := hid (Kp.of_drewN h1); clear h1)
    have HT1 := hid (HT.out.kp0 HK1.out)
    have hc1 := HT1.out.c1
    rw [HOV.out] at hc1
    refine wp_region_held_drew (S := fun W => W.cell? ⟨d.g, 1, none⟩ = some (.slice (some ⟨g, 0, none⟩) d.os.length cap)) (by kernel_rfl) ?_ (fun hHeld => ?_)
    · exact kp_cellD (Kp.draw _ 1) hc1
    refine wpAnyH_take (i := 0) (v := _) rfl (by kernel_rfl) (by kernel_rfl) (by kernel_rfl) (fun _ _ _ h => h) (Or.inl ⟨by rfl, by (intro wz hSw; go_simp; try with_reducible rfl)⟩) (by assumption) ?_
    refine wpAnyH_take (i := 1) (v := _) rfl (by kernel_rfl) (by kernel_rfl) (by kernel_rfl) (fun _ _ _ h => h) (Or.inl ⟨by rfl, by (intro wz hSw; go_simp; try with_reducible rfl)⟩) (by assumption) ?_
    refine wpAnyH_take (i := 2) (v := _) rfl (by kernel_rfl) (by kernel_rfl) (by kernel_rfl) (fun _ _ _ h => h) (Or.inl ⟨by rfl, by (intro wz hSw; go_simp; try with_reducible rfl)⟩) (by assumption) ?_
    refine wpAnyH_take (i := 3) (v := _) rfl (by kernel_rfl) (by kernel_rfl) (by kernel_rfl) (fun _ _ _ h => h) (Or.inl ⟨by rfl, by (intro wz hSw; have hcj := hSw; go_simp; try with_reducible rfl)⟩) (by assumption) ?_
    refine wpAnyH_take (i := 4) (v := _) rfl (by kernel_rfl) (by kernel_rfl) (by kernel_rfl) (fun _ _ _ h => h) (Or.inl ⟨by rfl, by (intro wz hSw; go_simp; try with_reducible rfl)⟩) (by assumption) ?_
    refine wpAnyH_take (i := 5) (v := _) rfl (by kernel_rfl) (by kernel_rfl) (by kernel_rfl) (fun _ _ _ h => h) (Or.inl ⟨by rfl, by (intro wz hSw; go_simp; try with_reducible rfl)⟩) (by assumption) ?_
    refine wpAnyH_take (i := 7) (v := _) rfl (by kernel_rfl) (by kernel_rfl) (by kernel_rfl) (fun _ _ _ h => h) (Or.inl ⟨by rfl, by (intro wz hSw; go_simp; try with_reducible rfl)⟩) (by assumption) ?_
    refine wpAnyH_ready (rs := [6]) (by kernel_rfl) (by simp) ?_
    refine AllReadyH.cons rfl (fun K hK => ?_) AllReadyH.nil
    go_simp
    refine (d_index (HT1.out.kp0 (Kp.draw _ 1)) _).mono ?_
    rintro e w2 ⟨rfl, h2⟩
    rw [HE.out]
    have HK2 := hid ((Kp.draw w1 1).chain (Kp.of_drewN h2))
    have HJ2 := hid (Kp.of_drewN h2)
    clear h2
    have HT2 := hid (HT1.out.kp0 HK2.out)
    obtain ⟨g', cap', hov', _, _, _, hO', hfz'⟩ := HT2.out.ocell HI.out
    rw [HOV.out] at hov'
    cases hov'
    have k7 := hO'.c7
    have f7 := hfz' (i * 8 + 7)
    clear hO' hfz'
    try go_wp2_with fail
    refine hK.out _ _ ?_ (fun hHeld => ?_)
    · exact kp_cellD HJ2.out hHeld
    clear hK K
    refine wpAnyH_take (i := 8) (v := _) rfl (by kernel_rfl) (by kernel_rfl) (by kernel_rfl) (fun _ _ _ h => h) (Or.inl ⟨by rfl, by (intro wz hSw; go_simp; try with_reducible rfl)⟩) (by assumption) ?_
    refine wpAnyH_take (i := 9) (v := _) rfl (by kernel_rfl) (by kernel_rfl) (by kernel_rfl) (fun _ _ _ h => h) (Or.inl ⟨by rfl, by (intro wz hSw; go_simp; try with_reducible rfl)⟩) (by assumption) ?_
    refine wpAnyH_ready (rs := [10]) (by kernel_rfl) (by simp) ?_
    refine AllReadyH.cons rfl (fun K hK => ?_) AllReadyH.nil
    go_simp
    refine hK.out _ _ ?_ (fun hHeld => ?_)
    · exact cell_kps (Kp.cell w2 ⟨g, i * 8 + 7, none⟩ _) hHeld (by simp; exact HNE.out)
    clear hK K
    refine wpAnyH_done (by kernel_rfl) ?_ _
    clear hHeld
    go_wp2
    go_ret
    refine ⟨rfl, ?_⟩
    rw [HZ.out]
    exact DR.setPin_end HT.out HI.out HOV.out p (HK1.out.chain HK2.out)
theorem d_pin (T : DR w d q m) (a : Int) :
    Calls Tryz.prog 76 #[.pointer (some ⟨d.g, 0, none⟩), .int .i64 a] w fun e w' => e = .returned (.int .i64 (m.lackE a)) ∧ DChg w d q (m.pinM a true) w' := by
  have HT := hid T
  clear T
  go_enter Tryz.func76, Tryz.ntmps76
  go_wp2_with (go_at_call 150; refine (d_pinb HT.out a true).mono ?_; rintro e w' ⟨rfl, C⟩; have HC := hid C; clear C)
  go_ret
  exact ⟨rfl, HC.out⟩
theorem d_unpin (T : DR w d q m) (a : Int) :
    Calls Tryz.prog 78 #[.pointer (some ⟨d.g, 0, none⟩), .int .i64 a] w fun e w' => e = .returned (.int .i64 (m.lackE a)) ∧ DChg w d q (m.pinM a false) w' := by
  have HT := hid T
  clear T
  go_enter Tryz.func78, Tryz.ntmps78
  go_wp2_with (go_at_call 150; refine (d_pinb HT.out a false).mono ?_; rintro e w' ⟨rfl, C⟩; have HC := hid C; clear C)
  go_ret
  exact ⟨rfl, HC.out⟩
end
end Go.Proofs.YtkkmlllajfafcaaGreat
