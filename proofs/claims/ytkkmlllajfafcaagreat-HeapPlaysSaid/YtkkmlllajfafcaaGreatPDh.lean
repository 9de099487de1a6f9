/-
  The contracts of the document's heap's Word, Poke. Conditions: those that stand in each theorem.
-/
import Derived.BigQuiet
import Derived.Deep.RegionHeld3
import Derived.Test.YtkkmlllajfafcaaGreatPDg
namespace Go.Proofs.YtkkmlllajfafcaaGreat
set_option linter.unusedVariables false
set_option linter.unusedSimpArgs false
open Go.RowKit Go.Deep Go.Maps

section
variable {w w' W : World} {d : DB} {q : Nat} {m : HM}
theorem own_at_ob (I : m.Inv) {k : Nat} (h : m.own k ≠ 0) : ∃ o, m.ob (m.own k) = some o ∧ m.own k ≤ k ∧ k < m.own k + o.wd := by
  rcases own_cases I k with ⟨a, o, h0, h1, h2, h3⟩ | ⟨h1, h2⟩
  · rw [h3]; exact ⟨o, h0, h1, h2⟩
  · exact absurd h2 h
set_option maxRecDepth 100000 in
set_option maxHeartbeats 2000000 in
theorem d_wordAt (T : DR w d q m) (a : Int) :
    Calls Tryz.prog 155 #[.pointer (some ⟨d.g, 0, none⟩), .int .i64 a] w fun e w' => e = .returned (.tuple #[.int .i64 (m.wordV a), .int .i64 (if inB m.n a then 0 else 1)]) ∧ Kp [] w w' := by
  have HT := hid T
  have hnb := T.inv.n_bd
  rcases hb : inB m.n a
  · have e1 : m.wordV a = 0 := by simp [HM.wordV, hb]
    rw [e1, if_neg (by simp)]
    have HB := hid hb
    clear T hb e1
    go_enter Tryz.func155, Tryz.ntmps155
    go_wp2_with (first
      | (go_at_call 60; refine (d_made HT.out).mono ?_; rintro e w' ⟨rfl, n1, rfl⟩)
      | (go_at_call 147; refine (d_word (HT.out.drewN n1) a).mono ?_; rintro e w' ⟨rfl, n2, rfl⟩; rw [HB.out]))
    go_ret2
    exact ⟨rfl, (by first | exact Kp.draw _ _ | exact (Kp.draw _ _).drewN _ | exact ((Kp.draw _ _).drewN _).drewN _ | exact (((Kp.draw _ _).drewN _).drewN _).drewN _)⟩
  · rw [if_pos rfl]
    have HB := hid hb
    have hbd := of_decide_eq_true hb
    obtain ⟨k, rfl⟩ : ∃ k : Nat, a = (k : Int) := ⟨a.toNat, by omega⟩
    have HW64 : Hid (W64 (k : Int)) := ⟨by omega, by omega⟩
    have hko : m.ownI (k : Int) = m.own k := by unfold HM.ownI; rw [if_pos (by omega), Int.toNat_natCast]
    by_cases h0 : m.own k = 0
    · have e1 : m.wordV (k : Int) = 0 := by
        unfold HM.wordV
        rw [if_pos hb, Int.toNat_natCast, h0]
        rcases ho : m.ob 0 with _ | o
        · rfl
        · have := T.inv.lo ho; omega
      have HF : Hid (m.ownI (k : Int) = 0 ∧ m.findE (k : Int) = 4) := ⟨by rw [hko, h0], by unfold HM.findE; rw [hko, if_pos h0]⟩
      rw [e1]
      clear T hb e1 h0 hko
      go_enter Tryz.func155, Tryz.ntmps155
      go_wp2_with (first
        | (go_at_call 60; refine (d_made HT.out).mono ?_; rintro e w' ⟨rfl, n1, rfl⟩)
        | (go_at_call 147; refine (d_word (HT.out.drewN n1) _).mono ?_; rintro e w' ⟨rfl, n2, rfl⟩; rw [HB.out])
        | (go_at_call 148; refine (d_find (by first | exact HT.out.drewN _ | exact (HT.out.drewN _).drewN _) _ HW64.out).mono ?_; rintro e w3 ⟨rfl, K3⟩; rw [HF.out.1, HF.out.2]; have HK3 := hid ((Kp.draw w _).chain K3); clear K3))
      go_ret2
      exact ⟨rfl, HK3.out⟩
    · obtain ⟨o, ho, h1, h2⟩ := own_at_ob T.inv h0
      obtain ⟨i, x, hi, hx, hxo⟩ := T.lst.get ho
      subst hxo
      have HF : Hid (m.ownI (k : Int) = x.a ∧ m.findE (k : Int) = 0) := ⟨by rw [hko, hx], by unfold HM.findE; rw [hko, if_neg h0]⟩
      obtain ⟨j, hkj⟩ : ∃ j, k = x.a + j := ⟨k - x.a, by omega⟩
      have HW : Hid (m.wordV (k : Int) = x.o.word j) := by
        show _ = _
        unfold HM.wordV
        rw [if_pos hb, Int.toNat_natCast, ho]
        simp only
        rw [← hx, hkj, Nat.add_sub_cancel_left]
      have HIB : Hid (inB m.n (k : Int) = true) := hb
      have hok := T.ok hi
      have hbd2 := hok.bd
      have hlen := T.len
      have hil := (List.getElem?_eq_some_iff.1 hi).1
      have hhi := T.inv.hi (T.lst.ob hi)
      have hwd := hok.wd_bd
      have hjw : j < x.o.wd := by omega
      have HOK := hid hok
      have HE := hid (T.lst.ix_at hi)
      have HI := hid hi
      have HKJ := hid hkj
      clear T hb h0 hko ho h1 h2 hi hx hok hkj
      go_enter Tryz.func155, Tryz.ntmps155
      go_wp2_with (first
        | (go_at_call 60; refine (d_made HT.out).mono ?_; rintro e w' ⟨rfl, n1, rfl⟩)
        | (go_at_call 147; refine (d_word (HT.out.drewN n1) _).mono ?_; rintro e w' ⟨rfl, n2, rfl⟩; rw [HB.out])
        | (go_at_call 148; refine (d_find (by first | exact HT.out.drewN _ | exact (HT.out.drewN _).drewN _) _ HW64.out).mono ?_; rintro e w1 ⟨rfl, K3⟩; rw [HF.out.1, HF.out.2]; have HK1 := hid ((Kp.draw w _).chain K3); clear K3))
      have HT1 := hid (HT.out.kp0 HK1.out)
      obtain ⟨g, cap, hov, _, _, hgm, hO, _⟩ := HT1.out.ocell HI.out
      have hc1 := HT1.out.c1
      rw [hov] at hc1
      have HO := hid hO
      have HLT : Hid (d.g < w1.heap.size ∧ g < w1.heap.size) := ⟨HT1.out.lt _ (by simp [DB.all]), HT1.out.lt _ hgm⟩
      have HSZ : Hid (w.heap.size ≤ w1.heap.size) := HK1.out.size
      have hkj := HKJ.out
      have hsj0 : (k : Int) - (x.a : Int) = (j : Int) := by omega
      clear hO hov hgm hkj
      refine wp_region_held_drew (S := fun W => IX W d g d.os.length cap i x) (by kernel_rfl) ?_ (fun hHeld => ?_)
      · exact ⟨kp_cellD (Kp.draw _ 1) hc1, HO.out.kp0 (Kp.draw _ 1)⟩
      refine wpAnyH_take (i := 0) (v := _) rfl (by kernel_rfl) (by kernel_rfl) (by kernel_rfl) (fun _ _ _ h => h) (Or.inl ⟨by rfl, by (intro wz hSw; go_simp; try with_reducible rfl)⟩) (by assumption) ?_
      refine wpAnyH_take (i := 1) (v := _) rfl (by kernel_rfl) (by kernel_rfl) (by kernel_rfl) (fun _ _ _ h => h) (Or.inl ⟨by rfl, by (intro wz hSw; go_simp; try with_reducible rfl)⟩) (by assumption) ?_
      refine wpAnyH_take (i := 2) (v := _) rfl (by kernel_rfl) (by kernel_rfl) (by kernel_rfl) (fun _ _ _ h => h) (Or.inl ⟨by rfl, by (intro wz hSw; go_simp; try with_reducible rfl)⟩) (by assumption) ?_
      refine wpAnyH_take (i := 3) (v := _) rfl (by kernel_rfl) (by kernel_rfl) (by kernel_rfl) (fun _ _ _ h => h) (Or.inl ⟨by rfl, by (intro wz hSw; have hcj := hSw.s; go_simp; try with_reducible rfl)⟩) (by assumption) ?_
      refine wpAnyH_take (i := 4) (v := _) rfl (by kernel_rfl) (by kernel_rfl) (by kernel_rfl) (fun _ _ _ h => h) (Or.inl ⟨by rfl, by (intro wz hSw; go_simp; try with_reducible rfl)⟩) (by assumption) ?_
      refine wpAnyH_take (i := 5) (v := _) rfl (by kernel_rfl) (by kernel_rfl) (by kernel_rfl) (fun _ _ _ h => h) (Or.inl ⟨by rfl, by (intro wz hSw; go_simp; try with_reducible rfl)⟩) (by assumption) ?_
      refine wpAnyH_ready (rs := [6, 9]) (by kernel_rfl) (by simp) ?_
      refine (AllReadyH.cons rfl (fun K hK => ?_) (AllReadyH.cons rfl (fun K hK => ?_) AllReadyH.nil))
      · go_simp
        refine (d_index (HT1.out.kp0 (Kp.draw _ 1)) _).mono ?_
        rintro e w2 ⟨rfl, h2⟩
        rw [HE.out]
        have HK2 := hid ((Kp.draw w1 1).chain (Kp.of_drewN h2))
        have HJ2 := hid (Kp.of_drewN h2)
        clear h2
        try go_wp2_with fail
        refine hK.out _ _ ?_ (fun hHeld => ?_)
        · exact hHeld.kp0 HJ2.out
        clear hK K
        refine wpAnyH_take (i := 7) (v := _) rfl (by kernel_rfl) (by kernel_rfl) (by kernel_rfl) (fun _ _ _ h => h) (Or.inl ⟨by rfl, by (intro wz hSw; go_simp; try with_reducible rfl)⟩) (by assumption) ?_
        refine wpAnyH_take (i := 8) (v := _) rfl (by kernel_rfl) (by kernel_rfl) (by kernel_rfl) (fun _ _ _ h => h) (Or.inl ⟨by rfl, by (intro wz hSw; have hcj := hSw.o; have k0 := hcj.c0; have k1 := hcj.c1; have k2 := hcj.c2; have k3 := hcj.c3; have k4 := hcj.c4; have k5 := hcj.c5; have k6 := hcj.c6; have k7 := hcj.c7; go_simp; try with_reducible rfl)⟩) (by assumption) ?_
        refine wpAnyH_ready (rs := [9]) (by kernel_rfl) (by simp) ?_
        refine AllReadyH.cons rfl (fun K hK => ?_) AllReadyH.nil
        go_simp
        refine hK.out _ _ ?_ (fun hHeld => ?_)
        · exact hHeld.kp0 (Kp.new _ _)
        clear hK K
        refine wpAnyH_ready (rs := [10]) (by kernel_rfl) (by simp) ?_
        refine AllReadyH.cons rfl (fun K hK => ?_) AllReadyH.nil
        obtain ⟨hth, hkb, hrb⟩ := obox (g := w2.heap.size) (Blk.new w2 109 #[.int .i64 0, .int .i64 0, .int .i64 0, .int .i64 0, .int .i64 0, .slice none 0 0, .slice none 0 0, .bool false]) rfl (HK1.out.chain (HK2.out.chain (Kp.new _ _))) (by have := HSZ.out; have := HK2.out.size; simp at this ⊢; omega) #[.int .i64 (x.a : Int), .int .i64 (x.o.id : Int), .int .i64 (x.o.refs : Int), .int .i64 (x.o.data : Int), .int .i64 (x.o.kind : Int), .slice (some ⟨x.rb, 0, none⟩) x.o.refs x.rc, .slice (some ⟨x.db, 0, none⟩) x.o.data x.dc, .bool x.o.pin] rfl
        have HKB := hid hkb
        have HRB := hid hrb
        refine step_store_midD (by rfl) 109 (.tmp 8) (.tmp 33) (by rfl) w2.heap.size 0 #[.int .i64 (x.a : Int), .int .i64 (x.o.id : Int), .int .i64 (x.o.refs : Int), .int .i64 (x.o.data : Int), .int .i64 (x.o.kind : Int), .slice (some ⟨x.rb, 0, none⟩) x.o.refs x.rc, .slice (some ⟨x.db, 0, none⟩) x.o.data x.dc, .bool x.o.pin] (by rfl) (by rfl) hth objInfo (objOne x) ?_
        clear hth hkb hrb
        refine hK.out _ _ ?_ (fun hHeld => ?_)
        · exact hHeld.kp (Kp.setCells _ _ _ _) (by have := HLT.out.1; have := HK2.out.size; simp at this ⊢; omega) (by have := HLT.out.2; have := HK2.out.size; simp at this ⊢; omega)
        clear hK K
        refine wpAnyH_done (by kernel_rfl) ?_ _
        clear hHeld
        have hrb := HRB.out
        generalize (w2.alloc (.cells #[.int .i64 0, .int .i64 0, .int .i64 0, .int .i64 0, .int .i64 0, .slice none 0 0, .slice none 0 0, .bool false] 109)).setCells w2.heap.size 0 (#[.int .i64 (x.a : Int), .int .i64 (x.o.id : Int), .int .i64 (x.o.refs : Int), .int .i64 (x.o.data : Int), .int .i64 (x.o.kind : Int), .slice (some ⟨x.rb, 0, none⟩) x.o.refs x.rc, .slice (some ⟨x.db, 0, none⟩) x.o.data x.dc, .bool x.o.pin] : Array Value).toList = V at HKB hrb ⊢
        have k1 : V.cell? ⟨w2.heap.size, 1, none⟩ = some (.int .i64 (x.o.id : Int)) := hrb 1 _ rfl
        have k2 : V.cell? ⟨w2.heap.size, 2, none⟩ = some (.int .i64 (x.o.refs : Int)) := hrb 2 _ rfl
        have k3 : V.cell? ⟨w2.heap.size, 3, none⟩ = some (.int .i64 (x.o.data : Int)) := hrb 3 _ rfl
        have k4 : V.cell? ⟨w2.heap.size, 4, none⟩ = some (.int .i64 (x.o.kind : Int)) := hrb 4 _ rfl
        have k5 : V.cell? ⟨w2.heap.size, 5, none⟩ = some (.slice (some ⟨x.rb, 0, none⟩) x.o.refs x.rc) := hrb 5 _ rfl
        have k6 : V.cell? ⟨w2.heap.size, 6, none⟩ = some (.slice (some ⟨x.db, 0, none⟩) x.o.data x.dc) := hrb 6 _ rfl
        have HKV := hid HKB.out
        clear hrb
        by_cases j0 : j = 0
        · have HV : Hid (m.wordV (k : Int) = (x.o.id : Int)) := by show _ = _; rw [HW.out, j0]; simp [Ob.word]
          have z0 : ((j : Int) == 0) = true := beq_iff_eq.2 (by omega)
          clear j0
          go_wp2
          go_ret2
          rw [HV.out]
          exact ⟨rfl, HKV.out⟩
        · have z0 : ((j : Int) == 0) = false := beq_eq_false_iff_ne.2 (by omega)
          by_cases j1 : j = 1
          · have HV : Hid (m.wordV (k : Int) = (x.o.refs : Int) + 16 * (x.o.data : Int) + 4096 * (x.o.kind : Int)) := by show _ = _; rw [HW.out, j1]; simp [Ob.word, Ob.sh, shN]
            have z1 : ((j : Int) == 1) = true := beq_iff_eq.2 (by omega)
            clear j0 j1
            go_wp2
            go_ret2
            rw [HV.out]
            exact ⟨rfl, HKV.out⟩
          · have z1 : ((j : Int) == 1) = false := beq_eq_false_iff_ne.2 (by omega)
            obtain ⟨i2, hi2⟩ : ∃ i2, j = i2 + 2 := ⟨j - 2, by omega⟩
            have hsub : (j : Int) - 2 = (i2 : Int) := by omega
            have HI2 := hid hi2
            by_cases c2 : i2 < x.o.refs
            · have hrc := cell_kp HKV.out (HT.out.rcell HI.out c2)
              have HV : Hid (m.wordV (k : Int) = x.o.fs.getD i2 0) := by show _ = _; rw [HW.out, hi2]; simp [Ob.word]
              generalize x.o.fs.getD i2 0 = y at hrc HV
              have e1 : decide ((j : Int) < 2 + (x.o.refs : Int)) = true := decide_eq_true (by omega)
              clear j0 j1 hi2
              go_wp2
              go_ret2
              rw [HV.out]
              exact ⟨rfl, HKV.out⟩
            · have e1 : decide ((j : Int) < 2 + (x.o.refs : Int)) = false := decide_eq_false (by omega)
              by_cases c3 : i2 < x.o.refs + x.o.data
              · obtain ⟨i3, hi3⟩ : ∃ i3, i2 = x.o.refs + i3 := ⟨i2 - x.o.refs, by omega⟩
                have h3 : i3 < x.o.data := by omega
                have hdc := cell_kp HKV.out (HT.out.dcell HI.out h3)
                have HV : Hid (m.wordV (k : Int) = x.o.fs.getD (x.o.refs + i3) 0) := by show _ = _; rw [HW.out, hi2, hi3]; simp [Ob.word]
                generalize x.o.fs.getD (x.o.refs + i3) 0 = y at hdc HV
                have e2 : decide ((j : Int) < 2 + (x.o.refs : Int) + (x.o.data : Int)) = true := decide_eq_true (by omega)
                have hsub2 : (i2 : Int) - (x.o.refs : Int) = (i3 : Int) := by omega
                clear j0 j1 hi2 hi3 c2 c3
                go_wp2
                go_ret2
                rw [HV.out]
                exact ⟨rfl, HKV.out⟩
              · have HV : Hid (m.wordV (k : Int) = 0) := by
                  show _ = _
                  rw [HW.out, hi2]
                  simp only [Ob.word]
                  rw [if_neg (by omega), if_neg (by omega), List.getD_eq_getElem?_getD, List.getElem?_eq_none (by rw [HOK.out.len]; omega)]
                  rfl
                have e2 : decide ((j : Int) < 2 + (x.o.refs : Int) + (x.o.data : Int)) = false := decide_eq_false (by omega)
                clear j0 j1 hi2 c2 c3
                go_wp2
                go_ret2
                rw [HV.out]
                exact ⟨rfl, HKV.out⟩
      · go_simp
        refine hK.out _ _ ?_ (fun hHeld => ?_)
        · exact hHeld.kp0 (Kp.new _ _)
        clear hK K
        refine wpAnyH_ready (rs := [6]) (by kernel_rfl) (by simp) ?_
        refine AllReadyH.cons rfl (fun K hK => ?_) AllReadyH.nil
        go_simp
        refine (d_index (HT1.out.kp0 ((Kp.draw _ 1).chain (Kp.new _ _))) _).mono ?_
        rintro e w2 ⟨rfl, h2⟩
        rw [HE.out]
        have HK2 := hid ((((Kp.draw w1 1).chain (Kp.new _ (.cells #[.int .i64 0, .int .i64 0, .int .i64 0, .int .i64 0, .int .i64 0, .slice none 0 0, .slice none 0 0, .bool false] 109)))).chain (Kp.of_drewN h2))
        have HJ2 := hid (Kp.of_drewN h2)
        clear h2
        try go_wp2_with fail
        refine hK.out _ _ ?_ (fun hHeld => ?_)
        · exact hHeld.kp0 HJ2.out
        clear hK K
        refine wpAnyH_take (i := 7) (v := _) rfl (by kernel_rfl) (by kernel_rfl) (by kernel_rfl) (fun _ _ _ h => h) (Or.inl ⟨by rfl, by (intro wz hSw; go_simp; try with_reducible rfl)⟩) (by assumption) ?_
        refine wpAnyH_take (i := 8) (v := _) rfl (by kernel_rfl) (by kernel_rfl) (by kernel_rfl) (fun _ _ _ h => h) (Or.inl ⟨by rfl, by (intro wz hSw; have hcj := hSw.o; have k0 := hcj.c0; have k1 := hcj.c1; have k2 := hcj.c2; have k3 := hcj.c3; have k4 := hcj.c4; have k5 := hcj.c5; have k6 := hcj.c6; have k7 := hcj.c7; go_simp; try with_reducible rfl)⟩) (by assumption) ?_
        refine wpAnyH_ready (rs := [10]) (by kernel_rfl) (by simp) ?_
        refine AllReadyH.cons rfl (fun K hK => ?_) AllReadyH.nil
        obtain ⟨hth, hkb, hrb⟩ := obox (g := w1.heap.size) (((Blk.new w1.drew 109 #[.int .i64 0, .int .i64 0, .int .i64 0, .int .i64 0, .int .i64 0, .slice none 0 0, .slice none 0 0, .bool false]).kp HJ2.out (by simp) : Blk w2 w1.heap.size _ _)) rfl (HK1.out.chain (HK2.out)) (by have := HSZ.out; have := HK2.out.size; simp at this ⊢; omega) #[.int .i64 (x.a : Int), .int .i64 (x.o.id : Int), .int .i64 (x.o.refs : Int), .int .i64 (x.o.data : Int), .int .i64 (x.o.kind : Int), .slice (some ⟨x.rb, 0, none⟩) x.o.refs x.rc, .slice (some ⟨x.db, 0, none⟩) x.o.data x.dc, .bool x.o.pin] rfl
        have HKB := hid hkb
        have HRB := hid hrb
        refine step_store_midD (by rfl) 109 (.tmp 8) (.tmp 33) (by rfl) w1.heap.size 0 #[.int .i64 (x.a : Int), .int .i64 (x.o.id : Int), .int .i64 (x.o.refs : Int), .int .i64 (x.o.data : Int), .int .i64 (x.o.kind : Int), .slice (some ⟨x.rb, 0, none⟩) x.o.refs x.rc, .slice (some ⟨x.db, 0, none⟩) x.o.data x.dc, .bool x.o.pin] (by rfl) (by rfl) hth objInfo (objOne x) ?_
        clear hth hkb hrb
        refine hK.out _ _ ?_ (fun hHeld => ?_)
        · exact hHeld.kp (Kp.setCells _ _ _ _) (by have := HLT.out.1; have := HK2.out.size; simp at this ⊢; omega) (by have := HLT.out.2; have := HK2.out.size; simp at this ⊢; omega)
        clear hK K
        refine wpAnyH_done (by kernel_rfl) ?_ _
        clear hHeld
        have hrb := HRB.out
        generalize (w2).setCells w1.heap.size 0 (#[.int .i64 (x.a : Int), .int .i64 (x.o.id : Int), .int .i64 (x.o.refs : Int), .int .i64 (x.o.data : Int), .int .i64 (x.o.kind : Int), .slice (some ⟨x.rb, 0, none⟩) x.o.refs x.rc, .slice (some ⟨x.db, 0, none⟩) x.o.data x.dc, .bool x.o.pin] : Array Value).toList = V at HKB hrb ⊢
        have k1 : V.cell? ⟨w1.heap.size, 1, none⟩ = some (.int .i64 (x.o.id : Int)) := hrb 1 _ rfl
        have k2 : V.cell? ⟨w1.heap.size, 2, none⟩ = some (.int .i64 (x.o.refs : Int)) := hrb 2 _ rfl
        have k3 : V.cell? ⟨w1.heap.size, 3, none⟩ = some (.int .i64 (x.o.data : Int)) := hrb 3 _ rfl
        have k4 : V.cell? ⟨w1.heap.size, 4, none⟩ = some (.int .i64 (x.o.kind : Int)) := hrb 4 _ rfl
        have k5 : V.cell? ⟨w1.heap.size, 5, none⟩ = some (.slice (some ⟨x.rb, 0, none⟩) x.o.refs x.rc) := hrb 5 _ rfl
        have k6 : V.cell? ⟨w1.heap.size, 6, none⟩ = some (.slice (some ⟨x.db, 0, none⟩) x.o.data x.dc) := hrb 6 _ rfl
        have HKV := hid HKB.out
        clear hrb
        by_cases j0 : j = 0
        · have HV : Hid (m.wordV (k : Int) = (x.o.id : Int)) := by show _ = _; rw [HW.out, j0]; simp [Ob.word]
          have z0 : ((j : Int) == 0) = true := beq_iff_eq.2 (by omega)
          clear j0
          go_wp2
          go_ret2
          rw [HV.out]
          exact ⟨rfl, HKV.out⟩
        · have z0 : ((j : Int) == 0) = false := beq_eq_false_iff_ne.2 (by omega)
          by_cases j1 : j = 1
          · have HV : Hid (m.wordV (k : Int) = (x.o.refs : Int) + 16 * (x.o.data : Int) + 4096 * (x.o.kind : Int)) := by show _ = _; rw [HW.out, j1]; simp [Ob.word, Ob.sh, shN]
            have z1 : ((j : Int) == 1) = true := beq_iff_eq.2 (by omega)
            clear j0 j1
            go_wp2
            go_ret2
            rw [HV.out]
            exact ⟨rfl, HKV.out⟩
          · have z1 : ((j : Int) == 1) = false := beq_eq_false_iff_ne.2 (by omega)
            obtain ⟨i2, hi2⟩ : ∃ i2, j = i2 + 2 := ⟨j - 2, by omega⟩
            have hsub : (j : Int) - 2 = (i2 : Int) := by omega
            have HI2 := hid hi2
            by_cases c2 : i2 < x.o.refs
            · have hrc := cell_kp HKV.out (HT.out.rcell HI.out c2)
              have HV : Hid (m.wordV (k : Int) = x.o.fs.getD i2 0) := by show _ = _; rw [HW.out, hi2]; simp [Ob.word]
              generalize x.o.fs.getD i2 0 = y at hrc HV
              have e1 : decide ((j : Int) < 2 + (x.o.refs : Int)) = true := decide_eq_true (by omega)
              clear j0 j1 hi2
              go_wp2
              go_ret2
              rw [HV.out]
              exact ⟨rfl, HKV.out⟩
            · have e1 : decide ((j : Int) < 2 + (x.o.refs : Int)) = false := decide_eq_false (by omega)
              by_cases c3 : i2 < x.o.refs + x.o.data
              · obtain ⟨i3, hi3⟩ : ∃ i3, i2 = x.o.refs + i3 := ⟨i2 - x.o.refs, by omega⟩
                have h3 : i3 < x.o.data := by omega
                have hdc := cell_kp HKV.out (HT.out.dcell HI.out h3)
                have HV : Hid (m.wordV (k : Int) = x.o.fs.getD (x.o.refs + i3) 0) := by show _ = _; rw [HW.out, hi2, hi3]; simp [Ob.word]
                generalize x.o.fs.getD (x.o.refs + i3) 0 = y at hdc HV
                have e2 : decide ((j : Int) < 2 + (x.o.refs : Int) + (x.o.data : Int)) = true := decide_eq_true (by omega)
                have hsub2 : (i2 : Int) - (x.o.refs : Int) = (i3 : Int) := by omega
                clear j0 j1 hi2 hi3 c2 c3
                go_wp2
                go_ret2
                rw [HV.out]
                exact ⟨rfl, HKV.out⟩
              · have HV : Hid (m.wordV (k : Int) = 0) := by
                  show _ = _
                  rw [HW.out, hi2]
                  simp only [Ob.word]
                  rw [if_neg (by omega), if_neg (by omega), List.getD_eq_getElem?_getD, List.getElem?_eq_none (by rw [HOK.out.len]; omega)]
                  rfl
                have e2 : decide ((j : Int) < 2 + (x.o.refs : Int) + (x.o.data : Int)) = false := decide_eq_false (by omega)
                clear j0 j1 hi2 c2 c3
                go_wp2
                go_ret2
                rw [HV.out]
                exact ⟨rfl, HKV.out⟩
end
end Go.Proofs.YtkkmlllajfafcaaGreat
